/- PytokenTexts, walked over what the program's Scan answers. -/
import Derived.Test.YtogbgllmmdgaaaaDoorYLawA
import Derived.Test.YtogbgllmmdgaaaaDoorYPRow
import Derived.Test.YtogbgllmmdgaaaaDoorYTexts
import Derived.Test.YtogbgllmmdgaaaaDoorYPText
namespace Go.Proofs.YtogbgllmmdgaaaaDoor
open Go.RowKit

def escU (q0 b : UInt8) : List UInt8 :=
  let e := if b = 10 ∨ b = 13 then 45 else b
  if e = q0 ∨ e = 92 then [92, e] else [e]
theorem escU_nat (q0 b : UInt8) : (escU q0 b).map (·.toNat) = escC q0.toNat b.toNat := by
  have key : ∀ x y : UInt8, x = y ↔ x.toNat = y.toNat := fun x y => ⟨fun h => by rw [h], fun h => UInt8.toNat_inj.1 h⟩
  unfold escU escC
  simp only [key]
  have e10 : (10 : UInt8).toNat = 10 := rfl
  have e13 : (13 : UInt8).toNat = 13 := rfl
  have e92 : (92 : UInt8).toNat = 92 := rfl
  have e45 : (45 : UInt8).toNat = 45 := rfl
  rw [e10, e13, e92]
  by_cases h : b.toNat = 10 ∨ b.toNat = 13
  · rw [if_pos h, if_pos h, e45]
    split <;> simp
  · rw [if_neg h, if_neg h]
    split <;> simp
def pfxB : List ByteArray := [⟨#[]⟩, ⟨#[114]⟩, ⟨#[66]⟩, ⟨#[114, 98]⟩, ⟨#[70, 114]⟩, ⟨#[117]⟩]
def quoL : List ByteArray := [quoB 1, quoB 2, quoB 3, quoB 4]
theorem pfxB_bl : ∀ (j : Nat) (h : j < 6), bl (pfxB[j]'h) ∈ pfx ∧ (pfxB[j]'h).size ≤ 2 := by
  intro j h
  match j, h with
  | 0, _ => exact (by decide : bl (⟨#[]⟩ : ByteArray) ∈ pfx ∧ (⟨#[]⟩ : ByteArray).size ≤ 2)
  | 1, _ => exact (by decide : bl (⟨#[114]⟩ : ByteArray) ∈ pfx ∧ (⟨#[114]⟩ : ByteArray).size ≤ 2)
  | 2, _ => exact (by decide : bl (⟨#[66]⟩ : ByteArray) ∈ pfx ∧ (⟨#[66]⟩ : ByteArray).size ≤ 2)
  | 3, _ => exact (by decide : bl (⟨#[114, 98]⟩ : ByteArray) ∈ pfx ∧ (⟨#[114, 98]⟩ : ByteArray).size ≤ 2)
  | 4, _ => exact (by decide : bl (⟨#[70, 114]⟩ : ByteArray) ∈ pfx ∧ (⟨#[70, 114]⟩ : ByteArray).size ≤ 2)
  | 5, _ => exact (by decide : bl (⟨#[117]⟩ : ByteArray) ∈ pfx ∧ (⟨#[117]⟩ : ByteArray).size ≤ 2)
theorem quoL_at : ∀ (j : Nat) (h : j < 4), quoL[j]'h = quoB (j + 1) := by
  intro j h
  match j, h with
  | 0, _ => rfl
  | 1, _ => rfl
  | 2, _ => rfl
  | 3, _ => rfl
theorem quoB_q0 {m : Nat} (h1 : 1 ≤ m) (h4 : m ≤ 4) : ∃ q : UInt8, q.toNat = q0N m ∧ ∀ h : 0 < (quoB m).size, (quoB m)[0] = q := by
  have : m = 1 ∨ m = 2 ∨ m = 3 ∨ m = 4 := by omega
  rcases this with rfl | rfl | rfl | rfl
  · exact ⟨39, rfl, fun _ => rfl⟩
  · exact ⟨34, rfl, fun _ => rfl⟩
  · exact ⟨39, rfl, fun _ => rfl⟩
  · exact ⟨34, rfl, fun _ => rfl⟩
theorem rowT_up {w W w2 : World} {v : Value} {l : List UInt8} {tmp : Obj} (hu : Up w W) (ho : RowT W w.heap.size v l) (hgrow : (W.alloc tmp).grownBy w2 v.ownBlock) : Up w w2 :=
  (hu.trans (Up.alloc W tmp)).grown hgrow (by have := Below.size hu; rw [World.size_alloc]; omega) fun k hk => ho.base hk
theorem bl_mk (l : List UInt8) : bl ⟨l.toArray⟩ = l.map (·.toNat) := by simp [bl]
theorem escU_len (q0 b : UInt8) : (escU q0 b).length ≤ 2 := by
  unfold escU
  dsimp only
  generalize (if b = 10 ∨ b = 13 then 45 else b) = e
  split
  · exact Nat.le_refl 2
  · exact Nat.le_succ 1
theorem esc_len (q0 : UInt8) : ∀ l : List UInt8, (l.flatMap (escU q0)).length ≤ 2 * l.length
  | [] => by simp
  | b :: r => by
    have := esc_len q0 r
    have := escU_len q0 b
    rw [List.flatMap_cons, List.length_append, List.length_cons]
    omega
theorem esc_map (q0 : UInt8) (l : List UInt8) : (l.flatMap (escU q0)).map (·.toNat) = escL q0.toNat (l.map (·.toNat)) := by
  induction l with
  | nil => rfl
  | cons b r ih =>
    rw [List.flatMap_cons, List.map_append, escU_nat, ih]
    rfl
theorem byte_nat {a : Int} (h : (Lit.int .u8 a).wf = true) : ∃ m : Nat, a = (m : Int) ∧ m < 256 := by
  simp [Lit.wf, IntKind.min, IntKind.max, IntKind.signed, IntKind.bits] at h
  exact ⟨a.toNat, by omega, by omega⟩
section
variable (hC : ScanC)
include hC
set_option maxRecDepth 100000 in
set_option maxHeartbeats 4000000 in
theorem texts_walk (w : World) (hT : TabsP w) (k0 k1 : Nat) (s : ByteArray) : Calls Tryd.prog 5 #[.int .u8 (k0 : Nat), .int .u8 (k1 : Nat), .string s] w fun e w' => e = .returned (.bool true) ∧ Up w w' := by
  have HR := Lib.hid (fun W (h : TabsP W) => reads_any hC W h)
  have HT := Lib.hid hT
  by_cases hs : (s.size : Int) ≤ 2000
  · have f0 : decide ((2000 : Int) < s.size) = false := decide_eq_false (by omega)
    have f1 : decide (2000 < s.size) = false := decide_eq_false (by omega)
    have j6 : k0 % 6 < 6 := Nat.mod_lt _ (by omega)
    have j4 : k1 % 4 < 4 := Nat.mod_lt _ (by omega)
    obtain ⟨hp1, hp2⟩ := pfxB_bl (k0 % 6) j6
    have hq1 := quoL_at (k1 % 4) j4
    obtain ⟨P, hP⟩ : ∃ P, pfxB[k0 % 6]'j6 = P := ⟨_, rfl⟩
    obtain ⟨m, hm⟩ : ∃ m, k1 % 4 + 1 = m := ⟨_, rfl⟩
    have hm1 : 1 ≤ m := by omega
    have hm4 : m ≤ 4 := by omega
    have c1 : (w.alloc (.cells #[.string ⟨#[]⟩, .string ⟨#[114]⟩, .string ⟨#[66]⟩, .string ⟨#[114, 98]⟩, .string ⟨#[70, 114]⟩, .string ⟨#[117]⟩] 9)).cell? ⟨w.heap.size, k0 % 6, none⟩ = some (.string P) := by
      rw [← hP]
      exact strs_cell w 9 pfxB j6
    obtain ⟨W1, hW1⟩ : ∃ W1, w.alloc (.cells #[.string ⟨#[]⟩, .string ⟨#[114]⟩, .string ⟨#[66]⟩, .string ⟨#[114, 98]⟩, .string ⟨#[70, 114]⟩, .string ⟨#[117]⟩] 9) = W1 := ⟨_, rfl⟩
    have hu1 : Up w W1 := by rw [← hW1]; exact Up.alloc w _
    rw [hW1] at c1
    have c2 : (W1.alloc (.cells #[.string ⟨#[39, 39, 39]⟩, .string ⟨#[34, 34, 34]⟩, .string ⟨#[39]⟩, .string ⟨#[34]⟩] 9)).cell? ⟨W1.heap.size, k1 % 4, none⟩ = some (.string (quoB m)) := by
      rw [← hm, ← hq1]
      exact strs_cell W1 9 quoL j4
    have hqs1 := quoB_pos m
    have hqs3 := quoB_le m
    obtain ⟨q0, hq0, hq0b⟩ := quoB_q0 hm1 hm4
    have hq0c := hq0b hqs1
    have hblq := quoB_bl m
    rw [hP] at hp1 hp2
    obtain ⟨Q, hQ⟩ : ∃ Q, quoB m = Q := ⟨_, rfl⟩
    have hq00 : ∀ h : 0 < Q.size, Q[0].toNat = q0N m := fun h => by
      subst hQ
      rw [hq0c, hq0]
    rw [hQ] at c2 hqs1 hqs3 hblq
    obtain ⟨W2, hW2⟩ : ∃ W2, W1.alloc (.cells #[.string ⟨#[39, 39, 39]⟩, .string ⟨#[34, 34, 34]⟩, .string ⟨#[39]⟩, .string ⟨#[34]⟩] 9) = W2 := ⟨_, rfl⟩
    have hu2 : Up w W2 := by rw [← hW2]; exact hu1.trans (Up.alloc W1 _)
    rw [hW2] at c2
    have g0 : ¬ (9223372036854775807 : Int) < (P.size : Int) + (Q.size : Int) := by omega
    have hPQ : (P ++ Q).size ≤ 5 := by rw [ByteArray.size_append]; omega
    obtain ⟨t1, t2, t3⟩ := conv_T W2 (P ++ Q) w.heap.size (Below.size hu2) (by omega)
    obtain ⟨V0, hV0⟩ : ∃ V0, Value.slice (some ⟨W2.heap.size, 0, none⟩) (P ++ Q).size (grownCap W2 (P ++ Q).size 0 UB) = V0 := ⟨_, rfl⟩
    obtain ⟨W3, hW3⟩ : ∃ W3, Lib.bytesWorld W2 UB (P ++ Q) = W3 := ⟨_, rfl⟩
    obtain ⟨L0, hL0⟩ : ∃ L0, (P ++ Q).data.toList = L0 := ⟨_, rfl⟩
    rw [hV0, hW3] at t1 t2
    rw [hW3] at t3
    rw [hL0] at t2
    have HO0 := Lib.hid t2
    have HU0 := Lib.hid (hu2.trans t3)
    have HL0 := Lib.hid (show L0.length ≤ 5 ∧ L0.map (·.toNat) = bl P ++ quo m from ⟨by rw [← hL0, ← Lib.size_eq]; exact hPQ, by rw [← hL0, ← hblq, ← bl_append]; rfl⟩)
    have HP := Lib.hid hp1
    have HM := Lib.hid (show 1 ≤ m ∧ m ≤ 4 from ⟨hm1, hm4⟩)
    have HQ := Lib.hid (show 1 ≤ Q.size ∧ Q.size ≤ 3 ∧ bl Q = quo m from ⟨hqs1, hqs3, hblq⟩)
    have HQ0 := Lib.hid hq0
    have hqz : (0 : Int) < (Q.size : Int) := by omega
    have HS := Lib.hid hs
    have j6' : (k0 : Int) % 6 < 6 := by omega
    have j6'' : (0 : Int) ≤ (k0 : Int) % 6 := by omega
    have j4' : (k1 : Int) % 4 < 4 := by omega
    have j4'' : (0 : Int) ≤ (k1 : Int) % 4 := by omega
    obtain ⟨qn, hqn⟩ : ∃ qn, q0N m = qn := ⟨_, rfl⟩
    rw [hqn] at hq00 HQ0
    have hq00' := hq00 hqs1
    have HQN := Lib.hid hqn
    have hqc : qn = 39 ∨ qn = 34 := by rw [← hqn]; unfold q0N; split <;> simp
    have HQC := Lib.hid hqc
    clear hT hs hp1 hp2 hq1 hP hm hm1 hm4 hu1 hqs3 hq0 hq0b hq0c hblq hQ hu2 hPQ t2 t3 hV0 hW3 hL0 hqn hqc hq00
    go_enter Tryd.func5, Tryd.ntmps5
    go_wp2
    clear hW1 hW2 c1 c2 t1 g0 f0 f1 j6' j6'' j4' j4''
    go_loopg [9, 10] s.size (fun g bv iv wr => ∃ k : Nat, g = s.size - k ∧ iv = .int .i64 (k : Nat) ∧ Hid (k ≤ s.size) ∧ Hid (RowT wr w.heap.size bv (L0 ++ (s.data.toList.take k).flatMap (escU q0))) ∧ Hid (Up w wr))
    case atStart => exact ⟨0, rfl, rfl, Lib.hid (Nat.zero_le _), Lib.hid (by rw [List.take_zero, List.flatMap_nil, List.append_nil]; exact HO0.out), HU0⟩
    case round =>
      clear HO0 HU0
      obtain ⟨k, hg, rfl, HK, HO, HU⟩ := hrel
      have HG := Lib.hid hg
      clear hg
      by_cases hlt : k < s.size
      · obtain ⟨y, hyy⟩ : ∃ y : UInt8, s[k] = y := ⟨_, rfl⟩
        obtain ⟨x, hy⟩ : ∃ x : Nat, y.toNat = x := ⟨_, rfl⟩
        have hx : s[k].toNat = x := by rw [hyy]; exact hy
        have hkl : k < s.data.toList.length := by rw [← Lib.size_eq]; exact hlt
        have HTK := Lib.hid (show L0 ++ (s.data.toList.take (k + 1)).flatMap (escU q0) = (L0 ++ (s.data.toList.take k).flatMap (escU q0)) ++ escU q0 y from by
          have e1 : s.data.toList.take (k + 1) = s.data.toList.take k ++ [y] := by
            rw [List.take_add_one, List.getElem?_eq_getElem hkl]
            have : s.data.toList[k] = y := by rw [← hyy]; rfl
            rw [this]; rfl
          rw [e1, List.flatMap_append, List.append_assoc]
          simp)
        have HLK := Lib.hid (show (L0 ++ (s.data.toList.take k).flatMap (escU q0)).length ≤ 9000 from by
          have h1 := esc_len q0 (s.data.toList.take k)
          rw [List.length_take] at h1
          rw [List.length_append]
          have := HL0.out.1
          have := HS.out
          omega)
        generalize L0 ++ (s.data.toList.take k).flatMap (escU q0) = LK at HO HTK HLK
        have HKK := Lib.hid hlt
        have p0 : (0 : Int) ≤ (k : Int) := by omega
        have p1 : (k : Int) < s.size := by omega
        have e2 : IntKind.i64.wrap ((k : Int) + 1) = (k : Int) + 1 := IntWalk.i64_in _ (by have := HS.out; omega)
        have y10 : y = 10 ↔ x = 10 := ⟨fun h => by rw [← hy, h]; rfl, fun h => UInt8.toNat_inj.1 (by rw [hy, h]; rfl)⟩
        have y13 : y = 13 ↔ x = 13 := ⟨fun h => by rw [← hy, h]; rfl, fun h => UInt8.toNat_inj.1 (by rw [hy, h]; rfl)⟩
        have y92 : y = 92 ↔ x = 92 := ⟨fun h => by rw [← hy, h]; rfl, fun h => UInt8.toNat_inj.1 (by rw [hy, h]; rfl)⟩
        have yq : y = q0 ↔ x = qn := ⟨fun h => by rw [← hy, h]; exact HQ0.out, fun h => UInt8.toNat_inj.1 (by rw [hy, h]; exact HQ0.out.symm)⟩
        have hq45 : ((45 : Int) == (qn : Int)) = false := beq_eq_false_iff_ne.2 (by have := HQC.out; omega)
        have hu45 : (45 : UInt8) ≠ q0 := fun h => by
          have h2 := congrArg UInt8.toNat h
          rw [HQ0.out] at h2
          have h3 : (45 : UInt8).toNat = 45 := rfl
          have := HQC.out
          omega
        by_cases h10 : x = 10 ∨ x = 13
        · have HE := Lib.hid (show escU q0 y = [45] from by
            have hyb : y = 10 ∨ y = 13 := h10.elim (fun h => .inl (y10.2 h)) (fun h => .inr (y13.2 h))
            unfold escU
            simp only [if_pos hyb]
            rw [if_neg (fun h => h.elim hu45 (by decide))])
          clear y10 y13 y92 yq hu45 hkl hyy
          rcases h10 with h | h
          · subst h
            clear hy
            go_wp2_with (at_builtin; (refine wpList_append_T _ rfl _ _ rfl w.heap.size _ _ rfl (HO.out.kept (Up.alloc wr _)) ⟨wr.heap.size, 0, none⟩ 1 45 rfl (cell_new0 _ _ _ 0 _ rfl) (by have := HLK.out; omega) (by have := Below.size HU.out; rw [World.size_alloc]; omega) ?_; intro v5 w5 hown hgrow; have HO5 := Lib.hid hown; have HU5 := Lib.hid (rowT_up HU.out HO.out hgrow); clear hown hgrow))
            go_roundg (s.size - (k + 1))
            case measure => rw [HG.out]; have := HKK.out; omega
            case rel => exact ⟨k + 1, rfl, by go_num, Lib.hid HKK.out, Lib.hid (by rw [HTK.out, HE.out]; exact HO5.out), HU5⟩
          · subst h
            clear hy
            go_wp2_with (at_builtin; (refine wpList_append_T _ rfl _ _ rfl w.heap.size _ _ rfl (HO.out.kept (Up.alloc wr _)) ⟨wr.heap.size, 0, none⟩ 1 45 rfl (cell_new0 _ _ _ 0 _ rfl) (by have := HLK.out; omega) (by have := Below.size HU.out; rw [World.size_alloc]; omega) ?_; intro v5 w5 hown hgrow; have HO5 := Lib.hid hown; have HU5 := Lib.hid (rowT_up HU.out HO.out hgrow); clear hown hgrow))
            go_roundg (s.size - (k + 1))
            case measure => rw [HG.out]; have := HKK.out; omega
            case rel => exact ⟨k + 1, rfl, by go_num, Lib.hid HKK.out, Lib.hid (by rw [HTK.out, HE.out]; exact HO5.out), HU5⟩
        have n10 : ((x : Int) == 10) = false := beq_eq_false_iff_ne.2 (by omega)
        have n13 : ((x : Int) == 13) = false := beq_eq_false_iff_ne.2 (by omega)
        have hny : ¬ (y = 10 ∨ y = 13) := fun h => h10 (h.elim (fun h => .inl (y10.1 h)) (fun h => .inr (y13.1 h)))
        by_cases hxq : x = qn
        · have HE := Lib.hid (show escU q0 y = [92, y] from by
            unfold escU
            simp only [if_neg hny]
            rw [if_pos (.inl (yq.2 hxq))])
          clear y10 y13 y92 yq hu45 hkl hyy h10 hny
          subst hxq
          go_upto_region 14 with (at_builtin; (refine wpList_append_T _ rfl _ _ rfl w.heap.size _ _ rfl (HO.out.kept (Up.alloc wr _)) ⟨wr.heap.size, 0, none⟩ 1 92 rfl (cell_new0 _ _ _ 0 _ rfl) (by have := HLK.out; omega) (by have := Below.size HU.out; rw [World.size_alloc]; omega) ?_; intro v5 w5 hown hgrow; have HO5 := Lib.hid hown; have HU5 := Lib.hid (rowT_up HU.out HO.out hgrow); clear hown hgrow))
          go_wp2_with (at_builtin; (refine wpList_append_T _ rfl _ _ rfl w.heap.size _ _ rfl (HO5.out.kept (Up.alloc w5 _)) ⟨w5.heap.size, 0, none⟩ 1 y rfl (by rw [hy]; exact cell_new0 _ _ _ 0 _ rfl) (by rw [List.length_append]; have := HLK.out; simp only [List.length_singleton]; omega) (by have := Below.size HU5.out; rw [World.size_alloc]; omega) ?_; intro v6 w6 hown hgrow; have HO6 := Lib.hid hown; have HU6 := Lib.hid (rowT_up HU5.out HO5.out hgrow); clear hown hgrow))
          go_roundg (s.size - (k + 1))
          case measure => rw [HG.out]; have := HKK.out; omega
          case rel => exact ⟨k + 1, rfl, by go_num, Lib.hid HKK.out, Lib.hid (by rw [HTK.out, HE.out, show LK ++ [92, y] = LK ++ [92] ++ [y] from by simp]; exact HO6.out), HU6⟩
        have t0 : ((x : Int) == (qn : Int)) = false := beq_eq_false_iff_ne.2 (by omega)
        by_cases hx92 : x = 92
        · have HE := Lib.hid (show escU q0 y = [92, y] from by
            unfold escU
            simp only [if_neg hny]
            rw [if_pos (.inr (y92.2 hx92))])
          have t1 : ((x : Int) == 92) = true := beq_iff_eq.2 (by omega)
          clear y10 y13 y92 yq hu45 hkl hyy h10 hny hxq hx92
          go_wp2_with (first | (at_builtin; (refine wpList_append_T _ rfl _ _ rfl w.heap.size _ _ rfl (HO5.out.kept (Up.alloc w5 _)) ⟨w5.heap.size, 0, none⟩ 1 y rfl (by rw [hy]; exact cell_new0 _ _ _ 0 _ rfl) (by rw [List.length_append]; have := HLK.out; simp only [List.length_singleton]; omega) (by have := Below.size HU5.out; rw [World.size_alloc]; omega) ?_; intro v6 w6 hown hgrow; have HO6 := Lib.hid hown; have HU6 := Lib.hid (rowT_up HU5.out HO5.out hgrow); clear hown hgrow)) | (at_builtin; (refine wpList_append_T _ rfl _ _ rfl w.heap.size _ _ rfl (HO.out.kept (Up.alloc wr _)) ⟨wr.heap.size, 0, none⟩ 1 92 rfl (cell_new0 _ _ _ 0 _ rfl) (by have := HLK.out; omega) (by have := Below.size HU.out; rw [World.size_alloc]; omega) ?_; intro v5 w5 hown hgrow; have HO5 := Lib.hid hown; have HU5 := Lib.hid (rowT_up HU.out HO.out hgrow); clear hown hgrow)))
          go_roundg (s.size - (k + 1))
          case measure => rw [HG.out]; have := HKK.out; omega
          case rel => exact ⟨k + 1, rfl, by go_num, Lib.hid HKK.out, Lib.hid (by rw [HTK.out, HE.out, show LK ++ [92, y] = LK ++ [92] ++ [y] from by simp]; exact HO6.out), HU6⟩
        · have HE := Lib.hid (show escU q0 y = [y] from by
            unfold escU
            simp only [if_neg hny]
            rw [if_neg (fun h => h.elim (fun h => hxq (yq.1 h)) (fun h => hx92 (y92.1 h)))])
          have t1 : ((x : Int) == 92) = false := beq_eq_false_iff_ne.2 (by omega)
          clear y10 y13 y92 yq hu45 hkl hyy h10 hny hxq hx92
          go_wp2_with (at_builtin; (refine wpList_append_T _ rfl _ _ rfl w.heap.size _ _ rfl (HO.out.kept (Up.alloc wr _)) ⟨wr.heap.size, 0, none⟩ 1 y rfl (by rw [hy]; exact cell_new0 _ _ _ 0 _ rfl) (by have := HLK.out; omega) (by have := Below.size HU.out; rw [World.size_alloc]; omega) ?_; intro v5 w5 hown hgrow; have HO5 := Lib.hid hown; have HU5 := Lib.hid (rowT_up HU.out HO.out hgrow); clear hown hgrow))
          go_roundg (s.size - (k + 1))
          case measure => rw [HG.out]; have := HKK.out; omega
          case rel => exact ⟨k + 1, rfl, by go_num, Lib.hid HKK.out, Lib.hid (by rw [HTK.out, HE.out]; exact HO5.out), HU5⟩
      · have hk : k = s.size := by have := HK.out; omega
        have f2 : decide (k < s.size) = false := decide_eq_false hlt
        have hO := HO.out
        rw [List.take_of_length_le (by rw [← Lib.size_eq]; omega)] at hO
        obtain ⟨X, hX⟩ : ∃ X : ByteArray, (⟨(L0 ++ s.data.toList.flatMap (escU q0)).toArray⟩ : ByteArray) = X := ⟨_, rfl⟩
        have hcv := back_T hO
        rw [hX] at hcv
        have hxl : X.size ≤ 9000 := by
          have h1 := esc_len q0 s.data.toList
          rw [← Lib.size_eq] at h1
          have h2 : X.size = (L0 ++ s.data.toList.flatMap (escU q0)).length := by rw [← hX, Lib.size_eq]
          rw [h2, List.length_append]
          have := HL0.out.1
          have := HS.out
          omega
        have hbx : bl X = bl P ++ (quo m ++ escL (q0N m) (bl s)) := by
          rw [← hX, bl_mk, List.map_append, HL0.out.2, esc_map, HQ0.out, ← HQN.out, List.append_assoc]
          rfl
        obtain ⟨h1, h2, h3⟩ := HQ.out
        have hln : (X ++ Q).size ≤ 9003 := by rw [ByteArray.size_append]; omega
        have hbl : bl ((X ++ Q) ++ (⟨#[10]⟩ : ByteArray)) = txtL (bl P) m (bl s) ++ [10] := by
          rw [bl_append, bl_append, hbx, h3]
          unfold txtL
          simp only [List.append_assoc]
          rfl
        have hsc := scan_txt HM.out.1 HM.out.2 (bl s) HP.out
        have hsz : (txtL (bl P) m (bl s)).length = (X ++ Q).size := by
          rw [← bl_len, bl_append, hbx, h3]
          unfold txtL
          simp only [List.append_assoc]
        rw [← hbl, hsz] at hsc
        have H1 := Lib.hid (fun W (h : TabsP W) => (show Calls Tryd.prog 10 #[.string ((X ++ Q) ++ (⟨#[10]⟩ : ByteArray)), .int .i64 0, .int .u8 0, .int .i64 7] W fun e w' => ∃ v, e = .returned (.agg #[v, .int .u8 0, .int .i64 7, .bool false, .bool true, .bool false]) ∧ RowE w' W.heap.size v [⟨15, 0, (X ++ Q).size⟩] ∧ Up W w' from by
          have := hC.scan W h ((X ++ Q) ++ (⟨#[10]⟩ : ByteArray)) 0 0 7 (by rw [ByteArray.size_append]; have : (⟨#[10]⟩ : ByteArray).size = 1 := rfl; omega) (by decide) (by decide) (by decide)
          rw [hsc] at this
          exact this))
        have g1 : ¬ (9223372036854775807 : Int) < (X.size : Int) + (Q.size : Int) := by omega
        obtain ⟨LN, hLN⟩ : ∃ LN, X ++ Q = LN := ⟨_, rfl⟩
        rw [hLN] at H1 hln
        have g2 : ¬ (9223372036854775807 : Int) < (LN.size : Int) + 1 := by omega
        clear hlt hk hO hX hxl hbx h1 h2 h3 hbl hsc hsz HO HL0 HP HM HQ HQ0 HQN HQC
        go_upto_region 17 with (go_at_call 10; ((with_reducible refine (H1.out _ (HT.out.up HU.out)).mono ?_); rintro e w7 ⟨v, rfl, hr, hu⟩; obtain ⟨A, c, rfl, he, -⟩ := evs_row hr; obtain ⟨bb, oo, hA, -, e0, e1, e2, e3⟩ := he.at_ 0 (Nat.zero_lt_succ _); subst hA; have HU7 := Lib.hid (HU.out.trans hu); have q0 : ∀ ob, (w7.alloc ob).cell? ⟨bb, oo, none⟩ = some (.int .u8 3) := fun ob => cell_up (Up.alloc w7 ob) (by simpa using e0); have q1 : ∀ ob, (w7.alloc ob).cell? ⟨bb, oo + 1, none⟩ = some (.int .u8 15) := fun ob => cell_up (Up.alloc w7 ob) (by simpa using e1); have q2 : ∀ ob, (w7.alloc ob).cell? ⟨bb, oo + 2, none⟩ = some (.int .i64 0) := fun ob => cell_up (Up.alloc w7 ob) (by simpa using e2); have q3 : ∀ ob, (w7.alloc ob).cell? ⟨bb, oo + 3, none⟩ = some (.int .i64 (LN.size : Nat)) := fun ob => cell_up (Up.alloc w7 ob) (by simpa using e3); clear hr he hu e0 e1 e2 e3))
        clear g1 g2
        go_wp2_with (go_at_call 12; ((with_reducible refine (HR.out _ (HT.out.up (HU7.out.trans (Up.alloc _ _)))).mono ?_); rintro e w8 ⟨rfl, hu⟩; have HU8 := Lib.hid ((HU7.out.trans (Up.alloc _ _)).trans hu); clear hu))
        go_ret
        exact ⟨by simp, HU8.out⟩
  · have f0 : (2000 : Int) < s.size := by omega
    clear hs
    go_enter Tryd.func5, Tryd.ntmps5
    go_wp2
    go_ret
    exact ⟨rfl, Up.refl _⟩
theorem texts_w (w : World) (hT : TabsP w) (k0 k1 : Int) (s : ByteArray) (h0 : (Lit.int .u8 k0).wf = true) (h1 : (Lit.int .u8 k1).wf = true) : Calls Tryd.prog 5 #[.int .u8 k0, .int .u8 k1, .string s] w fun e w' => e = .returned (.bool true) ∧ Up w w' := by
  obtain ⟨a, rfl, -⟩ := byte_nat h0
  obtain ⟨b, rfl, -⟩ := byte_nat h1
  exact texts_walk hC w hT a b s
end
end Go.Proofs.YtogbgllmmdgaaaaDoor
