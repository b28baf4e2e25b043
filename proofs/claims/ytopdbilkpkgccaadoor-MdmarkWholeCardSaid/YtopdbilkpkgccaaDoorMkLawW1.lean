/- MdmarkWhole, walked. -/
import Derived.Test.YtopdbilkpkgccaaDoorMkReads
import Derived.Test.YtopdbilkpkgccaaDoorMkRowT
import Derived.Test.YtopdbilkpkgccaaDoorMkWhl
namespace Go.Proofs.YtopdbilkpkgccaaDoor
open Go.RowKit
set_option linter.unusedVariables false

def clU (b : UInt8) : UInt8 := if b = 10 ∨ b = 13 then 46 else b
def natL (l : List UInt8) : List Nat := l.map (·.toNat)
theorem natL_at {l : List UInt8} {i : Nat} (h : i < l.length) : (natL l)[i]? = some (l[i]'h).toNat := by simp [natL, h]
theorem natL_len (l : List UInt8) : (natL l).length = l.length := by simp [natL]
theorem cl_no10 (l : List UInt8) : 10 ∉ natL (l.map clU) := by
  unfold natL
  rw [List.map_map, List.mem_map]
  rintro ⟨x, hx, h⟩
  have h2 : clU x = 10 := UInt8.toNat_inj.1 h
  unfold clU at h2
  split at h2
  · cases h2
  · rename_i h3
    exact h3 (.inl h2)
/-- What there is when a content ends in a row of its own, or is none. -/
def rowEnds (T : List Nat) (i j : Nat) : Prop := i = T.length ∨ (0 < j ∧ (j = T.length - i ∨ bk (T.getD (T.length - j - 1) 0) = true))
theorem sk_next {T : List Nat} {i x : Nat} (hi : i ≤ skL T) (hx : T[i]? = some x) (hb : bk x = true) : i + 1 ≤ skL T := by
  rw [skL_rw] at hi ⊢
  rcases Nat.lt_or_ge i (rwL bk T) with h | h
  · exact h
  · exfalso
    have e : i = rwL bk T := Nat.le_antisymm hi h
    have hl := (List.getElem?_eq_some_iff.1 hx).1
    have hd : T.drop (rwL bk T) = x :: T.drop (i + 1) := by
      rw [← e, List.drop_eq_getElem_cons hl]
      have := (List.getElem?_eq_some_iff.1 hx).2
      rw [this]
    have := rwL_stop bk T x _ hd
    rw [hb] at this
    cases this
theorem sk_stop {T : List Nat} {i x : Nat} (hi : i ≤ skL T) (hx : T[i]? = some x) (hb : bk x = false) : i = skL T := by
  rw [skL_rw] at hi ⊢
  rcases Nat.lt_or_ge i (rwL bk T) with h | h
  · obtain ⟨c, hc, hp⟩ := rwL_mem bk T i h
    rw [hx] at hc
    injection hc with hc
    rw [← hc, hb] at hp
    cases hp
  · exact Nat.le_antisymm hi h
theorem tl_next {T : List Nat} {j x : Nat} (hj : j ≤ tlL 35 T) (hjl : j < T.length) (hx : T[T.length - j - 1]? = some x) (hb : x = 35) : j + 1 ≤ tlL 35 T := by
  unfold tlL at hj ⊢
  have hr : T.reverse[j]? = some x := by rw [List.getElem?_reverse hjl, ← hx]; congr 1; omega
  rcases Nat.lt_or_ge j (rwL (· == 35) T.reverse) with h | h
  · exact h
  · exfalso
    have e : j = rwL (· == 35) T.reverse := Nat.le_antisymm hj h
    have hl := (List.getElem?_eq_some_iff.1 hr).1
    have hd : T.reverse.drop (rwL (· == 35) T.reverse) = x :: T.reverse.drop (j + 1) := by
      rw [← e, List.drop_eq_getElem_cons hl]
      have := (List.getElem?_eq_some_iff.1 hr).2
      rw [this]
    have := rwL_stop _ _ x _ hd
    rw [hb] at this
    cases this
theorem tl_stop {T : List Nat} {j x : Nat} (hj : j ≤ tlL 35 T) (hjl : j < T.length) (hx : T[T.length - j - 1]? = some x) (hb : x ≠ 35) : j = tlL 35 T := by
  unfold tlL at hj ⊢
  have hr : T.reverse[j]? = some x := by rw [List.getElem?_reverse hjl, ← hx]; congr 1; omega
  rcases Nat.lt_or_ge j (rwL (· == 35) T.reverse) with h | h
  · obtain ⟨c, hc, hp⟩ := rwL_mem _ _ j h
    rw [hr] at hc
    injection hc with hc
    rw [← hc] at hp
    exact absurd (by simpa using hp) hb
  · exact Nat.le_antisymm hj h
theorem la_stop {C : List Nat} {k x : Nat} (hk : laL C ≤ k) (h0 : 0 < k) (hx : C[k - 1]? = some x) (hb : bk x = false) : k = laL C := by
  rcases Nat.lt_or_ge (laL C) k with h | h
  · have := laL_rest C (k - 1) x (by omega) hx
    rw [hb] at this
    cases this
  · omega
theorem la_next {C : List Nat} {k x : Nat} (hk : laL C ≤ k) (h0 : 0 < k) (hx : C[k - 1]? = some x) (hb : bk x = true) : laL C ≤ k - 1 := by
  rcases Nat.lt_or_ge (laL C) k with h | h
  · omega
  · exfalso
    have e : laL C = k := by omega
    obtain ⟨c, hc, hp⟩ := laL_last C (by omega)
    rw [e, hx] at hc
    injection hc with hc
    rw [← hc, hb] at hp
    cases hp
theorem la_take (C : List Nat) : laL (C.take (laL C)) = (C.take (laL C)).length := by
  have hl : (C.take (laL C)).length = laL C := by rw [List.length_take]; have := laL_le C; omega
  rw [hl]
  refine laL_at _ _ (by omega) (fun i c hi hc => ?_) (fun c h0 hc => ?_)
  · have := (List.getElem?_eq_some_iff.1 hc).1
    omega
  · obtain ⟨d, hd, hb⟩ := laL_last C h0
    rw [List.getElem?_take, if_pos (by omega), hd] at hc
    injection hc with hc
    rw [← hc]
    exact hb

set_option maxRecDepth 100000 in
set_option maxHeartbeats 8000000 in
theorem whole_walk (w : World) (x z : Int) (s t : ByteArray) (m n r3 d : Nat) (hm : x.tmod 6 = (m : Nat)) (hm6 : m < 6) (hmn : 1 + m = n) (hr : z.tmod 3 = (r3 : Nat)) (hd : z.tmod 10 = (d : Nat)) (hd10 : d < 10) (hr3 : r3 < 3) (hs : s.size ≤ 2000) (ht : t.size ≤ 200) :
    Calls Tryd.prog 4 #[.int .u8 x, .string s, .int .u8 z, .string t] w fun e w' => e = .returned (.bool true) ∧ Up w w' := by
  have HRd := Lib.hid (fun W => reads_any W)
  have HBk := Lib.hid (fun c W => rbk_any c W)
  have HH := Lib.hid (fun (S : ByteArray) (a : Int) (W : World) (h : (S.size : Int) ≤ 1000000) => pHead_any S a W h)
  have HS := Lib.hid hs
  have HT := Lib.hid ht
  obtain ⟨SH, hSH⟩ : ∃ SH : ByteArray, (⟨#[35, 35, 35, 35, 35, 35]⟩ : ByteArray).extract 0 n = SH := ⟨_, rfl⟩
  have hSHb : bl SH = List.replicate n 35 := by
    have h6 : n = 1 ∨ n = 2 ∨ n = 3 ∨ n = 4 ∨ n = 5 ∨ n = 6 := by omega
    rw [← hSH]
    rcases h6 with rfl | rfl | rfl | rfl | rfl | rfl <;> decide
  have hSHs : SH.size = n := by rw [← bl_len, hSHb, List.length_replicate]
  have q1 : ¬ 2000 < (s.size : Int) := by omega
  have q2 : ¬ 200 < (t.size : Int) := by omega
  have q3 : decide (2000 < s.size) = false := decide_eq_false (by omega)
  have q4 : decide (200 < t.size) = false := decide_eq_false (by omega)
  have e1 : IntKind.i64.wrap (m : Int) = (m : Nat) := IntWalk.i64_in _ (by omega)
  have e2 : IntKind.i64.wrap (1 + (m : Int)) = (n : Nat) := (IntWalk.i64_in _ (by omega)).trans (by omega)
  have n0 : (0 : Int) ≤ (n : Int) := by omega
  have n6 : (n : Int) ≤ ((⟨#[35, 35, 35, 35, 35, 35]⟩ : ByteArray).size : Int) := by show (n : Int) ≤ 6; omega
  have b1 : ¬ 9223372036854775807 < t.size + SH.size := by omega
  have b2 : ¬ 9223372036854775807 < t.size + SH.size + 2 := by omega
  obtain ⟨X0, hX0⟩ : ∃ X0 : ByteArray, t ++ SH ++ ⟨#[32, 32]⟩ = X0 := ⟨_, rfl⟩
  have hX0b : bl X0 = bl t ++ (List.replicate n 35 ++ [32, 32]) := by rw [← hX0, bl_append, bl_append, hSHb, List.append_assoc]; rfl
  have hX0s : X0.size = t.size + n + 2 := by rw [← bl_len, hX0b]; simp [bl_len]; omega
  have HX0 := Lib.hid (And.intro hX0b hX0s)
  have HN := Lib.hid (And.intro hmn (And.intro hm6 (And.intro hd10 hr3)))
  have CV := Lib.hid (fun W (hW : Up w W) => conv_T W X0 w.heap.size (Below.size hW) (by omega))
  clear hX0b hX0s hSHb hs ht hm6 hmn hd10 hr3 hSHs
  go_enter Tryd.func4, Tryd.ntmps4
  go_wp2
  go_loopg [9] t.size (fun g iv wr => w = wr ∧ ∃ i : Nat, g = t.size - i ∧ iv = .int .i64 (i : Nat) ∧ Hid (i ≤ t.size) ∧ Hid (10 ∉ (bl t).take i))
  case atStart => exact ⟨rfl, 0, rfl, rfl, Lib.hid (Nat.zero_le _), Lib.hid (by simp)⟩
  case round =>
    obtain ⟨rfl, i, hg, rfl, HI, HNO⟩ := hrel
    have HG := Lib.hid hg
    clear hg
    by_cases hlt : i < t.size
    · have p0 : (0 : Int) ≤ (i : Int) := by omega
      have p1 : (i : Int) < t.size := by omega
      obtain ⟨y, hy⟩ : ∃ y, bt t i = y := ⟨_, rfl⟩
      have hyy : t[i].toNat = y := by rw [bt_eq hlt]; exact hy
      have hya : (bl t)[i]? = some y := by rw [bl_at hlt, hy]
      have HLT := Lib.hid hlt
      by_cases h10 : y = 10
      · subst h10
        have HNO2 := HNO
        clear hya hy
        go_wp2_with (go_at_call 14; ((with_reducible refine (HRd.out _).mono ?_); rintro e w1 ⟨rfl, h1⟩; have HU1 := Lib.hid h1; clear h1))
        go_ret
        exact ⟨rfl, HU1.out⟩
      · have g1 : ((y : Int) == 10) = false := beq_eq_false_iff_ne.2 (by omega)
        have e3 : IntKind.i64.wrap ((i : Int) + 1) = (i : Int) + 1 := IntWalk.i64_in _ (by have := HT.out; omega)
        have HNO3 := Lib.hid (show 10 ∉ (bl t).take (i + 1) by
          rw [List.take_add_one, hya, List.mem_append]
          rintro (h | h)
          · exact HNO.out h
          · simp at h; exact h10 h.symm)
        clear hya hy h10
        go_wp2
        go_roundg (t.size - (i + 1))
        case measure => rw [HG.out]; have := HLT.out; omega
        case rel => exact ⟨rfl, i + 1, rfl, by go_num, Lib.hid HLT.out, HNO3⟩
    · have f1 : decide (i < t.size) = false := decide_eq_false hlt
      have f2 : decide ((i : Int) < t.size) = false := decide_eq_false (by omega)
      have HNO4 := Lib.hid (show 10 ∉ bl t by
        have := HNO.out
        rwa [List.take_of_length_le (by rw [bl_len]; omega)] at this)
      clear hlt
      obtain ⟨hc1, hc2, hc3⟩ := CV.out w (Up.refl w)
      obtain ⟨W1, hW1⟩ : ∃ W1, Lib.bytesWorld w UB X0 = W1 := ⟨_, rfl⟩
      rw [hW1] at hc1 hc2 hc3
      go_upto_region 10 with fail
      rename_i K9 Q9
      obtain ⟨g0, cp0, hv0, -, -⟩ := hc2.shape
      injection hv0 with ha hb hc
      injection ha with ha
      injection ha with ha
      subst ha hc
      clear hb
      have hX0l : X0.data.toList.length = X0.size := (Lib.size_eq X0).symm
      obtain ⟨L0, hL0⟩ : ∃ L0, X0.data.toList = L0 := ⟨_, rfl⟩
      rw [hL0] at hc2 hX0l
      have HL0 := Lib.hid hL0
      have HL0l := Lib.hid hX0l
      have HO0 := Lib.hid hc2
      have HU0 := Lib.hid hc3
      obtain ⟨CP, hCP⟩ : ∃ CP, grownCap w X0.size 0 UB = CP := ⟨_, rfl⟩
      rw [hCP] at HO0 ⊢
      obtain ⟨f0, hf0⟩ : ∃ f0, X0.size = f0 := ⟨_, rfl⟩
      rw [hf0] at HO0 HL0l ⊢
      have HF0 := Lib.hid hf0
      clear hc1 hc2 hc3 hW1 hX0l hL0 hCP hf0 CV hX0 hSH
      have HSd := Lib.hid (show s.data.toList.length = s.size from (Lib.size_eq s).symm)
      go_wp2
      go_loopg [11, 13] s.size (fun g bv iv wr => ∃ k : Nat, g = s.size - k ∧ iv = .int .i64 (k : Nat) ∧ Hid (k ≤ s.size) ∧ Hid (RowT wr w.heap.size bv (L0 ++ (s.data.toList.take k).map clU)) ∧ Hid (Up w wr))
      case atStart => exact ⟨0, rfl, rfl, Lib.hid (Nat.zero_le _), Lib.hid (by rw [List.take_zero, List.map_nil, List.append_nil]; exact HO0.out), HU0⟩
      case round =>
        clear HO0 HU0
        obtain ⟨k, hg, rfl, HK, HO, HU⟩ := hrel
        have HG := Lib.hid hg
        clear hg
        by_cases hlt : k < s.size
        · have hkl : k < s.data.toList.length := by rw [← Lib.size_eq]; exact hlt
          obtain ⟨y, hyy⟩ : ∃ y : UInt8, s[k]'hlt = y := ⟨_, rfl⟩
          obtain ⟨yn, hyn⟩ : ∃ yn : Nat, y.toNat = yn := ⟨_, rfl⟩
          have hx : (s[k]'hlt).toNat = yn := by rw [hyy]; exact hyn
          have HTK := Lib.hid (show L0 ++ (s.data.toList.take (k + 1)).map clU = (L0 ++ (s.data.toList.take k).map clU) ++ [clU y] from by
            have e1 : s.data.toList.take (k + 1) = s.data.toList.take k ++ [y] := by
              rw [List.take_add_one, List.getElem?_eq_getElem hkl]
              have : s.data.toList[k] = y := by rw [← hyy]; rfl
              rw [this]; rfl
            rw [e1, List.map_append, List.append_assoc]
            rfl)
          have HLK := Lib.hid (show (L0 ++ (s.data.toList.take k).map clU).length ≤ 9000 from by
            rw [List.length_append, List.length_map, List.length_take]
            have := HL0l.out
            have := HS.out
            have := HT.out
            have := HX0.out.2
            have := HF0.out
            have := HN.out.1
            have := HN.out.2.1
            omega)
          generalize L0 ++ (s.data.toList.take k).map clU = LK at HO HTK HLK
          have HKK := Lib.hid hlt
          have p0 : (0 : Int) ≤ (k : Int) := by omega
          have p1 : (k : Int) < s.size := by omega
          have e2 : IntKind.i64.wrap ((k : Int) + 1) = (k : Int) + 1 := IntWalk.i64_in _ (by have := HS.out; omega)
          have y10 : y = 10 ↔ yn = 10 := ⟨fun h => by rw [← hyn, h]; rfl, fun h => UInt8.toNat_inj.1 (by rw [hyn, h]; rfl)⟩
          have y13 : y = 13 ↔ yn = 13 := ⟨fun h => by rw [← hyn, h]; rfl, fun h => UInt8.toNat_inj.1 (by rw [hyn, h]; rfl)⟩
          by_cases h10 : yn = 10 ∨ yn = 13
          · have HE := Lib.hid (show clU y = 46 from by unfold clU; rw [if_pos (h10.elim (fun h => .inl (y10.2 h)) (fun h => .inr (y13.2 h)))])
            clear y10 y13 hyy
            rcases h10 with h | h
            · subst h
              clear hyn
              go_wp2_with (at_builtin; (refine wpList_append_T _ rfl _ _ rfl w.heap.size _ _ rfl (HO.out.kept (Up.alloc wr _)) ⟨wr.heap.size, 0, none⟩ 1 46 rfl (cell_new0 _ _ _ 0 _ rfl) (by have := HLK.out; omega) (by have := Below.size HU.out; rw [World.size_alloc]; omega) ?_; intro v5 w5 hown hgrow; have HO5 := Lib.hid hown; have HU5 := Lib.hid (rowT_up HU.out HO.out hgrow); clear hown hgrow))
              go_roundg (s.size - (k + 1))
              case measure => rw [HG.out]; have := HKK.out; omega
              case rel => exact ⟨k + 1, rfl, by go_num, Lib.hid HKK.out, Lib.hid (by rw [HTK.out, HE.out]; exact HO5.out), HU5⟩
            · subst h
              clear hyn
              go_wp2_with (at_builtin; (refine wpList_append_T _ rfl _ _ rfl w.heap.size _ _ rfl (HO.out.kept (Up.alloc wr _)) ⟨wr.heap.size, 0, none⟩ 1 46 rfl (cell_new0 _ _ _ 0 _ rfl) (by have := HLK.out; omega) (by have := Below.size HU.out; rw [World.size_alloc]; omega) ?_; intro v5 w5 hown hgrow; have HO5 := Lib.hid hown; have HU5 := Lib.hid (rowT_up HU.out HO.out hgrow); clear hown hgrow))
              go_roundg (s.size - (k + 1))
              case measure => rw [HG.out]; have := HKK.out; omega
              case rel => exact ⟨k + 1, rfl, by go_num, Lib.hid HKK.out, Lib.hid (by rw [HTK.out, HE.out]; exact HO5.out), HU5⟩
          have n10 : ((yn : Int) == 10) = false := beq_eq_false_iff_ne.2 (by omega)
          have n13 : ((yn : Int) == 13) = false := beq_eq_false_iff_ne.2 (by omega)
          have HE := Lib.hid (show clU y = y from by unfold clU; rw [if_neg (fun h => h10 (h.elim (fun h => .inl (y10.1 h)) (fun h => .inr (y13.1 h))))])
          clear y10 y13 hyy h10
          go_wp2_with (at_builtin; (refine wpList_append_T _ rfl _ _ rfl w.heap.size _ _ rfl (HO.out.kept (Up.alloc wr _)) ⟨wr.heap.size, 0, none⟩ 1 y rfl (by rw [hyn]; exact cell_new0 _ _ _ 0 _ rfl) (by have := HLK.out; omega) (by have := Below.size HU.out; rw [World.size_alloc]; omega) ?_; intro v5 w5 hown hgrow; have HO5 := Lib.hid hown; have HU5 := Lib.hid (rowT_up HU.out HO.out hgrow); clear hown hgrow))
          go_roundg (s.size - (k + 1))
          case measure => rw [HG.out]; have := HKK.out; omega
          case rel => exact ⟨k + 1, rfl, by go_num, Lib.hid HKK.out, Lib.hid (by rw [HTK.out, HE.out]; exact HO5.out), HU5⟩
        · have f2 : decide (k < s.size) = false := decide_eq_false hlt
          have f3 : decide ((k : Int) < s.size) = false := decide_eq_false (by omega)
          have hO := HO.out
          rw [List.take_of_length_le (by rw [← Lib.size_eq]; omega)] at hO
          obtain ⟨C, hC⟩ : ∃ C, s.data.toList.map clU = C := ⟨_, rfl⟩
          rw [hC] at hO
          have hCl : C.length = s.size := by rw [← hC, List.length_map]; exact HSd.out
          have HCn := Lib.hid (show 10 ∉ natL C by rw [← hC]; exact cl_no10 _)
          obtain ⟨g2, c2, hbv, hc2a, hc2b⟩ := hO.shape
          have hlen : (L0 ++ C).length = f0 + s.size := by rw [List.length_append, HL0l.out, hCl]
          rw [hlen] at hbv hc2a
          subst hbv
          have HR := Lib.hid hO
          have HC := Lib.hid (And.intro hCl (And.intro hc2a hc2b))
          have hcell : ∀ j y, C[j]? = some y → wr.cell? ⟨g2, f0 + j, none⟩ = some (.int .u8 (y.toNat : Nat)) := fun j y hj => by
            refine hO.cell (f0 + j) _ ?_
            unfold Lib.byteCells
            rw [List.getElem?_map, List.getElem?_append_right (by rw [HL0l.out]; omega), HL0l.out, show f0 + j - f0 = j by omega, hj]
            rfl
          have HCE := Lib.hid hcell
          have hfs : f0 + s.size ≤ 2300 := by
            have := HS.out; have := HT.out; have := HX0.out.2; have := HF0.out; have := HN.out.1; have := HN.out.2.1
            omega
          have HFS := Lib.hid hfs
          clear hO hC hCl hlen hc2a hc2b hcell hlt hfs
          go_wp2
          go_loopg [11] (f0 + s.size) (fun g bv wr2 => wr = wr2 ∧ ∃ q : Nat, g = q ∧ bv = .slice (some ⟨g2, 0, none⟩) q c2 ∧ Hid (f0 ≤ q ∧ q ≤ f0 + s.size ∧ laL (natL C) + f0 ≤ q))
          case atStart => exact ⟨rfl, f0 + s.size, rfl, rfl, Lib.hid ⟨by omega, Nat.le_refl _, by have := laL_le (natL C); rw [natL_len, HC.out.1] at this; omega⟩⟩
          case round =>
            obtain ⟨rfl, q, hg, rfl, HQ⟩ := hrel
            have HG := Lib.hid hg
            clear hg
            by_cases hq : q = f0
            · subst hq
              have g1 : decide ((q : Int) < (q : Int)) = false := decide_eq_false (by omega)
              have g2 : decide (q < q) = false := decide_eq_false (by omega)
              go_wp2
              go_loopg [12] 0 (fun g iv wr2 => wr = wr2 ∧ g = 0 ∧ iv = .int .i64 (q : Nat))
              case atStart => exact ⟨rfl, rfl, rfl⟩
              case round =>
                obtain ⟨rfl, hg, rfl⟩ := hrel
                go_wp2
                go_loopg [16] 0 (fun g iv wr2 => wr = wr2 ∧ g = 0 ∧ iv = .int .i64 (q : Nat))
                case atStart => exact ⟨rfl, rfl, rfl⟩
                case round =>
                  obtain ⟨rfl, hg, rfl⟩ := hrel
                  go_wp2_with (go_at_call 14; ((with_reducible refine (HRd.out _).mono ?_); rintro e w9 ⟨rfl, h9⟩; have HU9 := Lib.hid (HU.out.trans h9); clear h9))
                  go_ret
                  exact ⟨rfl, HU9.out⟩
            · have hqf : f0 < q := by have := HQ.out; omega
              have hq2 : q ≤ f0 + s.size := HQ.out.2.1
              obtain ⟨p, hp⟩ : ∃ p, q - 1 = p := ⟨_, rfl⟩
              have hpl : p - f0 < C.length := by rw [HC.out.1]; omega
              obtain ⟨y, hy⟩ : ∃ y, (C[p - f0]'hpl) = y := ⟨_, rfl⟩
              obtain ⟨yn, hyn⟩ : ∃ yn : Nat, y.toNat = yn := ⟨_, rfl⟩
              have hyC : C[p - f0]? = some y := by rw [List.getElem?_eq_getElem hpl, hy]
              have hyN : (natL C)[q - f0 - 1]? = some yn := by
                rw [show q - f0 - 1 = p - f0 by omega, natL_at hpl, hy, hyn]
              have hc := HCE.out _ _ hyC
              rw [show f0 + (p - f0) = p by omega, hyn] at hc
              have p0 : (0 : Int) ≤ (p : Int) := by omega
              have p1 : (p : Int) < (q : Int) := by omega
              have t1 : (f0 : Int) < (q : Int) := by omega
              have t2 : f0 < q := hqf
              have e3 : IntKind.i64.wrap ((q : Int) - 1) = (p : Nat) := (IntWalk.i64_in _ (by have := HFS.out; omega)).trans (by omega)
              have HQQ := Lib.hid (And.intro hqf (And.intro hq2 hp))
              cases hb : bk yn with
              | true =>
                have p2 : (p : Int) ≤ (c2 : Int) := by have := HC.out.2.1; omega
                have HBK := Lib.hid (fun W => by have h := HBk.out yn W; rw [hb] at h; exact h)
                have HLA := Lib.hid (la_next (C := natL C) (k := q - f0) (by have := HQ.out; omega) (by omega) hyN hb)
                clear hb hyN hyC hy hq hq2 hp hqf hyn
                go_wp2_with (go_at_call 12; ((with_reducible refine (HBK.out _).mono ?_); rintro e w9 ⟨rfl, rfl⟩))
                go_roundg p
                case measure => rw [HG.out]; have := HQQ.out; omega
                case rel => exact ⟨rfl, p, rfl, rfl, Lib.hid ⟨by have := HQQ.out; omega, by have := HQQ.out; omega, by have := HLA.out; have := HQQ.out; omega⟩⟩
              | false =>
                have HBK := Lib.hid (fun W => by have h := HBk.out yn W; rw [hb] at h; exact h)
                have hk0 := la_stop (C := natL C) (k := q - f0) (by have := HQ.out; omega) (by omega) hyN hb
                obtain ⟨NT, hNT⟩ : ∃ NT, (natL C).take (q - f0) = NT := ⟨_, rfl⟩
                have hNTl : NT.length = q - f0 := by rw [← hNT, List.length_take, natL_len, HC.out.1]; omega
                have hNTa : laL NT = NT.length := by rw [← hNT, hk0]; exact la_take _
                have hNTs : skL NT < q - f0 := by have := skL_lt (l := NT) (by omega); omega
                have hat : ∀ r, f0 ≤ r → r < q → ∃ yr : Nat, NT[r - f0]? = some yr ∧ wr.cell? ⟨g2, r, none⟩ = some (.int .u8 (yr : Nat)) := fun r h1 h2 => by
                  have hrl : r - f0 < C.length := by rw [HC.out.1]; omega
                  refine ⟨(C[r - f0]'hrl).toNat, ?_, ?_⟩
                  · rw [← hNT, List.getElem?_take, if_pos (by omega), natL_at hrl]
                  · have := HCE.out (r - f0) _ (List.getElem?_eq_getElem hrl)
                    rwa [show f0 + (r - f0) = r by omega] at this
                have HAT := Lib.hid hat
                have HNT := Lib.hid (And.intro hNT (And.intro hNTl (And.intro hNTa hNTs)))
                clear hat hNT hNTl hNTa hNTs hk0 hb hyN hyC hy hq hq2 hp hqf hyn
                go_wp2_with (go_at_call 12; ((with_reducible refine (HBK.out _).mono ?_); rintro e w9 ⟨rfl, rfl⟩))
                clear hc p0 p1 e3 t1 t2
                go_loopg [12] (q - f0) (fun g iv wr2 => wr = wr2 ∧ ∃ a : Nat, g = q - a ∧ iv = .int .i64 (a : Nat) ∧ Hid (f0 ≤ a ∧ a - f0 ≤ skL NT))
                case atStart => exact ⟨rfl, f0, rfl, rfl, Lib.hid ⟨Nat.le_refl _, by omega⟩⟩
                case round =>
                  obtain ⟨rfl, a, hg, rfl, HA⟩ := hrel
                  have HG2 := Lib.hid hg
                  clear hg HG
                  have haq : a < q := by have := HA.out; have := HNT.out.2.2.2; have := HQQ.out; omega
                  obtain ⟨y, hyN, hc⟩ := HAT.out a HA.out.1 haq
                  have p0 : (0 : Int) ≤ (a : Int) := by omega
                  have p1 : (a : Int) < (q : Int) := by omega
                  have e3 : IntKind.i64.wrap ((a : Int) + 1) = (a : Int) + 1 := IntWalk.i64_in _ (by have := HFS.out; have := HQQ.out; omega)
                  have HAQ := Lib.hid haq
                  cases hb : bk y with
                  | true =>
                    have HBK := Lib.hid (fun W => by have h := HBk.out y W; rw [hb] at h; exact h)
                    have HSK := Lib.hid (sk_next (T := NT) HA.out.2 hyN hb)
                    clear hb hyN
                    go_wp2_with (go_at_call 12; ((with_reducible refine (HBK.out _).mono ?_); rintro e w9 ⟨rfl, rfl⟩))
                    go_roundg (q - (a + 1))
                    case measure => rw [HG2.out]; have := HAQ.out; omega
                    case rel => exact ⟨rfl, a + 1, rfl, by go_num, Lib.hid ⟨by have := HA.out; omega, by have := HSK.out; have := HA.out; omega⟩⟩
                  | false =>
                    have HBK := Lib.hid (fun W => by have h := HBk.out y W; rw [hb] at h; exact h)
                    have HSK := Lib.hid (sk_stop (T := NT) HA.out.2 hyN hb)
                    clear hb hyN
                    go_wp2_with (go_at_call 12; ((with_reducible refine (HBK.out _).mono ?_); rintro e w9 ⟨rfl, rfl⟩))
                    clear hc p0 p1 e3
                    go_loopg [16] q (fun g iv wr2 => wr = wr2 ∧ ∃ kk : Nat, g = kk ∧ iv = .int .i64 (kk : Nat) ∧ Hid (a ≤ kk ∧ kk ≤ q ∧ q - kk ≤ tlL 35 NT))
                    case atStart => exact ⟨rfl, q, rfl, rfl, Lib.hid ⟨by have := HAQ.out; omega, Nat.le_refl _, by omega⟩⟩
                    case round =>
                      obtain ⟨rfl, kk, hg, rfl, HK5⟩ := hrel
                      have HG3 := Lib.hid hg
                      clear hg HG2
                      have haq2 := HAQ.out
                      have r1 : ((a : Int) == (q : Int)) = false := beq_eq_false_iff_ne.2 (by omega)
                      have r2 : (a == q) = false := beq_eq_false_iff_ne.2 (by omega)
                      by_cases hka : kk = a
                      · subst hka
                        have r3 : (kk : Int) < (q : Int) := by omega
                        clear haq2
                        go_wp2_with (go_at_call 14; ((with_reducible refine (HRd.out _).mono ?_); rintro e w9 ⟨rfl, h9⟩; have HU9 := Lib.hid (HU.out.trans h9); clear h9))
                        go_ret
                        exact ⟨rfl, HU9.out⟩
                      · have hak : a < kk := by have := HK5.out; omega
                        obtain ⟨r, hr9⟩ : ∃ r, kk - 1 = r := ⟨_, rfl⟩
                        obtain ⟨y, hyN, hc⟩ := HAT.out r (by have := HA.out; omega) (by have := HK5.out; omega)
                        have p0 : (0 : Int) ≤ (r : Int) := by omega
                        have p1 : (r : Int) < (q : Int) := by have := HK5.out; omega
                        have t1 : (a : Int) < (kk : Int) := by omega
                        have t2 : a < kk := hak
                        have e3 : IntKind.i64.wrap ((kk : Int) - 1) = (r : Nat) := (IntWalk.i64_in _ (by have := HFS.out; have := HQQ.out; have := HK5.out; omega)).trans (by omega)
                        have hjl : NT.length - (q - kk) - 1 = r - f0 := by have := HNT.out.2.1; have := HA.out; have := HK5.out; omega
                        have hyN2 : NT[NT.length - (q - kk) - 1]? = some y := by rw [hjl]; exact hyN
                        have hjl2 : q - kk < NT.length := by have := HNT.out.2.1; have := HA.out; have := HK5.out; omega
                        have HRK := Lib.hid (And.intro hak hr9)
                        by_cases h35 : y = 35
                        · have HTL := Lib.hid (tl_next (T := NT) HK5.out.2.2 hjl2 hyN2 h35)
                          subst h35
                          clear hyN hyN2 hjl hjl2 hka haq2 hr9 hak
                          go_wp2
                          go_roundg r
                          case measure => rw [HG3.out]; have := HRK.out; omega
                          case rel => exact ⟨rfl, r, rfl, rfl, Lib.hid ⟨by have := HRK.out; omega, by have := HRK.out; have := HK5.out; omega, by have := HTL.out; have := HRK.out; have := HK5.out; omega⟩⟩
                        · have n35 : ((y : Int) == 35) = false := beq_eq_false_iff_ne.2 (by omega)
                          have HTL := Lib.hid (tl_stop (T := NT) HK5.out.2.2 hjl2 hyN2 h35)
                          have HYN := Lib.hid hyN2
                          by_cases hkq : kk = q
                          · subst hkq
                            have g1 : decide ((kk : Int) < (kk : Int)) = false := decide_eq_false (by omega)
                            have g2' : decide (kk < kk) = false := decide_eq_false (by omega)
                            have HROW := Lib.hid (show tlL 35 NT = 0 ∨ (tlL 35 NT < NT.length ∧ bk (NT.getD (NT.length - tlL 35 NT - 1) 0) = false) from .inl (by have := HTL.out; omega))
                            clear hyN hyN2 hjl hjl2 hka haq2 hr9 hak h35
                            go_upto_region 28 with fail
                            clear hc p0 p1 t1 t2 e3 n35 g1 g2' r1 r2
                            have hcut := HR.out.cut (n := kk) (by rw [List.length_append, HL0l.out, HC.out.1]; have := HQQ.out; omega)
                            have hbk := back_T hcut
                            obtain ⟨XL, hXL⟩ : ∃ XL : ByteArray, (⟨((L0 ++ C).take kk).toArray⟩ : ByteArray) = XL := ⟨_, rfl⟩
                            rw [hXL] at hbk
                            have hXLb : bl XL = hdL (bl t) n NT 0 := by
                              have e1 : (L0 ++ C).take kk = L0 ++ C.take (kk - f0) := by rw [List.take_append, HL0l.out, List.take_of_length_le (by rw [HL0l.out]; have := HQQ.out; omega)]
                              rw [← hXL, bl_mk, e1, List.map_append]
                              have e2 : (L0.map (·.toNat) : List Nat) = bl X0 := by rw [← HL0.out]; rfl
                              have e3 : ((C.take (kk - f0)).map (·.toNat) : List Nat) = NT := by rw [List.map_take]; exact HNT.out.1
                              rw [e2, e3, HX0.out.1]
                              unfold hdL clsL
                              simp
                            have hXLs : XL.size = kk := by rw [← hXL, Lib.size_eq, List.length_take, List.length_append, HL0l.out, HC.out.1]; have := HQQ.out; omega
                            have HXL := Lib.hid (And.intro hXLb hXLs)
                            obtain ⟨TN, hTN⟩ : ∃ TN, t.size + n = TN := ⟨_, rfl⟩
                            have HHd := Lib.hid (fun (line : ByteArray) (c : Nat) (hl : bl line = hdL (bl t) n NT c) (hls : line.size ≤ 3000) (W : World) => by
                              have h := HH.out (line ++ ⟨#[32, 13, 10]⟩) (t.size : Nat) W (by rw [ByteArray.size_append]; show ((line.size + 3 : Nat) : Int) ≤ 1000000; omega)
                              have e1 : bl (line ++ ⟨#[32, 13, 10]⟩) = hdL (bl t) n NT c ++ [32, 13, 10] := by rw [bl_append, hl]; rfl
                              have e2 : ((t.size : Nat) : Int) = ((bl t).length : Int) := by rw [bl_len]
                              have e3 := head_laid (A := bl t) (t := NT) (n := n) (q := c) HNO4.out (fun k => HCn.out (by have := HNT.out.1; rw [← this] at k; exact List.mem_of_mem_take k)) (by have := HN.out; omega) (by have := HN.out; omega) HNT.out.2.2.1 (by have := HNT.out.2.1; have := HQQ.out; omega) HROW.out
                              rw [e1] at h
                              have e4 : (t.size : Int).toNat = (bl t).length := by rw [bl_len]; rfl
                              rw [e4, e2, e3] at h
                              have e5 : (bl t).length + n = TN := by rw [bl_len]; exact hTN
                              have e6 : TN + (2 + skL NT) = a := by have := HSK.out; have := HA.out; have := HX0.out.2; have := HF0.out; omega
                              have e7 : TN + (2 + NT.length) = kk := by have := HNT.out.2.1; have := HQQ.out; have := HX0.out.2; have := HF0.out; omega
                              have e8 : (hdL (bl t) n NT c).length = line.size := by rw [← hl, bl_len]
                              rw [e5, e6, e7, e8, ← e2] at h
                              exact (show Calls Tryd.prog 8 #[.string (line ++ ⟨#[32, 13, 10]⟩), .int .i64 (t.size : Nat)] W fun e w' => e = .returned (.tuple #[.agg #[.int .u8 0, .int .i64 (n : Nat), .int .i64 (TN : Nat), .int .i64 (a : Nat), .int .i64 (kk : Nat), .int .i64 (line.size : Nat)], .bool true]) ∧ Up W w' from h))
                            have eT : IntKind.i64.wrap ((t.size : Int) + (n : Int)) = (TN : Nat) := (IntWalk.i64_in _ (by have := HT.out; have := HN.out; omega)).trans (by omega)
                            have hXLm : XL.size ≤ 2300 := by have := HFS.out; have := HQQ.out; omega
                            by_cases hz : r3 = 0
                            · subst hz
                              have b1 : ¬ 9223372036854775807 < XL.size + 3 := by omega
                              clear hcut hXL hXLb hTN hXLs hXLm HK5 HG3 HR HCE HAT
                              obtain ⟨LNs, hLN⟩ : ∃ LNs, XL.size = LNs := ⟨_, rfl⟩
                              have HLN := Lib.hid hLN
                              have HHe := Lib.hid (fun W => HHd.out XL 0 HXL.out.1 (by have := HXL.out.2; have := HFS.out; have := HQQ.out; omega) W)
                              clear hLN
                              go_wp2_with (first
                                | (go_at_call 8; ((with_reducible refine (HHe.out _).mono ?_); rintro e w8 ⟨rfl, h8⟩; have HU8 := Lib.hid ((HU.out.trans h8).trans (Up.alloc w8 (.cells #[.int .u8 0, .int .i64 (n : Nat), .int .i64 (TN : Nat), .int .i64 (a : Nat), .int .i64 (kk : Nat), .int .i64 (XL.size : Nat)] 23))); clear h8))
                                | (go_at_call 14; ((with_reducible refine (HRd.out _).mono ?_); rintro e w9 ⟨rfl, h9⟩; have HU9 := Lib.hid (HU8.out.trans h9); clear h9)))
                              go_ret
                              exact ⟨rfl, HU9.out⟩
                            · have hD : ∃ D, 1 + d = D := ⟨_, rfl⟩
                              obtain ⟨D, hD⟩ := hD
                              have d0 : (0 : Int) < (r3 : Int) := by omega
                              have d1 : decide (0 < r3) = true := decide_eq_true (by omega)
                              obtain ⟨SQ, hSQ⟩ : ∃ SQ : ByteArray, (⟨#[35, 35, 35, 35, 35, 35, 35, 35, 35, 35]⟩ : ByteArray).extract 0 D = SQ := ⟨_, rfl⟩
                              have hSQb : bl SQ = List.replicate D 35 := by
                                have h6 : D = 1 ∨ D = 2 ∨ D = 3 ∨ D = 4 ∨ D = 5 ∨ D = 6 ∨ D = 7 ∨ D = 8 ∨ D = 9 ∨ D = 10 := by have := HN.out; omega
                                rw [← hSQ]
                                rcases h6 with rfl | rfl | rfl | rfl | rfl | rfl | rfl | rfl | rfl | rfl <;> decide
                              have hSQs : SQ.size = D := by rw [← bl_len, hSQb, List.length_replicate]
                              have f1' : IntKind.i64.wrap (d : Int) = (d : Nat) := IntWalk.i64_in _ (by have := HN.out; omega)
                              have f2' : IntKind.i64.wrap (1 + (d : Int)) = (D : Nat) := (IntWalk.i64_in _ (by have := HN.out; omega)).trans (by omega)
                              have n0' : (0 : Int) ≤ (D : Int) := by omega
                              have n6' : (D : Int) ≤ ((⟨#[35, 35, 35, 35, 35, 35, 35, 35, 35, 35]⟩ : ByteArray).size : Int) := by show (D : Int) ≤ 10; have := HN.out; omega
                              have b1 : ¬ 9223372036854775807 < XL.size + 2 := by omega
                              have b2' : ¬ 9223372036854775807 < XL.size + 2 + SQ.size := by have := HN.out; omega
                              have hLb : bl (XL ++ ⟨#[32, 9]⟩ ++ SQ) = hdL (bl t) n NT D := by
                                rw [bl_append, bl_append, hXLb, hSQb]
                                unfold hdL clsL
                                rw [if_pos rfl, if_neg (by omega)]
                                simp [bl]
                              have hLs : (XL ++ ⟨#[32, 9]⟩ ++ SQ).size = XL.size + 2 + SQ.size := by rw [ByteArray.size_append, ByteArray.size_append]; rfl
                              have hLm : (XL ++ ⟨#[32, 9]⟩ ++ SQ).size ≤ 2400 := by rw [hLs]; have := HN.out; omega
                              have HLM := Lib.hid (And.intro hLb hLm)
                              clear hcut hXL hXLb hTN hXLs hXLm HK5 HG3 HR HCE HAT hLb hLs hLm hSQb hSQs hz hD
                              go_upto_region 31 with fail
                              try rw [hSQ]
                              generalize XL ++ { data := #[32, 9] } ++ SQ = LX at *
                              have b3' : ¬ 9223372036854775807 < LX.size + 3 := by have := HLM.out.2; omega
                              have HHe := Lib.hid (fun W => HHd.out LX D HLM.out.1 (by have := HLM.out.2; omega) W)
                              go_wp2_with (first
                                | (go_at_call 8; ((with_reducible refine (HHe.out _).mono ?_); rintro e w8 ⟨rfl, h8⟩; have HU8 := Lib.hid ((HU.out.trans h8).trans (Up.alloc w8 (.cells #[.int .u8 0, .int .i64 (n : Nat), .int .i64 (TN : Nat), .int .i64 (a : Nat), .int .i64 (kk : Nat), .int .i64 (LX.size : Nat)] 23))); clear h8))
                                | (go_at_call 14; ((with_reducible refine (HRd.out _).mono ?_); rintro e w9 ⟨rfl, h9⟩; have HU9 := Lib.hid (HU8.out.trans h9); clear h9)))
                              go_ret
                              exact ⟨rfl, HU9.out⟩
                          · have hkq2 : kk < q := by have := HK5.out; omega
                            have r3' : (kk : Int) < (q : Int) := by omega
                            have r4 : ((kk : Int) == (a : Int)) = false := beq_eq_false_iff_ne.2 (by omega)
                            have r5 : (kk == a) = false := beq_eq_false_iff_ne.2 hka
                            cases hb : bk y with
                            | true =>
                              have HBK := Lib.hid (fun W => by have h := HBk.out y W; rw [hb] at h; exact h)
                              clear hyN hyN2 hjl hjl2 hka haq2 hr9 hak h35 hkq hb
                              go_wp2_with (first | (go_at_call 12; ((with_reducible refine (HBK.out _).mono ?_); rintro e w9 ⟨rfl, rfl⟩)) | (go_at_call 14; ((with_reducible refine (HRd.out _).mono ?_); rintro e w9 ⟨rfl, h9⟩; have HU9 := Lib.hid (HU.out.trans h9); clear h9)))
                              go_ret
                              exact ⟨rfl, HU9.out⟩
                            | false =>
                              have HBK := Lib.hid (fun W => by have h := HBk.out y W; rw [hb] at h; exact h)
                              have HROW := Lib.hid (show tlL 35 NT = 0 ∨ (tlL 35 NT < NT.length ∧ bk (NT.getD (NT.length - tlL 35 NT - 1) 0) = false) from .inr ⟨by have := HTL.out; omega, by rw [← HTL.out, List.getD_eq_getElem?_getD, hyN2]; exact hb⟩)
                              clear hyN hyN2 hjl hjl2 hka haq2 hr9 hak h35 hkq hb
                              go_upto_region 28 with (go_at_call 12; ((with_reducible refine (HBK.out _).mono ?_); rintro e w9 ⟨rfl, rfl⟩))
                              clear hc p0 p1 t1 t2 e3 n35 r3' r4 r5 r1 r2
                              have hcut := HR.out.cut (n := q) (by rw [List.length_append, HL0l.out, HC.out.1]; have := HQQ.out; omega)
                              have hbk := back_T hcut
                              obtain ⟨XL, hXL⟩ : ∃ XL : ByteArray, (⟨((L0 ++ C).take q).toArray⟩ : ByteArray) = XL := ⟨_, rfl⟩
                              rw [hXL] at hbk
                              have hXLb : bl XL = hdL (bl t) n NT 0 := by
                                have e1 : (L0 ++ C).take q = L0 ++ C.take (q - f0) := by rw [List.take_append, HL0l.out, List.take_of_length_le (by rw [HL0l.out]; have := HQQ.out; omega)]
                                rw [← hXL, bl_mk, e1, List.map_append]
                                have e2 : (L0.map (·.toNat) : List Nat) = bl X0 := by rw [← HL0.out]; rfl
                                have e3 : ((C.take (q - f0)).map (·.toNat) : List Nat) = NT := by rw [List.map_take]; exact HNT.out.1
                                rw [e2, e3, HX0.out.1]
                                unfold hdL clsL
                                simp
                              have hXLs : XL.size = q := by rw [← hXL, Lib.size_eq, List.length_take, List.length_append, HL0l.out, HC.out.1]; have := HQQ.out; omega
                              have HXL := Lib.hid (And.intro hXLb hXLs)
                              obtain ⟨TN, hTN⟩ : ∃ TN, t.size + n = TN := ⟨_, rfl⟩
                              have HHd := Lib.hid (fun (line : ByteArray) (c : Nat) (hl : bl line = hdL (bl t) n NT c) (hls : line.size ≤ 3000) (W : World) => by
                                have h := HH.out (line ++ ⟨#[32, 13, 10]⟩) (t.size : Nat) W (by rw [ByteArray.size_append]; show ((line.size + 3 : Nat) : Int) ≤ 1000000; omega)
                                have e1 : bl (line ++ ⟨#[32, 13, 10]⟩) = hdL (bl t) n NT c ++ [32, 13, 10] := by rw [bl_append, hl]; rfl
                                have e2 : ((t.size : Nat) : Int) = ((bl t).length : Int) := by rw [bl_len]
                                have e3 := head_laid (A := bl t) (t := NT) (n := n) (q := c) HNO4.out (fun k => HCn.out (by have := HNT.out.1; rw [← this] at k; exact List.mem_of_mem_take k)) (by have := HN.out; omega) (by have := HN.out; omega) HNT.out.2.2.1 (by have := HNT.out.2.1; have := HQQ.out; omega) HROW.out
                                rw [e1] at h
                                have e4 : (t.size : Int).toNat = (bl t).length := by rw [bl_len]; rfl
                                rw [e4, e2, e3] at h
                                have e5 : (bl t).length + n = TN := by rw [bl_len]; exact hTN
                                have e6 : TN + (2 + skL NT) = a := by have := HSK.out; have := HA.out; have := HX0.out.2; have := HF0.out; omega
                                have e7 : TN + (2 + NT.length) = q := by have := HNT.out.2.1; have := HQQ.out; have := HX0.out.2; have := HF0.out; omega
                                have e8 : (hdL (bl t) n NT c).length = line.size := by rw [← hl, bl_len]
                                rw [e5, e6, e7, e8, ← e2] at h
                                exact (show Calls Tryd.prog 8 #[.string (line ++ ⟨#[32, 13, 10]⟩), .int .i64 (t.size : Nat)] W fun e w' => e = .returned (.tuple #[.agg #[.int .u8 0, .int .i64 (n : Nat), .int .i64 (TN : Nat), .int .i64 (a : Nat), .int .i64 (q : Nat), .int .i64 (line.size : Nat)], .bool true]) ∧ Up W w' from h))
                              have eT : IntKind.i64.wrap ((t.size : Int) + (n : Int)) = (TN : Nat) := (IntWalk.i64_in _ (by have := HT.out; have := HN.out; omega)).trans (by omega)
                              have hXLm : XL.size ≤ 2300 := by have := HFS.out; have := HQQ.out; omega
                              by_cases hz : r3 = 0
                              · subst hz
                                have b1 : ¬ 9223372036854775807 < XL.size + 3 := by omega
                                clear hcut hXL hXLb hTN hXLs hXLm HK5 HG3 HR HCE HAT
                                obtain ⟨LNs, hLN⟩ : ∃ LNs, XL.size = LNs := ⟨_, rfl⟩
                                have HLN := Lib.hid hLN
                                have HHe := Lib.hid (fun W => HHd.out XL 0 HXL.out.1 (by have := HXL.out.2; have := HFS.out; have := HQQ.out; omega) W)
                                clear hLN
                                go_wp2_with (first
                                  | (go_at_call 8; ((with_reducible refine (HHe.out _).mono ?_); rintro e w8 ⟨rfl, h8⟩; have HU8 := Lib.hid ((HU.out.trans h8).trans (Up.alloc w8 (.cells #[.int .u8 0, .int .i64 (n : Nat), .int .i64 (TN : Nat), .int .i64 (a : Nat), .int .i64 (q : Nat), .int .i64 (XL.size : Nat)] 23))); clear h8))
                                  | (go_at_call 14; ((with_reducible refine (HRd.out _).mono ?_); rintro e w9 ⟨rfl, h9⟩; have HU9 := Lib.hid (HU8.out.trans h9); clear h9)))
                                go_ret
                                exact ⟨rfl, HU9.out⟩
                              · have hD : ∃ D, 1 + d = D := ⟨_, rfl⟩
                                obtain ⟨D, hD⟩ := hD
                                have d0 : (0 : Int) < (r3 : Int) := by omega
                                have d1 : decide (0 < r3) = true := decide_eq_true (by omega)
                                obtain ⟨SQ, hSQ⟩ : ∃ SQ : ByteArray, (⟨#[35, 35, 35, 35, 35, 35, 35, 35, 35, 35]⟩ : ByteArray).extract 0 D = SQ := ⟨_, rfl⟩
                                have hSQb : bl SQ = List.replicate D 35 := by
                                  have h6 : D = 1 ∨ D = 2 ∨ D = 3 ∨ D = 4 ∨ D = 5 ∨ D = 6 ∨ D = 7 ∨ D = 8 ∨ D = 9 ∨ D = 10 := by have := HN.out; omega
                                  rw [← hSQ]
                                  rcases h6 with rfl | rfl | rfl | rfl | rfl | rfl | rfl | rfl | rfl | rfl <;> decide
                                have hSQs : SQ.size = D := by rw [← bl_len, hSQb, List.length_replicate]
                                have f1' : IntKind.i64.wrap (d : Int) = (d : Nat) := IntWalk.i64_in _ (by have := HN.out; omega)
                                have f2' : IntKind.i64.wrap (1 + (d : Int)) = (D : Nat) := (IntWalk.i64_in _ (by have := HN.out; omega)).trans (by omega)
                                have n0' : (0 : Int) ≤ (D : Int) := by omega
                                have n6' : (D : Int) ≤ ((⟨#[35, 35, 35, 35, 35, 35, 35, 35, 35, 35]⟩ : ByteArray).size : Int) := by show (D : Int) ≤ 10; have := HN.out; omega
                                have b1 : ¬ 9223372036854775807 < XL.size + 2 := by omega
                                have b2' : ¬ 9223372036854775807 < XL.size + 2 + SQ.size := by have := HN.out; omega
                                have hLb : bl (XL ++ ⟨#[32, 9]⟩ ++ SQ) = hdL (bl t) n NT D := by
                                  rw [bl_append, bl_append, hXLb, hSQb]
                                  unfold hdL clsL
                                  rw [if_pos rfl, if_neg (by omega)]
                                  simp [bl]
                                have hLs : (XL ++ ⟨#[32, 9]⟩ ++ SQ).size = XL.size + 2 + SQ.size := by rw [ByteArray.size_append, ByteArray.size_append]; rfl
                                have hLm : (XL ++ ⟨#[32, 9]⟩ ++ SQ).size ≤ 2400 := by rw [hLs]; have := HN.out; omega
                                have HLM := Lib.hid (And.intro hLb hLm)
                                clear hcut hXL hXLb hTN hXLs hXLm HK5 HG3 HR HCE HAT hLb hLs hLm hSQb hSQs hz hD
                                go_upto_region 31 with fail
                                try rw [hSQ]
                                generalize XL ++ { data := #[32, 9] } ++ SQ = LX at *
                                have b3' : ¬ 9223372036854775807 < LX.size + 3 := by have := HLM.out.2; omega
                                have HHe := Lib.hid (fun W => HHd.out LX D HLM.out.1 (by have := HLM.out.2; omega) W)
                                go_wp2_with (first
                                  | (go_at_call 8; ((with_reducible refine (HHe.out _).mono ?_); rintro e w8 ⟨rfl, h8⟩; have HU8 := Lib.hid ((HU.out.trans h8).trans (Up.alloc w8 (.cells #[.int .u8 0, .int .i64 (n : Nat), .int .i64 (TN : Nat), .int .i64 (a : Nat), .int .i64 (q : Nat), .int .i64 (LX.size : Nat)] 23))); clear h8))
                                  | (go_at_call 14; ((with_reducible refine (HRd.out _).mono ?_); rintro e w9 ⟨rfl, h9⟩; have HU9 := Lib.hid (HU8.out.trans h9); clear h9)))
                                go_ret
                                exact ⟨rfl, HU9.out⟩
end Go.Proofs.YtopdbilkpkgccaaDoor
