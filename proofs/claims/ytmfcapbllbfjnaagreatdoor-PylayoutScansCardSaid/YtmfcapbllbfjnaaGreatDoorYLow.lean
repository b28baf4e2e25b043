/- The document's low: a text in small letters. -/
import Derived.Test.YtmfcapbllbfjnaaGreatDoorYRefA
import Derived.OwnWalk
import Derived.Lib.UnsafeStr
import Derived.Laws.IdiomStrings
namespace Go.Proofs.YtmfcapbllbfjnaaGreatDoor
open Go.RowKit

theorem infoByte : (Tryz.prog.info? 5).map (fun i => (i.zero, i.size, i.bytes)) = some (some (.int .u8 0), 1, 1) := by kernel_rfl
/-- A row of bytes that is new since the block B. -/
def RowB (w : World) (B : Nat) (v : Value) (l : List UInt8) : Prop := w.ownsRow B 5 1 v l.length (Lib.byteCells l)
theorem owns_cell {w : World} {B : Nat} {T : TypeId} {k n : Nat} {v : Value} {xs : List Value} (h : w.ownsRow B T k v n xs) : (v = .slice none 0 0 ∧ n = 0) ∨ ∃ g c, v = .slice (some ⟨g, 0, none⟩) n c ∧ B ≤ g ∧ g < w.heap.size ∧ ∀ (j : Nat) (u : Value), xs[j]? = some u → w.cell? ⟨g, j, none⟩ = some u := by
  rcases h.2 with ⟨e, e2⟩ | ⟨g, cap, cur, rfl, hg, hh, hn, hc, hs, ht⟩
  · exact .inl ⟨e, e2⟩
  · refine .inr ⟨g, cap, rfl, hg, (Array.getElem?_eq_some_iff.1 hh).1, fun j u hu => ?_⟩
    have hj : cur[j]? = some u := by
      rw [← ht] at hu
      rw [← Array.getElem?_toList]
      rw [List.getElem?_take] at hu
      split at hu
      · exact hu
      · cases hu
    simp [World.cell?, hh, hj]
theorem own_base {W : World} {N z m : Nat} {v : Value} {xs : List Value} {e : TypeId} {k : Nat} (hr : W.ownsRow N e z v m xs) (hk : v.ownBlock = some k) : N ≤ k := by
  rcases hr.2 with ⟨rfl, _⟩ | ⟨g, cap, cur, rfl, h1, _⟩
  · cases hk
  · obtain rfl : g = k := by simpa [Value.ownBlock] using hk
    exact h1
theorem cell_new0 (W : World) (x : Value) (t : TypeId) : ∀ (j : Nat) (u : Value), [x][j]? = some u → (W.alloc (.cells #[x] t)).cell? ((⟨W.heap.size, 0, none⟩ : Addr).add j) = some u := by
  intro j u hj
  match j, hj with
  | 0, hj => simp at hj; subst hj; simp [Addr.add, go_sem]
theorem row_snoc {w W w2 : World} {v v' : Value} {l : List UInt8} {b : UInt8} {tmp : Obj} (hu : Up w W) (ho : RowB W w.heap.size v l) (hown : w2.ownsRow w.heap.size 5 1 v' (l.length + 1) (Lib.byteCells l ++ [.int .u8 (b.toNat : Nat)])) (hgrow : (W.alloc tmp).grownBy w2 v.ownBlock) :
    RowB w2 w.heap.size v' (l ++ [b]) ∧ Up w w2 := by
  refine ⟨?_, (hu.trans (Up.alloc W tmp)).grown hgrow (by have := Below.size hu; rw [World.size_alloc]; omega) fun k hk => own_base ho hk⟩
  unfold RowB
  rw [List.length_append]
  have e : Lib.byteCells (l ++ [b]) = Lib.byteCells l ++ [.int .u8 (b.toNat : Nat)] := by simp [Lib.byteCells]
  rw [e]
  exact hown
def lowU (b : UInt8) : UInt8 := if 65 ≤ b.toNat ∧ b.toNat ≤ 90 then b + 32 else b
theorem lowU_nat (b : UInt8) : (lowU b).toNat = lowN b.toNat := by
  unfold lowU lowN
  split
  · rw [UInt8.toNat_add]
    show (b.toNat + 32) % 256 = _
    omega
  · rfl
def lowS (s : ByteArray) : ByteArray := ⟨(s.data.toList.map lowU).toArray⟩
theorem lowS_bl (s : ByteArray) : bl (lowS s) = (bl s).map lowN := by
  unfold bl lowS
  simp only [List.map_map]
  apply List.map_congr_left
  intro b _
  exact lowU_nat b
theorem conv_row {W : World} {B : Nat} {v : Value} {l : List UInt8} (h : RowB W B v l) : (convert 86 9 v).run Tryz.prog W = .ok (.string ⟨l.toArray⟩) W := by
  rcases owns_cell h with ⟨rfl, hz⟩ | ⟨g, cp, rfl, -, -, hcc⟩
  · obtain rfl : l = [] := List.eq_nil_of_length_eq_zero hz
    kernel_rfl
  · exact run_convert_bytes_back (P := Tryz.prog) W 86 9 5 ⟨g, 0, none⟩ cp l Tryz.underlying86 Tryz.underlying5 Tryz.underlying9 (fun j hj => by
      have h1 := hcc j (.int .u8 (l[j].toNat : Int)) (by simp [Lib.byteCells, hj])
      have e : (⟨g, 0, none⟩ : Addr).add j = ⟨g, j, none⟩ := by simp [Addr.add]; intro h; exact h.symm
      rw [e]
      exact h1)
set_option maxRecDepth 100000 in
set_option maxHeartbeats 2000000 in
theorem low_any (s : ByteArray) (w : World) (hs : s.size ≤ 1000) : Calls Tryz.prog 58 #[.string s] w fun e w' => e = .returned (.string (lowS s)) ∧ Up w w' := by
  have HS := Lib.hid hs
  have HX0 := Lib.hid (Up.refl w)
  obtain ⟨M, hM⟩ : ∃ M, s.data.toList.map lowU = M := ⟨_, rfl⟩
  have HM := Lib.hid hM
  have HML := Lib.hid (show M.length = s.size by rw [← hM, List.length_map, ← Lib.size_eq])
  have hR : (lowS s) = ⟨M.toArray⟩ := by rw [← hM]; rfl
  rw [hR]
  clear hs hM hR
  go_enter Tryz.func58, Tryz.ntmps58
  go_wp2
  go_loopg [3, 4] s.size (fun g ov iv wr => ∃ k : Nat, g = s.size - k ∧ iv = .int .i64 (k : Nat) ∧ Hid (k ≤ s.size) ∧ Hid (RowB wr w.heap.size ov (M.take k)) ∧ Hid (Up w wr))
  case atStart => exact ⟨0, rfl, rfl, Lib.hid (Nat.zero_le _), Lib.hid (World.ownsRow_nil _ _ _ _), HX0⟩
  case round =>
    obtain ⟨k, hg, rfl, HK, HO, HU⟩ := hrel
    have HG := Lib.hid hg
    clear hg
    by_cases hlt : k < s.size
    · obtain ⟨x, hx⟩ : ∃ x, s[k].toNat = x := ⟨_, rfl⟩
      have hkM : k < M.length := by rw [HML.out]; exact hlt
      have hMk : M[k] = lowU s[k] := by
        have := HM.out
        subst this
        rw [List.getElem_map]
        rfl
      have hy : (M[k]).toNat = lowN x := by rw [hMk, lowU_nat, hx]
      have HT := Lib.hid (show M.take (k + 1) = M.take k ++ [M[k]] from by rw [List.take_add_one, List.getElem?_eq_getElem hkM]; rfl)
      obtain ⟨m, hm⟩ : ∃ m, M[k] = m := ⟨_, rfl⟩
      rw [hm] at hy
      have HT := Lib.hid (show M.take (k + 1) = M.take k ++ [m] from by rw [HT.out, hm])
      have hl : (M.take k).length = k := by rw [List.length_take]; omega
      have HL := Lib.hid hl
      have HKK := Lib.hid hlt
      have hx256 : x < 256 := by rw [← hx]; exact UInt8.toNat_lt _
      have hpp : (k : Int) < s.size := by omega
      have hp0 : (0 : Int) ≤ k := by omega
      have e2 : IntKind.i64.wrap ((k : Int) + 1) = (k : Int) + 1 := IntWalk.i64_in _ (by have := HS.out; omega)
      by_cases h65 : 65 ≤ x
      · by_cases h90 : x ≤ 90
        · skip
          have g1 : (65 : Int) ≤ x := by omega
          have g2 : (x : Int) ≤ 90 := by omega
          have hyx : m.toNat = x + 32 := by rw [hy]; unfold lowN; rw [if_pos ⟨h65, h90⟩]
          have HY := Lib.hid hyx
          have e3 : IntKind.u8.wrap ((x : Int) + 32) = (x : Int) + 32 := by unfold IntKind.wrap; simp [IntKind.signed, IntKind.bits]; omega
          clear hl hy hyx hm hMk
          go_wp2_with (at_builtin; (obtain ⟨i0, hi0, hz0, hz1, hz2⟩ := info_parts infoByte; have ho := HO.out; unfold RowB at ho; refine wpList_append_own _ rfl _ _ 86 rfl w.heap.size 5 i0 (.int .u8 0) 1 1 Tryz.underlying86 hi0 hz0 hz1 hz2 rfl (by decide) _ _ _ rfl (ho.alloc _) ⟨wr.heap.size, 0, none⟩ 1 1 [.int .u8 ((x : Int) + 32)] rfl rfl (cell_new0 _ _ _) (by simp [Value.oneCell']) (by unfold maxLen; have := HL.out; have := HS.out; have := HKK.out; omega) (by have := HL.out; have := HS.out; have := HKK.out; omega) (by have := Below.size HU.out; simp; omega) ?_; clear hi0 hz0 hz1 hz2; intro v2 w2 hown hgrow _; have R := Lib.hid (row_snoc (b := m) HU.out HO.out (by rw [HY.out]; exact hown) hgrow); clear hown hgrow ho))
          go_wp2
          go_roundg (s.size - (k + 1))
          case measure => rw [HG.out]; have := HKK.out; omega
          case rel => exact ⟨k + 1, rfl, by go_num, Lib.hid HKK.out, Lib.hid (by rw [HT.out]; exact R.out.1), Lib.hid R.out.2⟩
        · skip
          have g1 : (65 : Int) ≤ x := by omega
          have g2 : decide ((x : Int) ≤ 90) = false := decide_eq_false (by omega)
          have hyx : m.toNat = x := by rw [hy]; unfold lowN; rw [if_neg (by omega)]
          have HY := Lib.hid hyx
          clear hl hy hyx hm hMk
          go_wp2_with (at_builtin; (obtain ⟨i0, hi0, hz0, hz1, hz2⟩ := info_parts infoByte; have ho := HO.out; unfold RowB at ho; refine wpList_append_own _ rfl _ _ 86 rfl w.heap.size 5 i0 (.int .u8 0) 1 1 Tryz.underlying86 hi0 hz0 hz1 hz2 rfl (by decide) _ _ _ rfl (ho.alloc _) ⟨wr.heap.size, 0, none⟩ 1 1 [.int .u8 ((x : Int))] rfl rfl (cell_new0 _ _ _) (by simp [Value.oneCell']) (by unfold maxLen; have := HL.out; have := HS.out; have := HKK.out; omega) (by have := HL.out; have := HS.out; have := HKK.out; omega) (by have := Below.size HU.out; simp; omega) ?_; clear hi0 hz0 hz1 hz2; intro v2 w2 hown hgrow _; have R := Lib.hid (row_snoc (b := m) HU.out HO.out (by rw [HY.out]; exact hown) hgrow); clear hown hgrow ho))
          go_wp2
          go_roundg (s.size - (k + 1))
          case measure => rw [HG.out]; have := HKK.out; omega
          case rel => exact ⟨k + 1, rfl, by go_num, Lib.hid HKK.out, Lib.hid (by rw [HT.out]; exact R.out.1), Lib.hid R.out.2⟩
      · skip
        have g1 : decide ((65 : Int) ≤ x) = false := decide_eq_false (by omega)
        have hyx : m.toNat = x := by rw [hy]; unfold lowN; rw [if_neg (by omega)]
        have HY := Lib.hid hyx
        clear hl hy hyx hm hMk
        go_wp2_with (at_builtin; (obtain ⟨i0, hi0, hz0, hz1, hz2⟩ := info_parts infoByte; have ho := HO.out; unfold RowB at ho; refine wpList_append_own _ rfl _ _ 86 rfl w.heap.size 5 i0 (.int .u8 0) 1 1 Tryz.underlying86 hi0 hz0 hz1 hz2 rfl (by decide) _ _ _ rfl (ho.alloc _) ⟨wr.heap.size, 0, none⟩ 1 1 [.int .u8 ((x : Int))] rfl rfl (cell_new0 _ _ _) (by simp [Value.oneCell']) (by unfold maxLen; have := HL.out; have := HS.out; have := HKK.out; omega) (by have := HL.out; have := HS.out; have := HKK.out; omega) (by have := Below.size HU.out; simp; omega) ?_; clear hi0 hz0 hz1 hz2; intro v2 w2 hown hgrow _; have R := Lib.hid (row_snoc (b := m) HU.out HO.out (by rw [HY.out]; exact hown) hgrow); clear hown hgrow ho))
        go_wp2
        go_roundg (s.size - (k + 1))
        case measure => rw [HG.out]; have := HKK.out; omega
        case rel => exact ⟨k + 1, rfl, by go_num, Lib.hid HKK.out, Lib.hid (by rw [HT.out]; exact R.out.1), Lib.hid R.out.2⟩
    · have hk : k = s.size := by have := HK.out; omega
      have f0 : decide (k < s.size) = false := decide_eq_false hlt
      have hO := HO.out
      rw [List.take_of_length_le (by rw [HML.out]; omega)] at hO
      have hcv := conv_row hO
      clear hlt hO hk
      go_wp2
      go_ret
      exact ⟨rfl, HU.out⟩
end Go.Proofs.YtmfcapbllbfjnaaGreatDoor
