/- What is counted of a text, and a leaf of it: the program's count, leaf and Clone, at every text that is not too long. -/
import Derived.Test.YtcbmigkdmmmahaaDoorWith
import Derived.WalkSpells
import Derived.WalkLawsBesides
namespace Go.Proofs.YtcbmigkdmmmahaaDoor
open Go.RowKit

theorem countByte_nl (s : ByteArray) : Lib.countByte s.data.toList 10 = nl s := rfl

def CntZ (N : Nat) (w : World) : Prop := (w.cell? ⟨N, 0, none⟩ = some (.int .i64 0) ∧ w.cell? ⟨N, 1, none⟩ = some (.int .i64 0) ∧ w.cell? ⟨N, 2, none⟩ = some (.int .i64 0) ∧ w.cell? ⟨N, 3, none⟩ = some (.string ⟨#[]⟩) ∧ w.cell? ⟨N, 4, none⟩ = some (.string ⟨#[]⟩)) ∧ (w.frozen? ⟨N, 0, none⟩ = false ∧ w.frozen? ⟨N, 1, none⟩ = false ∧ w.frozen? ⟨N, 2, none⟩ = false ∧ w.frozen? ⟨N, 3, none⟩ = false ∧ w.frozen? ⟨N, 4, none⟩ = false)
theorem CntZ.up {N : Nat} {W w1 : World} (h : CntZ N W) (hu : Up W w1) : CntZ N w1 := by
  obtain ⟨⟨h11, h12, h13, h14, h15⟩, ⟨f1, f2, f3, f4, f5⟩⟩ := h
  exact ⟨⟨cell_up hu h11, cell_up hu h12, cell_up hu h13, cell_up hu h14, cell_up hu h15⟩, ⟨frozen_up hu h11 f1, frozen_up hu h12 f2, frozen_up hu h13 f3, frozen_up hu h14 f4, frozen_up hu h15 f5⟩⟩
theorem CntZ.new (w : World) : CntZ w.heap.size (w.alloc (.cells #[.int .i64 0, .int .i64 0, .int .i64 0, .string ⟨#[]⟩, .string ⟨#[]⟩] 63)) :=
  ⟨⟨cellOf (Go.heap_alloc_new _ _) rfl, cellOf (Go.heap_alloc_new _ _) rfl, cellOf (Go.heap_alloc_new _ _) rfl, cellOf (Go.heap_alloc_new _ _) rfl, cellOf (Go.heap_alloc_new _ _) rfl⟩,
   ⟨frozenOf (Go.heap_alloc_new _ _), frozenOf (Go.heap_alloc_new _ _), frozenOf (Go.heap_alloc_new _ _), frozenOf (Go.heap_alloc_new _ _), frozenOf (Go.heap_alloc_new _ _)⟩⟩
theorem tabs_set {w : World} {N i : Nat} {x : Value} (hN : 3 + 1 ≤ N) (h : Tabs w) : Tabs (w.setCell ⟨N, i, none⟩ x) :=
  h.of_below hN ((Below.refl N w).setCell (p := ⟨N, i, none⟩) (Nat.le_refl _) x)

set_option maxRecDepth 100000 in
set_option maxHeartbeats 1000000 in
theorem count_walk (s : ByteArray) (w : World) (h1 : (s.size : Int) ≤ 1048576) (hT : Tabs w) :
    Calls Tryd.prog 53 #[.string s] w fun e w' => e = .returned (cv s) ∧ Up w w' := by
  have hA : s.size ≤ maxLen := by unfold maxLen; omega
  have CA := Lib.hid (fun w ht => count_any s hA w ht)
  have CB := Lib.hid (fun w => Tryd.strings_Count_one s 10 w)
  have hnl := countByte_nl s
  rw [hnl] at CB
  obtain ⟨m, hm⟩ : ∃ m : Nat, min 3 s.size = m := ⟨_, rfl⟩
  have hm' : min 3 (s.size : Int) = (m : Int) := by omega
  have b1 : (0 : Int) ≤ (m : Int) := by omega
  have b2 : (m : Int) ≤ s.size := by omega
  have b3 : (0 : Int) ≤ ((s.size - m : Nat) : Int) := by omega
  have b4 : ((s.size - m : Nat) : Int) ≤ s.size := by omega
  have e1 : IntKind.i64.wrap ((s.size : Int) - m) = ((s.size - m : Nat) : Int) := (IntWalk.i64_in _ (by omega)).trans (by omega)
  have HM := Lib.hid hm
  have HB : Hid (3 + 1 ≤ w.heap.size) := Lib.hid (by have := hT.big; omega)
  obtain ⟨k, hk⟩ : ∃ k, countS s = k := ⟨_, rfl⟩
  obtain ⟨n, hn⟩ : ∃ n, nl s = n := ⟨_, rfl⟩
  rw [hk] at CA
  rw [hn] at CB
  have HK := Lib.hid hk
  have HN := Lib.hid hn
  have HTa := Lib.hid (hT.up (Up.alloc w (.cells #[.int .i64 0, .int .i64 0, .int .i64 0, .string ⟨#[]⟩, .string ⟨#[]⟩] 63)))
  have HZ := Lib.hid (CntZ.new w)
  clear hA hnl hm hk hn h1 hT
  go_enter Tryd.func53, Tryd.ntmps53
  go_upto_region 2 with fail
  clear hm'
  obtain ⟨N, hN⟩ : ∃ N, w.heap.size = N := ⟨_, rfl⟩
  obtain ⟨W, hW⟩ : ∃ W, w.alloc (.cells #[.int .i64 0, .int .i64 0, .int .i64 0, .string ⟨#[]⟩, .string ⟨#[]⟩] 63) = W := ⟨_, rfl⟩
  have HU : Hid (Up w W) := Lib.hid (by rw [← hW]; exact Up.alloc _ _)
  simp only [hW, hN] at HZ HTa HB
  simp only [hW, hN]
  have HNN := Lib.hid hN
  have HWW := Lib.hid hW
  clear hN hW
  go_region_held3 (fun w' => Tabs w' ∧ True)
    (first | with_reducible exact ⟨HTa.out.up ((Up.drew _).trans hu1), True.intro⟩ | with_reducible exact ⟨HTa.out.up (Up.drew _), True.intro⟩ | with_reducible exact ⟨tabs_set HB.out (tabs_set HB.out (tabs_set HB.out (tabs_set HB.out (tabs_set HB.out (HTa.out.up ((Up.drew _).trans hu1)))))), True.intro⟩)
    (first | (go_at_call 63; ((with_reducible refine (CA.out _ ?_).mono ?_); (exact (by assumption : Tabs _ ∧ True).1); rintro e w1 ⟨rfl, hu1⟩; have hz3 := CntZ.up HZ.out ((Up.drew _).trans hu1); unfold CntZ at hz3)) | (go_at_call 50; ((with_reducible refine (CB.out _).mono ?_); rintro e w2 ⟨rfl, rfl⟩)))
  all_goals
    have HU1 := Lib.hid (HU.out.trans ((Up.drew _).trans hu1))
    have hf := set5 w1 N (.int .i64 (s.size : Nat)) (.int .i64 (n : Nat)) (.int .i64 (k : Nat)) (.string (s.extract 0 m)) (.string (s.extract (s.size - m) s.size)) _ _ _ _ _ hz3.1.1 hz3.1.2.1 hz3.1.2.2.1 hz3.1.2.2.2.1 hz3.1.2.2.2.2
    clear hz3
    go_wp2
    refine bodyPost_ret (v := .agg #[.int .i64 (s.size : Nat), .int .i64 (n : Nat), .int .i64 (k : Nat), .string (s.extract 0 m), .string (s.extract (s.size - m) s.size)]) (by simp [results, Tryd.results53, go_sem, hf]) rfl ⟨?_, ?_⟩
    · unfold cv hd tl; rw [HK.out, HN.out, HM.out]
    · have h1 := HU1.out
      unfold Up at h1 ⊢
      rw [HNN.out] at h1 ⊢
      exact ((((h1.setCell (p := ⟨N, 0, none⟩) (Nat.le_refl _) _).setCell (p := ⟨N, 1, none⟩) (Nat.le_refl _) _).setCell (p := ⟨N, 2, none⟩) (Nat.le_refl _) _).setCell (p := ⟨N, 3, none⟩) (Nat.le_refl _) _).setCell (p := ⟨N, 4, none⟩) (Nat.le_refl _) _

set_option maxRecDepth 100000 in
set_option maxHeartbeats 400000 in
theorem clone_any (s : ByteArray) (w : World) (h1 : (s.size : Int) ≤ 1048576) :
    Calls Tryd.prog 52 #[.string s] w fun e w' => e = .returned (.string s) ∧ Up w w' := by
  have H := Lib.hid (fun w => Tryd.stringslite_Clone s w (by omega))
  go_enter Tryd.func52, Tryd.ntmps52
  go_wp2_with (go_at_call 62; refine (H.out _).mono ?_; rintro e w1 ⟨rfl, hu1⟩)
  go_ret
  exact ⟨rfl, hu1⟩

/-- A new tree, at a pointer that is returned; what lay before is as it was. -/
def NewT (t : T) (w : World) (e : Ending) (w' : World) : Prop := ∃ b, e = .returned (.pointer (some ⟨b, 0, none⟩)) ∧ Node w' t b ∧ Up w w'

set_option maxRecDepth 100000 in
set_option maxHeartbeats 400000 in
theorem leaf_any (s : ByteArray) (w : World) (h1 : (s.size : Int) ≤ 1048576) (hT : Tabs w) :
    Calls Tryd.prog 40 #[.string s] w (NewT (.leaf s) w) := by
  have HL := Lib.hid (fun w => clone_any s w h1)
  have hct := fun w ht => count_walk s w h1 ht
  unfold cv at hct
  have HC := Lib.hid hct
  clear hct
  go_enter Tryd.func40, Tryd.ntmps40
  go_wp2_with (first | (go_at_call 52; refine (HL.out _).mono ?_; rintro e w1 ⟨rfl, hu1⟩; have ht1 := hT.up hu1) | (go_at_call 53; refine (HC.out _ ht1).mono ?_; rintro e w2 ⟨rfl, hu2⟩))
  go_ret
  exact ⟨w2.heap.size, rfl, ⟨by simp, Go.heap_alloc_new _ _⟩, (hu1.trans hu2).trans (Up.alloc _ _)⟩
end Go.Proofs.YtcbmigkdmmmahaaDoor
