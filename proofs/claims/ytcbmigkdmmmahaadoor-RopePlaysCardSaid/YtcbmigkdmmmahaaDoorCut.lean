/- The program's join where there may be no tree, and its cut. -/
import Derived.Test.YtcbmigkdmmmahaaDoorJoinAny
import Derived.Test.YtcbmigkdmmmahaaDoorPcs
namespace Go.Proofs.YtcbmigkdmmmahaaDoor
open Go.RowKit

/-- A pointer to a tree of the text s, or nil where it is empty. -/
def PtrPost (s : ByteArray) (w : World) (e : Ending) (w' : World) : Prop := ∃ v o, e = .returned v ∧ Ptr w' v o ∧ OkO o ∧ otext o = s ∧ Up w w'
def CutPost (s1 s2 : ByteArray) (w : World) (e : Ending) (w' : World) : Prop := ∃ v1 o1 v2 o2, e = .returned (.tuple #[v1, v2]) ∧ Ptr w' v1 o1 ∧ Ptr w' v2 o2 ∧ OkO o1 ∧ OkO o2 ∧ otext o1 = s1 ∧ otext o2 = s2 ∧ Up w w'

set_option maxRecDepth 100000 in
set_option maxHeartbeats 400000 in
theorem join_nil1 (v : Value) (w : World) : Calls Tryd.prog 32 #[.pointer none, v] w fun e w' => e = .returned v ∧ w = w' := by
  go_enter Tryd.func32, Tryd.ntmps32
  go_wp2
  go_ret
  exact ⟨rfl, rfl⟩
set_option maxRecDepth 100000 in
set_option maxHeartbeats 400000 in
theorem join_nil2 (b : Nat) (w : World) : Calls Tryd.prog 32 #[.pointer (some ⟨b, 0, none⟩), .pointer none] w fun e w' => e = .returned (.pointer (some ⟨b, 0, none⟩)) ∧ w = w' := by
  go_enter Tryd.func32, Tryd.ntmps32
  go_wp2
  go_ret
  exact ⟨rfl, rfl⟩
theorem empty_append' (s : ByteArray) : (⟨#[]⟩ : ByteArray) ++ s = s := ByteArray.empty_append
theorem append_empty' (s : ByteArray) : s ++ (⟨#[]⟩ : ByteArray) = s := ByteArray.append_empty
theorem join_o {va vb : Value} {oa ob : Option T} {w : World} (pa : Ptr w va oa) (pb : Ptr w vb ob) (ka : OkO oa) (kb : OkO ob) (hs : ((otext oa).size : Int) + (otext ob).size ≤ 1048576) (hT : Tabs w) :
    Calls Tryd.prog 32 #[va, vb] w (PtrPost (otext oa ++ otext ob) w) := by
  cases oa with
  | none =>
    obtain rfl : va = .pointer none := pa
    refine (join_nil1 vb w).mono ?_
    rintro e w' ⟨rfl, rfl⟩
    exact ⟨vb, ob, rfl, pb, kb, (empty_append' _).symm, Up.refl _⟩
  | some ta =>
    obtain ⟨b1, rfl, n1⟩ := pa
    cases ob with
    | none =>
      obtain rfl : vb = .pointer none := pb
      refine (join_nil2 b1 w).mono ?_
      rintro e w' ⟨rfl, rfl⟩
      exact ⟨_, some ta, rfl, ⟨b1, rfl, n1⟩, ka, (append_empty' _).symm, Up.refl _⟩
    | some tb =>
      obtain ⟨b2, rfl, n2⟩ := pb
      refine (join_any _ ta tb b1 b2 w (Nat.le_refl _) ka kb n1 n2 hs hT).mono ?_
      rintro e w' ⟨t, hj, b, rfl, hn, hu⟩
      exact ⟨_, some t, rfl, ⟨b, rfl, hn⟩, hj.1, hj.2.1, hu⟩

set_option maxRecDepth 100000 in
set_option maxHeartbeats 400000 in
theorem cut_nil (i : Int) (w : World) : Calls Tryd.prog 31 #[.pointer none, .int .i64 i] w fun e w' => e = .returned (.tuple #[.pointer none, .pointer none]) ∧ w = w' := by
  go_enter Tryd.func31, Tryd.ntmps31
  go_wp2
  go_ret2
  exact ⟨rfl, rfl⟩
set_option maxRecDepth 100000 in
set_option maxHeartbeats 400000 in
theorem cut_low (b : Nat) (i : Int) (hi : i ≤ 0) (w : World) : Calls Tryd.prog 31 #[.pointer (some ⟨b, 0, none⟩), .int .i64 i] w fun e w' => e = .returned (.tuple #[.pointer none, .pointer (some ⟨b, 0, none⟩)]) ∧ w = w' := by
  go_enter Tryd.func31, Tryd.ntmps31
  go_wp2
  go_ret2
  exact ⟨rfl, rfl⟩
set_option maxRecDepth 100000 in
set_option maxHeartbeats 400000 in
theorem cut_high (b n : Nat) (i : Int) (h0 : 0 < i) (hi : (n : Int) ≤ i) (w : World) (c0 : w.cell? ⟨b, 0, none⟩ = some (.int .i64 (n : Nat))) : Calls Tryd.prog 31 #[.pointer (some ⟨b, 0, none⟩), .int .i64 i] w fun e w' => e = .returned (.tuple #[.pointer (some ⟨b, 0, none⟩), .pointer none]) ∧ w = w' := by
  go_enter Tryd.func31, Tryd.ntmps31
  go_wp2
  go_ret2
  exact ⟨rfl, rfl⟩

set_option maxRecDepth 100000 in
set_option maxHeartbeats 1000000 in
theorem cut_leaf (b i : Nat) (s : ByteArray) (w : World) (hT : Tabs w) (h0 : (0 : Int) < i) (hi : (i : Int) < s.size) (hs : (s.size : Int) ≤ 1048576) (c0 : w.cell? ⟨b, 0, none⟩ = some (.int .i64 (s.size : Nat))) (c6 : w.cell? ⟨b, 6, none⟩ = some (.pointer none)) (c8 : w.cell? ⟨b, 8, none⟩ = some (.string s)) :
    Calls Tryd.prog 31 #[.pointer (some ⟨b, 0, none⟩), .int .i64 (i : Nat)] w fun e w' => ∃ g1 g2, e = .returned (.tuple #[.pointer (some ⟨g1, 0, none⟩), .pointer (some ⟨g2, 0, none⟩)]) ∧ Node w' (.leaf (s.extract 0 i)) g1 ∧ Node w' (.leaf (s.extract i s.size)) g2 ∧ Up w w' := by
  have HA := Lib.hid (fun W ht => leaf_any (s.extract 0 i) W (by rw [ByteArray.size_extract]; omega) ht)
  have HB := Lib.hid (fun W ht => leaf_any (s.extract i s.size) W (by rw [ByteArray.size_extract]; omega) ht)
  have hi2 : (0 : Int) ≤ i := by omega
  have hi3 : (i : Int) ≤ s.size := by omega
  have f1 : decide ((s.size : Int) ≤ i) = false := by simp; omega
  go_enter Tryd.func31, Tryd.ntmps31
  go_wp2_with (go_at_call 43; refine (isLeaf_yes _ w c6).mono ?_; rintro e w' ⟨rfl, rfl⟩)
  have hS : Up w w ∧ Tabs w ∧ w.cell? ⟨b, 8, none⟩ = some (.string s) := ⟨Up.refl w, hT, c8⟩
  clear c0 c6 c8 hT f1
  go_region_held3 (fun w' => Up w w' ∧ Tabs w' ∧ w'.cell? ⟨b, 8, none⟩ = some (.string s))
    (first | assumption | with_reducible exact keep1 hu2 (by assumption) | with_reducible exact keep1 hu1 (by assumption) | with_reducible exact keep1 (Up.drew _) (by assumption))
    (first | (go_at_call 40; ((with_reducible refine (HA.out _ ?_).mono ?_); (exact (by assumption : _ ∧ Tabs _ ∧ _).2.1); rintro e w1 ⟨g1, rfl, hn1, hu1⟩)) | (go_at_call 40; ((with_reducible refine (HB.out _ ?_).mono ?_); (exact (by assumption : _ ∧ Tabs _ ∧ _).2.1); rintro e w2 ⟨g2, rfl, hn2, hu2⟩)))
  have HF := Lib.hid (by assumption : Up w w2 ∧ _).1
  go_wp2
  go_ret2
  exact ⟨g1, g2, rfl, hn1.up hu2, hn2, HF.out⟩

set_option maxRecDepth 100000 in
set_option maxHeartbeats 1000000 in
theorem cut_left (b bl br i n nl : Nat) (s1 s2 s3 : ByteArray) (w : World) (hT : Tabs w) (h0 : (0 : Int) < i) (hi : (i : Int) < n) (hl : (i : Int) < nl) (c0 : w.cell? ⟨b, 0, none⟩ = some (.int .i64 (n : Nat))) (c6 : w.cell? ⟨b, 6, none⟩ = some (.pointer (some ⟨bl, 0, none⟩))) (c7 : w.cell? ⟨b, 7, none⟩ = some (.pointer (some ⟨br, 0, none⟩))) (l0 : w.cell? ⟨bl, 0, none⟩ = some (.int .i64 (nl : Nat)))
    (PC : ∀ W, Up w W → Tabs W → Calls Tryd.prog 31 #[.pointer (some ⟨bl, 0, none⟩), .int .i64 (i : Nat)] W (CutPost s1 s2 W))
    (PJ : ∀ W v o, Up w W → Tabs W → Ptr W v o → OkO o → otext o = s2 → Calls Tryd.prog 32 #[v, .pointer (some ⟨br, 0, none⟩)] W (PtrPost (s2 ++ s3) W)) :
    Calls Tryd.prog 31 #[.pointer (some ⟨b, 0, none⟩), .int .i64 (i : Nat)] w (CutPost s1 (s2 ++ s3) w) := by
  have f1 : decide ((n : Int) ≤ i) = false := by simp; omega
  have HC := Lib.hid (PC w (Up.refl w) hT)
  have HJ := Lib.hid PJ
  clear PC PJ
  go_enter Tryd.func31, Tryd.ntmps31
  go_wp2_with (first
    | (go_at_call 43; ((with_reducible refine (isLeaf_no _ _ w c6).mono ?_); rintro e w' ⟨rfl, rfl⟩))
    | (go_at_call 31; ((with_reducible refine HC.out.mono ?_); rintro e w1 ⟨v1, o1, v2, o2, rfl, p1, p2, k1, k2, x1, x2, hu1⟩; have c7' := cell_up hu1 c7; have ht1 := hT.up hu1; have HX := Lib.hid x2; have HX1 := Lib.hid x1; clear x2 x1))
    | (go_at_call 32; ((with_reducible refine (HJ.out _ _ _ hu1 ht1 p2 k2 HX.out).mono ?_); rintro e w2 ⟨v3, o3, rfl, p3, k3, x3, hu2⟩; have HX3 := Lib.hid x3; clear x3)))
  go_ret2
  exact ⟨v1, o1, v3, o3, rfl, p1.up hu2, p3, k1, k3, HX1.out, HX3.out, hu1.trans hu2⟩

set_option maxRecDepth 100000 in
set_option maxHeartbeats 1000000 in
theorem cut_right (b bl br i n nl k : Nat) (s1 s2 s3 : ByteArray) (w : World) (hT : Tabs w) (h0 : (0 : Int) < i) (hi : (i : Int) < n) (hn : (n : Int) ≤ 1048576) (hl : (nl : Int) ≤ i) (hk : (i : Int) - nl = k) (c0 : w.cell? ⟨b, 0, none⟩ = some (.int .i64 (n : Nat))) (c6 : w.cell? ⟨b, 6, none⟩ = some (.pointer (some ⟨bl, 0, none⟩))) (c7 : w.cell? ⟨b, 7, none⟩ = some (.pointer (some ⟨br, 0, none⟩))) (l0 : w.cell? ⟨bl, 0, none⟩ = some (.int .i64 (nl : Nat)))
    (PC : ∀ W, Up w W → Tabs W → Calls Tryd.prog 31 #[.pointer (some ⟨br, 0, none⟩), .int .i64 (k : Nat)] W (CutPost s1 s2 W))
    (PJ : ∀ W v o, Up w W → Tabs W → Ptr W v o → OkO o → otext o = s1 → Calls Tryd.prog 32 #[.pointer (some ⟨bl, 0, none⟩), v] W (PtrPost (s3 ++ s1) W)) :
    Calls Tryd.prog 31 #[.pointer (some ⟨b, 0, none⟩), .int .i64 (i : Nat)] w (CutPost (s3 ++ s1) s2 w) := by
  have f1 : decide ((n : Int) ≤ i) = false := by simp; omega
  have f2 : decide ((i : Int) < nl) = false := by simp; omega
  have e1 : IntKind.i64.wrap ((i : Int) - nl) = (k : Int) := (IntWalk.i64_in _ (by omega)).trans hk
  have HC := Lib.hid PC
  have HJ := Lib.hid PJ
  clear PC PJ hk hn
  go_enter Tryd.func31, Tryd.ntmps31
  go_wp2_with (go_at_call 43; ((with_reducible refine (isLeaf_no _ _ w c6).mono ?_); rintro e w' ⟨rfl, rfl⟩))
  have hS : Up w w ∧ Tabs w ∧ w.cell? ⟨b, 6, none⟩ = some (.pointer (some ⟨bl, 0, none⟩)) ∧ w.cell? ⟨b, 7, none⟩ = some (.pointer (some ⟨br, 0, none⟩)) ∧ w.cell? ⟨bl, 0, none⟩ = some (.int .i64 (nl : Nat)) := ⟨Up.refl w, hT, c6, c7, l0⟩
  clear c0 c7 l0 f1 f2
  go_region_held3 (fun w' => Up w w' ∧ Tabs w' ∧ w'.cell? ⟨b, 6, none⟩ = some (.pointer (some ⟨bl, 0, none⟩)) ∧ w'.cell? ⟨b, 7, none⟩ = some (.pointer (some ⟨br, 0, none⟩)) ∧ w'.cell? ⟨bl, 0, none⟩ = some (.int .i64 (nl : Nat)))
    (first | assumption | with_reducible exact keep3 hu1 (by assumption) | with_reducible exact keep3 (Up.drew _) (by assumption))
    (first | (go_at_call 31; ((with_reducible refine (HC.out _ ?_ ?_).mono ?_); (exact (by assumption : _ ∧ Tabs _ ∧ _).1); (exact (by assumption : _ ∧ Tabs _ ∧ _).2.1); rintro e w1 ⟨v1, o1, v2, o2, rfl, p1, p2, k1, k2, x1, x2, hu1⟩; have HX1 := Lib.hid x1; have HX2 := Lib.hid x2; clear x1 x2)))
  have hF := (by assumption : Up w w1 ∧ _).1
  have ht1 := hT.up hF
  have c6' := cell_up hF c6
  clear hS hT c6
  go_wp2_with (go_at_call 32; ((with_reducible refine (HJ.out _ _ _ hF ht1 p1 k1 HX1.out).mono ?_); rintro e w2 ⟨v3, o3, rfl, p3, k3, x3, hu2⟩; have HX3 := Lib.hid x3; clear x3))
  go_ret2
  exact ⟨v3, o3, v2, o2, rfl, p3, p2.up hu2, k3, k2, HX3.out, HX2.out, hF.trans hu2⟩
end Go.Proofs.YtcbmigkdmmmahaaDoor
