/- The program's join where there may be no tree, and its cut. The program's cut, at every place of every tree that is in form. The program's ways down a tree: byteAt, behind, endsAhead. Where lines begin, in plain words. The program's behind and endsAhead: where lines begin, and how many end ahead of a place. -/
import Derived.Test.YtfcpieodgflmnaaDoorGF
import Derived.Test.YtfcpieodgflmnaaDoorGD
import Derived.Deep.LoopGhost
import Derived.Deep.DeepCutAuto
namespace Go.Proofs.YtfcpieodgflmnaaDoor
open Go.RowKit

/-- A pointer to a tree of the text s, or nil where it is empty. -/
def PtrPost (s : ByteArray) (w : World) (e : Ending) (w' : World) : Prop := ∃ v o, e = .returned v ∧ Ptr w' v o ∧ OkO o ∧ otext o = s ∧ Up w w'
def CutPost (s1 s2 : ByteArray) (w : World) (e : Ending) (w' : World) : Prop := ∃ v1 o1 v2 o2, e = .returned (.tuple #[v1, v2]) ∧ Ptr w' v1 o1 ∧ Ptr w' v2 o2 ∧ OkO o1 ∧ OkO o2 ∧ otext o1 = s1 ∧ otext o2 = s2 ∧ Up w w'

set_option maxRecDepth 100000 in
set_option maxHeartbeats 400000 in
theorem join_nil1 (v : Value) (w : World) : Calls Tryd.prog 34 #[.pointer none, v] w fun e w' => e = .returned v ∧ w = w' := by
  go_enter Tryd.func34, Tryd.ntmps34
  go_wp2
  go_ret
  exact ⟨rfl, rfl⟩
set_option maxRecDepth 100000 in
set_option maxHeartbeats 400000 in
theorem join_nil2 (b : Nat) (w : World) : Calls Tryd.prog 34 #[.pointer (some ⟨b, 0, none⟩), .pointer none] w fun e w' => e = .returned (.pointer (some ⟨b, 0, none⟩)) ∧ w = w' := by
  go_enter Tryd.func34, Tryd.ntmps34
  go_wp2
  go_ret
  exact ⟨rfl, rfl⟩
theorem empty_append' (s : ByteArray) : (⟨#[]⟩ : ByteArray) ++ s = s := ByteArray.empty_append
theorem append_empty' (s : ByteArray) : s ++ (⟨#[]⟩ : ByteArray) = s := ByteArray.append_empty
theorem join_o {va vb : Value} {oa ob : Option T} {w : World} (pa : Ptr w va oa) (pb : Ptr w vb ob) (ka : OkO oa) (kb : OkO ob) (hs : ((otext oa).size : Int) + (otext ob).size ≤ 1048576) (hT : Tabs w) :
    Calls Tryd.prog 34 #[va, vb] w (PtrPost (otext oa ++ otext ob) w) := by
  cases oa with
  | none =>
    obtain rfl : va = .pointer none := pa
    refine (join_nil1 vb w).mono ?_
    rintro e w' ⟨rfl, rfl⟩
    exact ⟨vb, ob, rfl, pb, kb, (empty_append' _).symm, Up.refl _⟩
  | some ta =>
    obtain ⟨b1, rfl, n1⟩ := pa
    cases ob with
    | none =>
      obtain rfl : vb = .pointer none := pb
      refine (join_nil2 b1 w).mono ?_
      rintro e w' ⟨rfl, rfl⟩
      exact ⟨_, some ta, rfl, ⟨b1, rfl, n1⟩, ka, (append_empty' _).symm, Up.refl _⟩
    | some tb =>
      obtain ⟨b2, rfl, n2⟩ := pb
      refine (join_any _ ta tb b1 b2 w (Nat.le_refl _) ka kb n1 n2 hs hT).mono ?_
      rintro e w' ⟨t, hj, b, rfl, hn, hu⟩
      exact ⟨_, some t, rfl, ⟨b, rfl, hn⟩, hj.1, hj.2.1, hu⟩

set_option maxRecDepth 100000 in
set_option maxHeartbeats 400000 in
theorem cut_nil (i : Int) (w : World) : Calls Tryd.prog 33 #[.pointer none, .int .i64 i] w fun e w' => e = .returned (.tuple #[.pointer none, .pointer none]) ∧ w = w' := by
  go_enter Tryd.func33, Tryd.ntmps33
  go_wp2
  go_ret2
  exact ⟨rfl, rfl⟩
set_option maxRecDepth 100000 in
set_option maxHeartbeats 400000 in
theorem cut_low (b : Nat) (i : Int) (hi : i ≤ 0) (w : World) : Calls Tryd.prog 33 #[.pointer (some ⟨b, 0, none⟩), .int .i64 i] w fun e w' => e = .returned (.tuple #[.pointer none, .pointer (some ⟨b, 0, none⟩)]) ∧ w = w' := by
  go_enter Tryd.func33, Tryd.ntmps33
  go_wp2
  go_ret2
  exact ⟨rfl, rfl⟩
set_option maxRecDepth 100000 in
set_option maxHeartbeats 400000 in
theorem cut_high (b n : Nat) (i : Int) (h0 : 0 < i) (hi : (n : Int) ≤ i) (w : World) (c0 : w.cell? ⟨b, 0, none⟩ = some (.int .i64 (n : Nat))) : Calls Tryd.prog 33 #[.pointer (some ⟨b, 0, none⟩), .int .i64 i] w fun e w' => e = .returned (.tuple #[.pointer (some ⟨b, 0, none⟩), .pointer none]) ∧ w = w' := by
  go_enter Tryd.func33, Tryd.ntmps33
  go_wp2
  go_ret2
  exact ⟨rfl, rfl⟩

set_option maxRecDepth 100000 in
set_option maxHeartbeats 1000000 in
theorem cut_leaf (b i : Nat) (s : ByteArray) (w : World) (hT : Tabs w) (h0 : (0 : Int) < i) (hi : (i : Int) < s.size) (hs : (s.size : Int) ≤ 1048576) (c0 : w.cell? ⟨b, 0, none⟩ = some (.int .i64 (s.size : Nat))) (c6 : w.cell? ⟨b, 6, none⟩ = some (.pointer none)) (c8 : w.cell? ⟨b, 8, none⟩ = some (.string s)) :
    Calls Tryd.prog 33 #[.pointer (some ⟨b, 0, none⟩), .int .i64 (i : Nat)] w fun e w' => ∃ g1 g2, e = .returned (.tuple #[.pointer (some ⟨g1, 0, none⟩), .pointer (some ⟨g2, 0, none⟩)]) ∧ Node w' (.leaf (s.extract 0 i)) g1 ∧ Node w' (.leaf (s.extract i s.size)) g2 ∧ Up w w' := by
  have HA := Lib.hid (fun W ht => leaf_any (s.extract 0 i) W (by rw [ByteArray.size_extract]; omega) ht)
  have HB := Lib.hid (fun W ht => leaf_any (s.extract i s.size) W (by rw [ByteArray.size_extract]; omega) ht)
  have hi2 : (0 : Int) ≤ i := by omega
  have hi3 : (i : Int) ≤ s.size := by omega
  have f1 : decide ((s.size : Int) ≤ i) = false := by simp; omega
  go_enter Tryd.func33, Tryd.ntmps33
  go_wp2_with (go_at_call 51; refine (isLeaf_yes _ w c6).mono ?_; rintro e w' ⟨rfl, rfl⟩)
  have hS : Up w w ∧ Tabs w ∧ w.cell? ⟨b, 8, none⟩ = some (.string s) := ⟨Up.refl w, hT, c8⟩
  clear c0 c6 c8 hT f1
  go_region_held3 (fun w' => Up w w' ∧ Tabs w' ∧ w'.cell? ⟨b, 8, none⟩ = some (.string s))
    (first | assumption | with_reducible exact keep1 hu2 (by assumption) | with_reducible exact keep1 hu1 (by assumption) | with_reducible exact keep1 (Up.drew _) (by assumption))
    (first | (go_at_call 36; ((with_reducible refine (HA.out _ ?_).mono ?_); (exact (by assumption : _ ∧ Tabs _ ∧ _).2.1); rintro e w1 ⟨g1, rfl, hn1, hu1⟩)) | (go_at_call 36; ((with_reducible refine (HB.out _ ?_).mono ?_); (exact (by assumption : _ ∧ Tabs _ ∧ _).2.1); rintro e w2 ⟨g2, rfl, hn2, hu2⟩)))
  have HF := Lib.hid (by assumption : Up w w2 ∧ _).1
  go_wp2
  go_ret2
  exact ⟨g1, g2, rfl, hn1.up hu2, hn2, HF.out⟩

set_option maxRecDepth 100000 in
set_option maxHeartbeats 1000000 in
theorem cut_left (b bl br i n nl : Nat) (s1 s2 s3 : ByteArray) (w : World) (hT : Tabs w) (h0 : (0 : Int) < i) (hi : (i : Int) < n) (hl : (i : Int) < nl) (c0 : w.cell? ⟨b, 0, none⟩ = some (.int .i64 (n : Nat))) (c6 : w.cell? ⟨b, 6, none⟩ = some (.pointer (some ⟨bl, 0, none⟩))) (c7 : w.cell? ⟨b, 7, none⟩ = some (.pointer (some ⟨br, 0, none⟩))) (l0 : w.cell? ⟨bl, 0, none⟩ = some (.int .i64 (nl : Nat)))
    (PC : ∀ W, Up w W → Tabs W → Calls Tryd.prog 33 #[.pointer (some ⟨bl, 0, none⟩), .int .i64 (i : Nat)] W (CutPost s1 s2 W))
    (PJ : ∀ W v o, Up w W → Tabs W → Ptr W v o → OkO o → otext o = s2 → Calls Tryd.prog 34 #[v, .pointer (some ⟨br, 0, none⟩)] W (PtrPost (s2 ++ s3) W)) :
    Calls Tryd.prog 33 #[.pointer (some ⟨b, 0, none⟩), .int .i64 (i : Nat)] w (CutPost s1 (s2 ++ s3) w) := by
  have f1 : decide ((n : Int) ≤ i) = false := by simp; omega
  have HC := Lib.hid (PC w (Up.refl w) hT)
  have HJ := Lib.hid PJ
  clear PC PJ
  go_enter Tryd.func33, Tryd.ntmps33
  go_wp2_with (first
    | (go_at_call 51; ((with_reducible refine (isLeaf_no _ _ w c6).mono ?_); rintro e w' ⟨rfl, rfl⟩))
    | (go_at_call 33; ((with_reducible refine HC.out.mono ?_); rintro e w1 ⟨v1, o1, v2, o2, rfl, p1, p2, k1, k2, x1, x2, hu1⟩; have c7' := cell_up hu1 c7; have ht1 := hT.up hu1; have HX := Lib.hid x2; have HX1 := Lib.hid x1; clear x2 x1))
    | (go_at_call 34; ((with_reducible refine (HJ.out _ _ _ hu1 ht1 p2 k2 HX.out).mono ?_); rintro e w2 ⟨v3, o3, rfl, p3, k3, x3, hu2⟩; have HX3 := Lib.hid x3; clear x3)))
  go_ret2
  exact ⟨v1, o1, v3, o3, rfl, p1.up hu2, p3, k1, k3, HX1.out, HX3.out, hu1.trans hu2⟩

set_option maxRecDepth 100000 in
set_option maxHeartbeats 1000000 in
theorem cut_right (b bl br i n nl k : Nat) (s1 s2 s3 : ByteArray) (w : World) (hT : Tabs w) (h0 : (0 : Int) < i) (hi : (i : Int) < n) (hn : (n : Int) ≤ 1048576) (hl : (nl : Int) ≤ i) (hk : (i : Int) - nl = k) (c0 : w.cell? ⟨b, 0, none⟩ = some (.int .i64 (n : Nat))) (c6 : w.cell? ⟨b, 6, none⟩ = some (.pointer (some ⟨bl, 0, none⟩))) (c7 : w.cell? ⟨b, 7, none⟩ = some (.pointer (some ⟨br, 0, none⟩))) (l0 : w.cell? ⟨bl, 0, none⟩ = some (.int .i64 (nl : Nat)))
    (PC : ∀ W, Up w W → Tabs W → Calls Tryd.prog 33 #[.pointer (some ⟨br, 0, none⟩), .int .i64 (k : Nat)] W (CutPost s1 s2 W))
    (PJ : ∀ W v o, Up w W → Tabs W → Ptr W v o → OkO o → otext o = s1 → Calls Tryd.prog 34 #[.pointer (some ⟨bl, 0, none⟩), v] W (PtrPost (s3 ++ s1) W)) :
    Calls Tryd.prog 33 #[.pointer (some ⟨b, 0, none⟩), .int .i64 (i : Nat)] w (CutPost (s3 ++ s1) s2 w) := by
  have f1 : decide ((n : Int) ≤ i) = false := by simp; omega
  have f2 : decide ((i : Int) < nl) = false := by simp; omega
  have e1 : IntKind.i64.wrap ((i : Int) - nl) = (k : Int) := (IntWalk.i64_in _ (by omega)).trans hk
  have HC := Lib.hid PC
  have HJ := Lib.hid PJ
  clear PC PJ hk hn
  go_enter Tryd.func33, Tryd.ntmps33
  go_wp2_with (go_at_call 51; ((with_reducible refine (isLeaf_no _ _ w c6).mono ?_); rintro e w' ⟨rfl, rfl⟩))
  have hS : Up w w ∧ Tabs w ∧ w.cell? ⟨b, 6, none⟩ = some (.pointer (some ⟨bl, 0, none⟩)) ∧ w.cell? ⟨b, 7, none⟩ = some (.pointer (some ⟨br, 0, none⟩)) ∧ w.cell? ⟨bl, 0, none⟩ = some (.int .i64 (nl : Nat)) := ⟨Up.refl w, hT, c6, c7, l0⟩
  clear c0 c7 l0 f1 f2
  go_region_held3 (fun w' => Up w w' ∧ Tabs w' ∧ w'.cell? ⟨b, 6, none⟩ = some (.pointer (some ⟨bl, 0, none⟩)) ∧ w'.cell? ⟨b, 7, none⟩ = some (.pointer (some ⟨br, 0, none⟩)) ∧ w'.cell? ⟨bl, 0, none⟩ = some (.int .i64 (nl : Nat)))
    (first | assumption | with_reducible exact keep3 hu1 (by assumption) | with_reducible exact keep3 (Up.drew _) (by assumption))
    (first | (go_at_call 33; ((with_reducible refine (HC.out _ ?_ ?_).mono ?_); (exact (by assumption : _ ∧ Tabs _ ∧ _).1); (exact (by assumption : _ ∧ Tabs _ ∧ _).2.1); rintro e w1 ⟨v1, o1, v2, o2, rfl, p1, p2, k1, k2, x1, x2, hu1⟩; have HX1 := Lib.hid x1; have HX2 := Lib.hid x2; clear x1 x2)))
  have hF := (by assumption : Up w w1 ∧ _).1
  have ht1 := hT.up hF
  have c6' := cell_up hF c6
  clear hS hT c6
  go_wp2_with (go_at_call 34; ((with_reducible refine (HJ.out _ _ _ hF ht1 p1 k1 HX1.out).mono ?_); rintro e w2 ⟨v3, o3, rfl, p3, k3, x3, hu2⟩; have HX3 := Lib.hid x3; clear x3))
  go_ret2
  exact ⟨v3, o3, v2, o2, rfl, p3, p2.up hu2, k3, k2, HX3.out, HX2.out, hF.trans hu2⟩
end Go.Proofs.YtfcpieodgflmnaaDoor

namespace Go.Proofs.YtfcpieodgflmnaaDoor
open Go.RowKit

theorem bt_ext_in {s : ByteArray} {a c i : Nat} (h1 : a + i < c) (h2 : c ≤ s.size) : bt (s.extract a c) i = bt s (a + i) := by
  have := bt_extract (s := s) (a := a) (n := c - a) (i := i) (by omega) (by omega)
  rw [show a + (c - a) = c from by omega] at this
  exact this
theorem extract_from_append {a b : ByteArray} {i : Nat} (h : i ≤ a.size) : (a ++ b).extract i (a ++ b).size = a.extract i a.size ++ b := by
  have z1 : (a.extract i a.size).size = a.size - i := by rw [ByteArray.size_extract]; omega
  have z2 : (a ++ b).size = a.size + b.size := ByteArray.size_append
  refine ext_bt (by simp only [ByteArray.size_append, ByteArray.size_extract]; omega) fun k hk => ?_
  rw [ByteArray.size_extract, z2] at hk
  rw [bt_ext_in (by omega) (Nat.le_refl _)]
  by_cases hl : k < a.size - i
  · rw [bt_append_left (by omega), bt_append_left (by omega), bt_ext_in (by omega) (Nat.le_refl _)]
  · have e1 := bt_append_right (a := a) (b := b) (i := i + k - a.size) (by omega)
    have e2 := bt_append_right (a := a.extract i a.size) (b := b) (i := k - (a.size - i)) (by omega)
    rw [show a.size + (i + k - a.size) = i + k from by omega] at e1
    rw [z1, show a.size - i + (k - (a.size - i)) = k from by omega] at e2
    rw [e1, e2, show i + k - a.size = k - (a.size - i) from by omega]
theorem extract_to_append {a b : ByteArray} {i : Nat} (h : a.size ≤ i) (hi : i ≤ a.size + b.size) : (a ++ b).extract 0 i = a ++ b.extract 0 (i - a.size) := by
  have z1 : (b.extract 0 (i - a.size)).size = i - a.size := by rw [ByteArray.size_extract]; omega
  have z2 : (a ++ b).size = a.size + b.size := ByteArray.size_append
  refine ext_bt (by simp only [ByteArray.size_append, ByteArray.size_extract]; omega) fun k hk => ?_
  rw [ByteArray.size_extract, z2] at hk
  rw [bt_ext_in (by omega) (by omega), Nat.zero_add]
  by_cases hl : k < a.size
  · rw [bt_append_left hl, bt_append_left hl]
  · have e1 := bt_append_right (a := a) (b := b) (i := k - a.size) (by omega)
    have e2 := bt_append_right (a := a) (b := b.extract 0 (i - a.size)) (i := k - a.size) (by omega)
    rw [show a.size + (k - a.size) = k from by omega] at e1 e2
    rw [e1, e2, bt_ext_in (by omega) (by omega), Nat.zero_add]
theorem extract_all (s : ByteArray) {n : Nat} (h : s.size ≤ n) : s.extract 0 n = s := by
  refine ext_bt (by rw [ByteArray.size_extract]; omega) fun k hk => ?_
  rw [ByteArray.size_extract] at hk
  have h1 : k < (s.extract 0 n).size := by rw [ByteArray.size_extract]; omega
  rw [← bt_eq h1, ← bt_eq (show k < s.size by omega), ByteArray.getElem_extract]
  simp
theorem extract_none (s : ByteArray) {n : Nat} (h : s.size ≤ n) : s.extract n s.size = ⟨#[]⟩ := by
  refine ext_bt (by rw [ByteArray.size_extract]; show _ = 0; omega) fun k hk => ?_
  rw [ByteArray.size_extract] at hk
  omega

theorem cut_any : ∀ (t : T) (b : Nat) (i : Int) (w : World), Ok t → Node w t b → (t.text.size : Int) ≤ 1048576 → Tabs w →
    Calls Tryd.prog 33 #[.pointer (some ⟨b, 0, none⟩), .int .i64 i] w (CutPost (t.text.extract 0 i.toNat) (t.text.extract i.toNat t.text.size) w) := by
  intro t
  induction t with
  | leaf s =>
    intro b i w ha n hs hT
    obtain ⟨c6, c8⟩ := n.leaf_cells
    by_cases h0 : i ≤ 0
    · refine (cut_low b i h0 w).mono ?_
      rintro e w' ⟨rfl, rfl⟩
      have e0 : i.toNat = 0 := by omega
      rw [e0]
      exact ⟨_, none, _, some (.leaf s), rfl, rfl, ⟨b, rfl, n⟩, trivial, ha, by simp [otext]; rfl, (extract_all _ (Nat.le_refl _)).symm, Up.refl _⟩
    by_cases h1 : (s.size : Int) ≤ i
    · refine (cut_high b s.size i (by omega) h1 w n.sz).mono ?_
      rintro e w' ⟨rfl, rfl⟩
      exact ⟨_, some (.leaf s), _, none, rfl, ⟨b, rfl, n⟩, rfl, ha, trivial, (extract_all _ (by show s.size ≤ _; omega)).symm, (extract_none _ (by show s.size ≤ _; omega)).symm, Up.refl _⟩
    · obtain ⟨k, rfl⟩ := Int.eq_ofNat_of_zero_le (show 0 ≤ i by omega)
      refine (cut_leaf b k s w hT (by omega) (by omega) hs n.sz c6 c8).mono ?_
      rintro e w' ⟨g1, g2, rfl, m1, m2, hu⟩
      have z := ha.2
      refine ⟨_, some (.leaf (s.extract 0 k)), _, some (.leaf (s.extract k s.size)), rfl, ⟨g1, rfl, m1⟩, ⟨g2, rfl, m2⟩, ⟨?_, ?_⟩, ⟨?_, ?_⟩, rfl, rfl, hu⟩
      all_goals rw [ByteArray.size_extract]; omega
  | node l r ihl ihr =>
    intro b i w ha n hs hT
    have hbig : Big (.node l r) := ha
    have hsb : 256 ≤ (T.node l r).text.size := Big.size hbig
    have hl := hbig.1
    have hr := hbig.2.1
    obtain ⟨bl, br, hc, nl, nr⟩ := n.mk
    have hz : (T.node l r).text.size = l.text.size + r.text.size := ByteArray.size_append
    have sl := hl.size
    have sr := hr.size
    by_cases h0 : i ≤ 0
    · refine (cut_low b i h0 w).mono ?_
      rintro e w' ⟨rfl, rfl⟩
      have e0 : i.toNat = 0 := by omega
      rw [e0]
      exact ⟨_, none, _, some (.node l r), rfl, rfl, ⟨b, rfl, n⟩, trivial, ha, by simp [otext]; rfl, (extract_all _ (Nat.le_refl _)).symm, Up.refl _⟩
    by_cases h1 : ((T.node l r).text.size : Int) ≤ i
    · refine (cut_high b _ i (by omega) h1 w n.sz).mono ?_
      rintro e w' ⟨rfl, rfl⟩
      have hge : (T.node l r).text.size ≤ i.toNat := by omega
      exact ⟨_, some (.node l r), _, none, rfl, ⟨b, rfl, n⟩, rfl, ha, trivial, (extract_all _ hge).symm, (extract_none _ hge).symm, Up.refl _⟩
    obtain ⟨k, rfl⟩ := Int.eq_ofNat_of_zero_le (show 0 ≤ i by omega)
    by_cases h2 : k < l.text.size
    · have e1 : (T.node l r).text.extract 0 k = l.text.extract 0 k := extract_zero_append (by omega)
      have e2 : (T.node l r).text.extract k (T.node l r).text.size = l.text.extract k l.text.size ++ r.text := extract_from_append (by omega)
      show Calls _ _ _ _ (CutPost ((T.node l r).text.extract 0 k) ((T.node l r).text.extract k (T.node l r).text.size) w)
      rw [e1, e2]
      refine cut_left b bl br k _ l.text.size _ _ _ w hT (by omega) (by omega) (by omega) n.sz (cellOf hc rfl) (cellOf hc rfl) nl.sz ?_ ?_
      · intro W hu ht
        exact ihl bl k W hl.ok (nl.up hu) (by omega) ht
      · intro W v o hu ht hp hk he
        have hb : Ptr W (.pointer (some ⟨br, 0, none⟩)) (some r) := ⟨br, rfl, nr.up hu⟩
        have := join_o hp hb hk hr.ok (by rw [he]; show (_ : Int) + (r.text.size : Int) ≤ _; rw [ByteArray.size_extract]; omega) ht
        rw [he] at this
        exact this
    · have e1 : (T.node l r).text.extract 0 k = l.text ++ r.text.extract 0 (k - l.text.size) := extract_to_append (by omega) (by omega)
      have e2 : (T.node l r).text.extract k (T.node l r).text.size = r.text.extract (k - l.text.size) r.text.size := by
        rw [hz]
        have := extract_right (a := l.text) (b := r.text) (m := k) (n := l.text.size + r.text.size) (by omega) (Nat.le_refl _)
        rw [show l.text.size + r.text.size - l.text.size = r.text.size from by omega] at this
        exact this
      show Calls _ _ _ _ (CutPost ((T.node l r).text.extract 0 k) ((T.node l r).text.extract k (T.node l r).text.size) w)
      rw [e1, e2]
      refine cut_right b bl br k _ l.text.size (k - l.text.size) _ _ _ w hT (by omega) (by omega) hs (by omega) (by omega) n.sz (cellOf hc rfl) (cellOf hc rfl) nl.sz ?_ ?_
      · intro W hu ht
        have := ihr br ((k - l.text.size : Nat) : Int) W hr.ok (nr.up hu) (by omega) ht
        exact this
      · intro W v o hu ht hp hk he
        have hb : Ptr W (.pointer (some ⟨bl, 0, none⟩)) (some l) := ⟨bl, rfl, nl.up hu⟩
        have := join_o hb hp hl.ok hk (by rw [he]; show (l.text.size : Int) + (_ : Int) ≤ _; rw [ByteArray.size_extract]; omega) ht
        rw [he] at this
        exact this

theorem cut_o {v : Value} {o : Option T} {w : World} (i : Int) (hp : Ptr w v o) (hk : OkO o) (hs : ((otext o).size : Int) ≤ 1048576) (hT : Tabs w) :
    Calls Tryd.prog 33 #[v, .int .i64 i] w (CutPost ((otext o).extract 0 i.toNat) ((otext o).extract i.toNat (otext o).size) w) := by
  cases o with
  | none =>
    obtain rfl : v = .pointer none := hp
    refine (cut_nil i w).mono ?_
    rintro e w' ⟨rfl, rfl⟩
    exact ⟨_, none, _, none, rfl, rfl, rfl, trivial, trivial, (extract_all _ (Nat.zero_le _)).symm, (extract_none _ (Nat.zero_le _)).symm, Up.refl _⟩
  | some t =>
    obtain ⟨b, rfl, n⟩ := hp
    exact cut_any t b i w hk n hs hT
end Go.Proofs.YtfcpieodgflmnaaDoor

namespace Go.Proofs.YtfcpieodgflmnaaDoor
open Go.RowKit

theorem Node.ends {w : World} {t : T} {b : Nat} (h : Node w t b) : w.cell? ⟨b, 1, none⟩ = some (.int .i64 (nl t.text : Nat)) := by
  obtain ⟨l, r, c⟩ := node_cell h
  exact cellOf c rfl

end Go.Proofs.YtfcpieodgflmnaaDoor

namespace Go.Proofs.YtfcpieodgflmnaaDoor

/-- How many LFs stand ahead of i. -/
def na (s : ByteArray) (i : Nat) : Nat := nl (s.extract 0 i)
theorem na_left {a b : ByteArray} {i : Nat} (h : i ≤ a.size) : na (a ++ b) i = na a i := by unfold na; rw [extract_zero_append h]
theorem na_right {a b : ByteArray} {i : Nat} (h : a.size ≤ i) (hi : i ≤ a.size + b.size) : na (a ++ b) i = nl a + na b (i - a.size) := by unfold na; rw [extract_to_append h hi, nl_append]
theorem na_all (s : ByteArray) : na s s.size = nl s := by unfold na; rw [extract_all _ (Nat.le_refl _)]
theorem na_zero (s : ByteArray) : na s 0 = 0 := by unfold na; simp [nl]

/-- The place behind the first k LFs. -/
def bhL : List UInt8 → Nat → Nat
  | _, 0 => 0
  | [], _ + 1 => 0
  | x :: l, k + 1 => 1 + bhL l (if x = 10 then k else k + 1)
def bh (s : ByteArray) (k : Nat) : Nat := bhL s.data.toList k
theorem bhL_zero (l : List UInt8) : bhL l 0 = 0 := by cases l <;> rfl
theorem bhL_le : ∀ (l : List UInt8) (k : Nat), bhL l k ≤ l.length
  | [], 0 => Nat.le_refl _
  | [], _ + 1 => Nat.le_refl _
  | x :: l, 0 => Nat.zero_le _
  | x :: l, k + 1 => by
    have := bhL_le l (if x = 10 then k else k + 1)
    simp only [bhL, List.length_cons]; omega
theorem bhL_append_left : ∀ (l m : List UInt8) (k : Nat), k ≤ l.count 10 → bhL (l ++ m) k = bhL l k
  | l, m, 0, _ => by rw [bhL_zero, bhL_zero]
  | [], m, k + 1, h => by simp at h
  | x :: l, m, k + 1, h => by
    simp only [List.cons_append, bhL]
    by_cases hx : x = 10
    · subst hx
      rw [if_pos rfl, bhL_append_left l m k (by simpa using h)]
    · rw [if_neg hx, bhL_append_left l m (k + 1) (by rw [List.count_cons_of_ne hx] at h; exact h)]
theorem bhL_append_right : ∀ (l m : List UInt8) (k : Nat), l.count 10 < k → bhL (l ++ m) k = l.length + bhL m (k - l.count 10)
  | [], m, k, h => by simp
  | x :: l, m, 0, h => by omega
  | x :: l, m, k + 1, h => by
    simp only [List.cons_append, bhL, List.length_cons]
    by_cases hx : x = 10
    · subst hx
      rw [List.count_cons_self] at h
      rw [if_pos rfl, bhL_append_right l m k (by omega), List.count_cons_self, show k + 1 - (l.count 10 + 1) = k - l.count 10 from by omega]
      omega
    · rw [List.count_cons_of_ne hx] at h
      rw [if_neg hx, bhL_append_right l m (k + 1) h, List.count_cons_of_ne hx]
      omega
theorem bh_left {a b : ByteArray} {k : Nat} (h : k ≤ nl a) : bh (a ++ b) k = bh a k := by
  unfold bh
  rw [ByteArray.data_append, Array.toList_append]
  exact bhL_append_left _ _ _ h
theorem bh_right {a b : ByteArray} {k : Nat} (h : nl a < k) : bh (a ++ b) k = a.size + bh b (k - nl a) := by
  unfold bh
  rw [ByteArray.data_append, Array.toList_append]
  exact bhL_append_right _ _ _ h
theorem bh_zero (s : ByteArray) : bh s 0 = 0 := bhL_zero _
theorem bh_le (s : ByteArray) (k : Nat) : bh s k ≤ s.size := bhL_le _ _
/-- One byte further. -/
theorem bh_drop (s : ByteArray) (i k : Nat) (hk : 0 < k) (hi : i < s.size) : bhL (s.data.toList.drop i) k = 1 + bhL (s.data.toList.drop (i + 1)) (if s[i] = 10 then k - 1 else k) := by
  rw [List.drop_eq_getElem_cons (by simpa using hi)]
  obtain ⟨k, rfl⟩ : ∃ j, k = j + 1 := ⟨k - 1, by omega⟩
  simp only [bhL]
  rfl
theorem count_drop (s : ByteArray) (i : Nat) (hi : i < s.size) : (s.data.toList.drop i).count 10 = (s.data.toList.drop (i + 1)).count 10 + (if s[i] = 10 then 1 else 0) := by
  rw [List.drop_eq_getElem_cons (by simpa using hi), List.count_cons]
  congr 1
  by_cases h : s[i] = 10
  · rw [if_pos h, if_pos]; rw [beq_iff_eq]; exact h
  · rw [if_neg h, if_neg]; intro e; exact h (by rw [beq_iff_eq] at e; exact e)
end Go.Proofs.YtfcpieodgflmnaaDoor

namespace Go.Proofs.YtfcpieodgflmnaaDoor
open Go.RowKit

set_option maxRecDepth 100000 in
set_option maxHeartbeats 400000 in
theorem endsAhead_nil (i : Int) (w : World) : Calls Tryd.prog 58 #[.pointer none, .int .i64 i] w fun e w' => e = .returned (.int .i64 0) ∧ w = w' := by
  go_enter Tryd.func58, Tryd.ntmps58
  go_wp2
  go_ret
  exact ⟨rfl, rfl⟩

set_option maxRecDepth 100000 in
set_option maxHeartbeats 1000000 in
theorem endsAhead_any (t0 : T) (b0 i0 : Nat) (w : World) (hn : Node w t0 b0) (hk : i0 ≤ t0.text.size) (hs : (t0.text.size : Int) ≤ 1048576) :
    Calls Tryd.prog 58 #[.pointer (some ⟨b0, 0, none⟩), .int .i64 (i0 : Nat)] w fun e w' => e = .returned (.int .i64 (na t0.text i0 : Nat)) ∧ w = w' := by
  obtain ⟨V, hV⟩ : ∃ V, na t0.text i0 = V := ⟨_, rfl⟩
  have hVb : V ≤ 1048576 := by
    rw [← hV]; unfold na
    have := nl_le (t0.text.extract 0 i0)
    rw [ByteArray.size_extract] at this
    omega
  have HVB := Lib.hid hVb
  rw [hV]
  clear hVb
  go_enter Tryd.func58, Tryd.ntmps58
  go_wp2
  go_loopg [0, 1, 5] t0.dp (fun g n i c wr => w = wr ∧ ∃ (t : T) (b k m : Nat), g = t.dp ∧ n = .pointer (some ⟨b, 0, none⟩) ∧ i = .int .i64 (k : Nat) ∧ c = .int .i64 (m : Nat) ∧ Hid (Node w t b) ∧ Hid (k ≤ t.text.size) ∧ Hid (t.text.size ≤ 1048576) ∧ Hid (m + na t.text k = V))
  case atStart => exact ⟨rfl, t0, b0, i0, 0, rfl, rfl, rfl, rfl, Lib.hid hn, Lib.hid hk, Lib.hid (by omega), Lib.hid (by omega)⟩
  case round =>
    obtain ⟨rfl, t, b, k, m, hg, rfl, rfl, rfl, hN, hK, hS, hB⟩ := hrel
    have hm : (m : Int) ≤ 1048576 := by have := hB.out; have := HVB.out; omega
    cases t with
    | leaf s =>
      obtain ⟨c6, c8⟩ := hN.out.leaf_cells
      have hK' : k ≤ s.size := hK.out
      have hb0 : (0 : Int) ≤ k := by omega
      have hb1 : (k : Int) ≤ s.size := by omega
      have hb2 : (s.size : Int) ≤ 1048576 := by have : s.size ≤ 1048576 := hS.out; omega
      obtain ⟨q, hq⟩ : ∃ q, na s k = q := ⟨_, rfl⟩
      have hB' : m + na s k = V := hB.out
      rw [hq] at hB'
      have hqb : (q : Int) ≤ 1048576 := by have := HVB.out; omega
      have HC := Lib.hid (Tryd.strings_Count_one (s.extract 0 k) 10 w)
      have hcb : Lib.countByte (s.extract 0 k).data.toList 10 = q := hq
      rw [hcb] at HC
      have HB := Lib.hid hB'
      have HG := Lib.hid hg
      have HQ := Lib.hid hcb
      clear hg hB' hcb hq
      go_wp2_with (first | (go_at_call 51; refine (isLeaf_yes _ _ c6).mono ?_; rintro e w' ⟨rfl, rfl⟩) | (go_at_call 67; ((with_reducible refine HC.out.mono ?_); rintro e w' ⟨rfl, hw⟩; obtain rfl : w = w' := hw.symm)))
      go_ret
      exact ⟨ret_int (by have := HB.out; omega), rfl⟩
    | node l r =>
      obtain ⟨bl, br, hc, nl', nr⟩ := hN.out.mk
      have c6 : w.cell? ⟨b, 6, none⟩ = some (.pointer (some ⟨bl, 0, none⟩)) := cellOf hc rfl
      have c7 : w.cell? ⟨b, 7, none⟩ = some (.pointer (some ⟨br, 0, none⟩)) := cellOf hc rfl
      have l0 := nl'.sz
      have l1 := nl'.ends
      have hz : l.text.size + r.text.size ≤ 1048576 := by have : (l.text ++ r.text).size ≤ 1048576 := hS.out; rw [ByteArray.size_append] at this; exact this
      have hkz : k ≤ l.text.size + r.text.size := by have : k ≤ (l.text ++ r.text).size := hK.out; rw [ByteArray.size_append] at this; exact this
      have hBt : m + na (l.text ++ r.text) k = V := hB.out
      have hnl := nl_le l.text
      have HG : Hid (gk = 1 + max l.dp r.dp) := Lib.hid hg
      have HL := Lib.hid nl'
      have HR := Lib.hid nr
      have HZ := Lib.hid hz
      clear nl' nr hc hg
      by_cases hl : k ≤ l.text.size
      · have HB2 : Hid (m + na l.text k = V) := Lib.hid (by rw [← hBt, na_left hl])
        have HK2 := Lib.hid hl
        clear hBt hkz hz hnl
        go_wp2_with (go_at_call 51; refine (isLeaf_no _ _ _ c6).mono ?_; rintro e w' ⟨rfl, rfl⟩)
        go_roundg l.dp
        case measure => rw [HG.out]; omega
        case rel => exact ⟨rfl, l, bl, k, m, rfl, rfl, rfl, rfl, HL, HK2, Lib.hid (by have := HZ.out; omega), HB2⟩
      · rw [na_right (by omega) hkz] at hBt
        have e1 : IntKind.i64.wrap ((k : Int) - (l.text.size : Nat)) = ((k - l.text.size : Nat) : Int) := (IntWalk.i64_in _ (by omega)).trans (by omega)
        have hnb : (nl l.text : Int) ≤ 1048576 := by omega
        have HB2 : Hid (m + nl l.text + na r.text (k - l.text.size) = V) := Lib.hid (by omega)
        have HK2 : Hid (k - l.text.size ≤ r.text.size) := Lib.hid (by omega)
        have hl' : l.text.size < k := by omega
        have hb2 : (k : Int) ≤ 1048576 := by omega
        clear hBt hkz hz hl hnl
        go_wp2_with (go_at_call 51; refine (isLeaf_no _ _ _ c6).mono ?_; rintro e w' ⟨rfl, rfl⟩)
        go_roundg r.dp
        case measure => rw [HG.out]; omega
        case rel => exact ⟨rfl, r, br, k - l.text.size, m + nl l.text, rfl, rfl, by go_num, by go_num, HR, HK2, Lib.hid (by have := HZ.out; omega), HB2⟩

set_option maxRecDepth 100000 in
set_option maxHeartbeats 400000 in
theorem behind_zero (v : Value) (w : World) : Calls Tryd.prog 59 #[v, .int .i64 0] w fun e w' => e = .returned (.int .i64 0) ∧ w = w' := by
  go_enter Tryd.func59, Tryd.ntmps59
  go_wp2
  go_ret
  exact ⟨rfl, rfl⟩

set_option maxRecDepth 100000 in
set_option maxHeartbeats 2000000 in
theorem behind_any (t0 : T) (b0 k0 : Nat) (w : World) (hn : Node w t0 b0) (h0 : 0 < k0) (hk : k0 ≤ nl t0.text) (hs : (t0.text.size : Int) ≤ 1048576) :
    Calls Tryd.prog 59 #[.pointer (some ⟨b0, 0, none⟩), .int .i64 (k0 : Nat)] w fun e w' => e = .returned (.int .i64 (bh t0.text k0 : Nat)) ∧ w = w' := by
  obtain ⟨V, hV⟩ : ∃ V, bh t0.text k0 = V := ⟨_, rfl⟩
  have hVb : V ≤ 1048576 := by
    rw [← hV]
    have := bh_le t0.text k0
    omega
  have HVB := Lib.hid hVb
  rw [hV]
  have z0 : ((k0 : Int) == 0) = false := by simp; omega
  clear hVb
  go_enter Tryd.func59, Tryd.ntmps59
  go_wp2
  go_loopg [0, 1, 5] t0.dp (fun g n i c wr => w = wr ∧ ∃ (t : T) (b k m : Nat), g = t.dp ∧ n = .pointer (some ⟨b, 0, none⟩) ∧ i = .int .i64 (k : Nat) ∧ c = .int .i64 (m : Nat) ∧ Hid (Node w t b) ∧ 0 < k ∧ Hid (k ≤ nl t.text) ∧ Hid (t.text.size ≤ 1048576) ∧ Hid (m + bh t.text k = V))
  case atStart => exact ⟨rfl, t0, b0, k0, 0, rfl, rfl, rfl, rfl, Lib.hid hn, h0, Lib.hid hk, Lib.hid (by omega), Lib.hid (by omega)⟩
  case round =>
    obtain ⟨rfl, t, b, k, m, hg, rfl, rfl, rfl, hN, hk0, hK, hS, hB⟩ := hrel
    have hm : (m : Int) ≤ 1048576 := by have := hB.out; have := HVB.out; omega
    cases t with
    | leaf s =>
      obtain ⟨c6, c8⟩ := hN.out.leaf_cells
      have hb2 : (s.size : Int) ≤ 1048576 := by have : s.size ≤ 1048576 := hS.out; omega
      have HG := Lib.hid hg
      have hB' : m + bhL s.data.toList k = V := hB.out
      have hK' : k ≤ s.data.toList.count 10 := hK.out
      have HB := Lib.hid hB'
      have HK := Lib.hid hK'
      clear hg hm hB' hK' z0
      go_wp2_with (go_at_call 51; refine (isLeaf_yes _ _ c6).mono ?_; rintro e w' ⟨rfl, rfl⟩)
      go_loopg [1, 5, 6] (s.size + 1) (fun g kv cv iv wr => w = wr ∧ ∃ (k m i : Nat), g = s.size + 1 - i ∧ kv = .int .i64 (k : Nat) ∧ cv = .int .i64 (m : Nat) ∧ iv = .int .i64 (i : Nat) ∧ i ≤ s.size ∧ Hid (k ≤ (s.data.toList.drop i).count 10) ∧ Hid (m + bhL (s.data.toList.drop i) k = V))
      case atStart => exact ⟨rfl, k, m, 0, rfl, rfl, rfl, rfl, by omega, Lib.hid (by rw [List.drop_zero]; exact HK.out), Lib.hid (by rw [List.drop_zero]; exact HB.out)⟩
      case round =>
        obtain ⟨rfl, k, m, i, hg, rfl, rfl, rfl, hi, hK, hB⟩ := hrel
        by_cases hpos : 0 < k
        · have hlt : i < s.size := by
            have h1 := hK.out
            have h2 := List.count_le_length (a := (10 : UInt8)) (l := s.data.toList.drop i)
            rw [List.length_drop] at h2
            simp at h2
            omega
          have hbd := bh_drop s i k hpos hlt
          have hcd := count_drop s i hlt
          have hmb : (m : Int) + 1 ≤ 1048577 := by have := hB.out; have := HVB.out; omega
          have hkb : (k : Int) ≤ 1048576 := by
            have h1 := hK.out
            have h2 := List.count_le_length (a := (10 : UInt8)) (l := s.data.toList.drop i)
            rw [List.length_drop] at h2
            simp at h2
            omega
          have hib : (i : Int) < s.size := by omega
          have HG := Lib.hid hg
          by_cases hx : s[i] = 10
          · rw [if_pos hx] at hbd hcd
            have hx1 : (((s[i].toNat : Nat) : Int) == 10) = true := by rw [hx]; rfl
            have HK2 : Hid (k - 1 ≤ (s.data.toList.drop (i + 1)).count 10) := Lib.hid (by have := hK.out; omega)
            have HB2 : Hid (m + 1 + bhL (s.data.toList.drop (i + 1)) (k - 1) = V) := Lib.hid (by have := hB.out; omega)
            have HX := Lib.hid hx
            have e1 : IntKind.i64.wrap ((k : Int) - 1) = ((k - 1 : Nat) : Int) := (IntWalk.i64_in _ (by omega)).trans (by omega)
            clear hbd hcd hx hg
            go_wp2
            go_roundg (s.size + 1 - (i + 1))
            case measure => rw [HG.out]; omega
            case rel => exact ⟨rfl, k - 1, m + 1, i + 1, rfl, by go_num, by go_num, by go_num, by omega, HK2, HB2⟩
          · rw [if_neg hx] at hbd hcd
            have hx1 : (((s[i].toNat : Nat) : Int) == 10) = false := by
              rw [beq_eq_false_iff_ne]
              intro h
              exact hx (by apply UInt8.toNat.inj; show s[i].toNat = 10; omega)
            have HK2 : Hid (k ≤ (s.data.toList.drop (i + 1)).count 10) := Lib.hid (by have := hK.out; omega)
            have HB2 : Hid (m + 1 + bhL (s.data.toList.drop (i + 1)) k = V) := Lib.hid (by have := hB.out; omega)
            have HX := Lib.hid hx
            clear hbd hcd hx hg
            go_wp2
            go_roundg (s.size + 1 - (i + 1))
            case measure => rw [HG.out]; omega
            case rel => exact ⟨rfl, k, m + 1, i + 1, rfl, rfl, by go_num, by go_num, by omega, HK2, HB2⟩
        · have hk0' : (k : Int) ≤ 0 := by omega
          have HF : Hid (m = V) := Lib.hid (by
            have h1 := hB.out
            rw [show k = 0 from by omega, bhL_zero] at h1
            exact h1)
          clear hpos hg
          go_wp2
          go_ret
          exact ⟨ret_int (by rw [HF.out]), rfl⟩
    | node l r =>
      obtain ⟨bl, br, hc, nl', nr⟩ := hN.out.mk
      have c6 : w.cell? ⟨b, 6, none⟩ = some (.pointer (some ⟨bl, 0, none⟩)) := cellOf hc rfl
      have c7 : w.cell? ⟨b, 7, none⟩ = some (.pointer (some ⟨br, 0, none⟩)) := cellOf hc rfl
      have l0 := nl'.sz
      have l1 := nl'.ends
      have hz : l.text.size + r.text.size ≤ 1048576 := by have : (l.text ++ r.text).size ≤ 1048576 := hS.out; rw [ByteArray.size_append] at this; exact this
      have hkz : k ≤ nl l.text + nl r.text := by have : k ≤ nl (l.text ++ r.text) := hK.out; rw [nl_append] at this; exact this
      have hBt : m + bh (l.text ++ r.text) k = V := hB.out
      have hnl := nl_le l.text
      have hnr := nl_le r.text
      have HG : Hid (gk = 1 + max l.dp r.dp) := Lib.hid hg
      have HL := Lib.hid nl'
      have HR := Lib.hid nr
      have HZ := Lib.hid hz
      clear nl' nr hc hg
      by_cases hl : k ≤ nl l.text
      · have HB2 : Hid (m + bh l.text k = V) := Lib.hid (by rw [← hBt, bh_left hl])
        have HK2 := Lib.hid hl
        clear hBt hkz hz hnl hnr
        go_wp2_with (go_at_call 51; refine (isLeaf_no _ _ _ c6).mono ?_; rintro e w' ⟨rfl, rfl⟩)
        go_roundg l.dp
        case measure => rw [HG.out]; omega
        case rel => exact ⟨rfl, l, bl, k, m, rfl, rfl, rfl, rfl, HL, hk0, HK2, Lib.hid (by have := HZ.out; omega), HB2⟩
      · rw [bh_right (by omega)] at hBt
        have e1 : IntKind.i64.wrap ((k : Int) - (nl l.text : Nat)) = ((k - nl l.text : Nat) : Int) := (IntWalk.i64_in _ (by omega)).trans (by omega)
        have hnb : (nl l.text : Int) ≤ 1048576 := by omega
        have HB2 : Hid (m + l.text.size + bh r.text (k - nl l.text) = V) := Lib.hid (by omega)
        have HK2 : Hid (k - nl l.text ≤ nl r.text) := Lib.hid (by omega)
        have hl' : nl l.text < k := by omega
        have hb2 : (k : Int) ≤ 1048576 := by omega
        have hb3 : (l.text.size : Int) ≤ 1048576 := by omega
        have hp : 0 < k - nl l.text := by omega
        clear hBt hkz hz hl hnl hnr
        go_wp2_with (go_at_call 51; refine (isLeaf_no _ _ _ c6).mono ?_; rintro e w' ⟨rfl, rfl⟩)
        go_roundg r.dp
        case measure => rw [HG.out]; omega
        case rel => exact ⟨rfl, r, br, k - nl l.text, m + l.text.size, rfl, rfl, by go_num, by go_num, HR, hp, HK2, Lib.hid (by have := HZ.out; omega), HB2⟩
end Go.Proofs.YtfcpieodgflmnaaDoor
