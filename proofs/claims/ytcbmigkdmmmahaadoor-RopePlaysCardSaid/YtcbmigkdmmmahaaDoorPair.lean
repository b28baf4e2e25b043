/- Two trees paired: the program's pair. -/
import Derived.Test.YtcbmigkdmmmahaaDoorLeaf
import Derived.Test.YtcbmigkdmmmahaaDoorAvl
namespace Go.Proofs.YtcbmigkdmmmahaaDoor
open Go.RowKit

/-- with, at what is counted of two texts that have their rims. -/
theorem with_any (a b : ByteArray) (w : World) (ha : 3 ≤ a.size) (hb : 3 ≤ b.size) (hs : (a.size : Int) + b.size ≤ 1048576) (hT : Tabs w) :
    Calls Tryd.prog 56 #[cv a, cv b] w fun e w' => e = .returned (cv (a ++ b)) ∧ Up w w' := by
  have n1 := nl_le a
  have n2 := nl_le b
  have c1 := countS_le a
  have c2 := countS_le b
  have hk : countS (a ++ b) + (countS (tl a) + countS (hd b)) = countS a + countS b + countS (tl a ++ hd b) := seam ha hb
  have t1 := tl_size a
  have t2 := hd_size b
  have h := with_walk a.size (nl a) (countS a) b.size (nl b) (countS b) (countS (a ++ b)) (hd a) (tl a) (hd b) (tl b) w (by omega) (by omega) (by omega) (by omega) (by omega) (by omega) (by omega) (by omega) hk hT
  refine h.mono ?_
  rintro e w' ⟨rfl, hu⟩
  refine ⟨?_, hu⟩
  unfold cv
  rw [nl_append, hd_append ha, tl_append hb, ByteArray.size_append]

theorem pairS_keep {b1 b2 : Nat} {W w1 : World} {an ae ast ad bn be bst bd : Nat} {ah al bh bl : ByteArray} (hu : Up W w1) (h : (W.cell? ⟨b1, 0, none⟩ = some (.int .i64 (an : Nat)) ∧ W.cell? ⟨b1, 1, none⟩ = some (.int .i64 (ae : Nat)) ∧ W.cell? ⟨b1, 2, none⟩ = some (.int .i64 (ast : Nat)) ∧ W.cell? ⟨b1, 3, none⟩ = some (.string ah) ∧ W.cell? ⟨b1, 4, none⟩ = some (.string al) ∧ W.cell? ⟨b1, 5, none⟩ = some (.int .i64 (ad : Nat))) ∧ (W.cell? ⟨b2, 0, none⟩ = some (.int .i64 (bn : Nat)) ∧ W.cell? ⟨b2, 1, none⟩ = some (.int .i64 (be : Nat)) ∧ W.cell? ⟨b2, 2, none⟩ = some (.int .i64 (bst : Nat)) ∧ W.cell? ⟨b2, 3, none⟩ = some (.string bh) ∧ W.cell? ⟨b2, 4, none⟩ = some (.string bl) ∧ W.cell? ⟨b2, 5, none⟩ = some (.int .i64 (bd : Nat))) ∧ Tabs W) : (w1.cell? ⟨b1, 0, none⟩ = some (.int .i64 (an : Nat)) ∧ w1.cell? ⟨b1, 1, none⟩ = some (.int .i64 (ae : Nat)) ∧ w1.cell? ⟨b1, 2, none⟩ = some (.int .i64 (ast : Nat)) ∧ w1.cell? ⟨b1, 3, none⟩ = some (.string ah) ∧ w1.cell? ⟨b1, 4, none⟩ = some (.string al) ∧ w1.cell? ⟨b1, 5, none⟩ = some (.int .i64 (ad : Nat))) ∧ (w1.cell? ⟨b2, 0, none⟩ = some (.int .i64 (bn : Nat)) ∧ w1.cell? ⟨b2, 1, none⟩ = some (.int .i64 (be : Nat)) ∧ w1.cell? ⟨b2, 2, none⟩ = some (.int .i64 (bst : Nat)) ∧ w1.cell? ⟨b2, 3, none⟩ = some (.string bh) ∧ w1.cell? ⟨b2, 4, none⟩ = some (.string bl) ∧ w1.cell? ⟨b2, 5, none⟩ = some (.int .i64 (bd : Nat))) ∧ Tabs w1 := by
  obtain ⟨⟨h1, h2, h3, h4, h5, h6⟩, ⟨h7, h8, h9, h10, h11, h12⟩, hT⟩ := h
  exact ⟨⟨cell_up hu h1, cell_up hu h2, cell_up hu h3, cell_up hu h4, cell_up hu h5, cell_up hu h6⟩, ⟨cell_up hu h7, cell_up hu h8, cell_up hu h9, cell_up hu h10, cell_up hu h11, cell_up hu h12⟩, hT.up hu⟩

set_option maxRecDepth 100000 in
set_option maxHeartbeats 2000000 in
theorem pair_walk (b1 b2 an ae ast ad bn be bst bd cn ce cst : Nat) (ah al bh bl ch cl : ByteArray) (w : World) (h1 : (ad : Int) ≤ 1048576) (h2 : (bd : Int) ≤ 1048576)
    (hS : (w.cell? ⟨b1, 0, none⟩ = some (.int .i64 (an : Nat)) ∧ w.cell? ⟨b1, 1, none⟩ = some (.int .i64 (ae : Nat)) ∧ w.cell? ⟨b1, 2, none⟩ = some (.int .i64 (ast : Nat)) ∧ w.cell? ⟨b1, 3, none⟩ = some (.string ah) ∧ w.cell? ⟨b1, 4, none⟩ = some (.string al) ∧ w.cell? ⟨b1, 5, none⟩ = some (.int .i64 (ad : Nat))) ∧ (w.cell? ⟨b2, 0, none⟩ = some (.int .i64 (bn : Nat)) ∧ w.cell? ⟨b2, 1, none⟩ = some (.int .i64 (be : Nat)) ∧ w.cell? ⟨b2, 2, none⟩ = some (.int .i64 (bst : Nat)) ∧ w.cell? ⟨b2, 3, none⟩ = some (.string bh) ∧ w.cell? ⟨b2, 4, none⟩ = some (.string bl) ∧ w.cell? ⟨b2, 5, none⟩ = some (.int .i64 (bd : Nat))) ∧ Tabs w)
    (hc : ∀ w, Tabs w → Calls Tryd.prog 56 #[.agg #[.int .i64 (an : Nat), .int .i64 (ae : Nat), .int .i64 (ast : Nat), .string ah, .string al], .agg #[.int .i64 (bn : Nat), .int .i64 (be : Nat), .int .i64 (bst : Nat), .string bh, .string bl]] w fun e w' => e = .returned (.agg #[.int .i64 (cn : Nat), .int .i64 (ce : Nat), .int .i64 (cst : Nat), .string ch, .string cl]) ∧ Up w w') :
    Calls Tryd.prog 46 #[.pointer (some ⟨b1, 0, none⟩), .pointer (some ⟨b2, 0, none⟩)] w fun e w' => ∃ w1, e = .returned (.pointer (some ⟨w1.heap.size, 0, none⟩)) ∧ Up w w1 ∧
      w' = w1.alloc (.cells #[.int .i64 (cn : Nat), .int .i64 (ce : Nat), .int .i64 (cst : Nat), .string ch, .string cl, .int .i64 (1 + max ad bd : Nat), .pointer (some ⟨b1, 0, none⟩), .pointer (some ⟨b2, 0, none⟩), .string ⟨#[]⟩] 76) := by
  have HC := Lib.hid hc
  have e0 : max (ad : Int) (bd : Int) = ((max ad bd : Nat) : Int) := by omega
  have e1 : IntKind.i64.wrap (1 + ((max ad bd : Nat) : Int)) = ((1 + max ad bd : Nat) : Int) := (IntWalk.i64_in _ (by omega)).trans (by omega)
  clear hc h1 h2
  go_enter Tryd.func46, Tryd.ntmps46
  go_wp2_with fail
  go_region_held3 (fun w' => (w'.cell? ⟨b1, 0, none⟩ = some (.int .i64 (an : Nat)) ∧ w'.cell? ⟨b1, 1, none⟩ = some (.int .i64 (ae : Nat)) ∧ w'.cell? ⟨b1, 2, none⟩ = some (.int .i64 (ast : Nat)) ∧ w'.cell? ⟨b1, 3, none⟩ = some (.string ah) ∧ w'.cell? ⟨b1, 4, none⟩ = some (.string al) ∧ w'.cell? ⟨b1, 5, none⟩ = some (.int .i64 (ad : Nat))) ∧ (w'.cell? ⟨b2, 0, none⟩ = some (.int .i64 (bn : Nat)) ∧ w'.cell? ⟨b2, 1, none⟩ = some (.int .i64 (be : Nat)) ∧ w'.cell? ⟨b2, 2, none⟩ = some (.int .i64 (bst : Nat)) ∧ w'.cell? ⟨b2, 3, none⟩ = some (.string bh) ∧ w'.cell? ⟨b2, 4, none⟩ = some (.string bl) ∧ w'.cell? ⟨b2, 5, none⟩ = some (.int .i64 (bd : Nat))) ∧ Tabs w')
    (first | assumption | with_reducible exact pairS_keep hu1 (by assumption) | with_reducible exact pairS_keep (Up.drew _) (by assumption) | with_reducible exact pairS_keep (Up.alloc _ _) (by assumption))
    (first | (go_at_call 56; ((with_reducible refine (HC.out _ ?_).mono ?_); (exact (by assumption : _ ∧ _ ∧ Tabs _).2.2); rintro e w1 ⟨rfl, hu1⟩)))
  all_goals
    have HU := Lib.hid ((Up.drew _).trans hu1)
    clear hS hu1
    go_wp2
    go_ret
    exact ⟨w1, rfl, HU.out, rfl⟩

/-- Two trees that have their rims, paired. -/
theorem pair_any (ta tb : T) (b1 b2 : Nat) (w : World) (n1 : Node w ta b1) (n2 : Node w tb b2) (s1 : 3 ≤ ta.text.size) (s2 : 3 ≤ tb.text.size) (hs : (ta.text.size : Int) + tb.text.size ≤ 1048576) (d1 : (ta.dp : Int) ≤ 1048576) (d2 : (tb.dp : Int) ≤ 1048576) (hT : Tabs w) :
    Calls Tryd.prog 46 #[.pointer (some ⟨b1, 0, none⟩), .pointer (some ⟨b2, 0, none⟩)] w (NewT (.node ta tb) w) := by
  obtain ⟨l1, r1, c1⟩ := node_cell n1
  obtain ⟨l2, r2, c2⟩ := node_cell n2
  refine (pair_walk b1 b2 ta.text.size (nl ta.text) (countS ta.text) ta.dp tb.text.size (nl tb.text) (countS tb.text) tb.dp (ta.text ++ tb.text).size (nl (ta.text ++ tb.text)) (countS (ta.text ++ tb.text)) (hd ta.text) (tl ta.text) (hd tb.text) (tl tb.text) (hd (ta.text ++ tb.text)) (tl (ta.text ++ tb.text)) w d1 d2 ?_ (fun w ht => with_any ta.text tb.text w s1 s2 hs ht)).mono ?_
  · exact ⟨⟨cellOf c1 rfl, cellOf c1 rfl, cellOf c1 rfl, cellOf c1 rfl, cellOf c1 rfl, cellOf c1 rfl⟩, ⟨cellOf c2 rfl, cellOf c2 rfl, cellOf c2 rfl, cellOf c2 rfl, cellOf c2 rfl, cellOf c2 rfl⟩, hT⟩
  · rintro e w' ⟨w1, rfl, hu, rfl⟩
    have hu2 := Up.alloc w1 (.cells (ncells (ta.text ++ tb.text) (1 + max ta.dp tb.dp) (.pointer (some ⟨b1, 0, none⟩)) (.pointer (some ⟨b2, 0, none⟩)) ⟨#[]⟩) 76)
    exact ⟨w1.heap.size, rfl, ⟨by simp, b1, b2, Go.heap_alloc_new _ _, n1.up (hu.trans hu2), n2.up (hu.trans hu2)⟩, hu.trans hu2⟩

end Go.Proofs.YtcbmigkdmmmahaaDoor
