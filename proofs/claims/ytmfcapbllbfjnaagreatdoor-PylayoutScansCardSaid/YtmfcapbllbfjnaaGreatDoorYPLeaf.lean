/- The program's leaf: a leaf is told, and the reader goes on behind it. -/
import Derived.Test.YtmfcapbllbfjnaaGreatDoorYPRd
namespace Go.Proofs.YtmfcapbllbfjnaaGreatDoor
open Go.RowKit

set_option maxRecDepth 100000 in
set_option maxHeartbeats 4000000 in
theorem leaf_comment (w0 W : World) (O : Nat → Obj → Prop) (b : Nat) (line : ByteArray) (p q : Nat) (v : Value) (es : List PEv) (st : PSt)  (hr : RdAt w0 W O b line p v es st) (hl : es.length ≤ 1000000) :
    Calls Tryz.prog 67 #[.pointer (some ⟨b, 0, none⟩), .int .u8 18, .int .i64 (q : Nat)] W (Done w0 O b line q (es ++ [⟨18, p, q⟩]) (lfS st 18 (((bl line).drop p).take (q - p)))) := by
  obtain ⟨A, c, hv⟩ := own_slice hr.row
  obtain ⟨n, hn⟩ : ∃ n, es.length = n := ⟨_, rfl⟩
  rw [hn] at hv
  subst hv
  obtain ⟨i0, hi0, hz0, hz1, hz2⟩ := info_parts infoEvent
  have hu := Up.alloc W (.cells #[Value.int .u8 3, .int .u8 18, .int .i64 (p : Nat), .int .i64 (q : Nat)] ET)
  have s1 : W.cell? ⟨b, 2, none⟩ = some (.slice A n c) := hr.cell rfl
  have r1 : W.cell? ⟨b, 1, none⟩ = some (.int .i64 (p : Nat)) := hr.cell rfl
  have s2 : W.frozen? ⟨b, 2, none⟩ = false := hr.fr 2
  have s3 : (W.drew.alloc (.cells #[Value.int .u8 3, .int .u8 18, .int .i64 (p : Nat), .int .i64 (q : Nat)] ET)).cell? ⟨b, 2, none⟩ = some (.slice A n c) := cell_up (Up.alloc W.drew _) s1
  have s4 : (W.alloc (.cells #[Value.int .u8 3, .int .u8 18, .int .i64 (p : Nat), .int .i64 (q : Nat)] ET)).cell? ⟨b, 2, none⟩ = some (.slice A n c) := cell_up hu s1
  have r3 : (W.drew.alloc (.cells #[Value.int .u8 3, .int .u8 18, .int .i64 (p : Nat), .int .i64 (q : Nat)] ET)).cell? ⟨b, 1, none⟩ = some (.int .i64 (p : Nat)) := cell_up (Up.alloc W.drew _) r1
  have r4 : (W.alloc (.cells #[Value.int .u8 3, .int .u8 18, .int .i64 (p : Nat), .int .i64 (q : Nat)] ET)).cell? ⟨b, 1, none⟩ = some (.int .i64 (p : Nat)) := cell_up hu r1
  have HOWN : W.ownsRow w0.heap.size ET 4 (.slice A n c) n (evCells es) := by have h := hr.row; unfold RowE at h; rwa [hn] at h
  have hb0 : w0.heap.size ≤ (W.alloc (.cells #[Value.int .u8 3, .int .u8 18, .int .i64 (p : Nat), .int .i64 (q : Nat)] ET)).heap.size := Nat.le_trans (Below.size hr.up) (Below.size hu)
  have HB5 := Lib.hid (fun (w5 : World) (hg : (W.alloc (.cells #[Value.int .u8 3, .int .u8 18, .int .i64 (p : Nat), .int .i64 (q : Nat)] ET)).drew.grownBy w5 (Value.slice A n c).ownBlock) => hr.mid (hu.trans (Up.drew _)) hg)
  have HAP := Lib.hid (fun (w5 : World) (v5 : Value) (hg : (W.alloc (.cells #[Value.int .u8 3, .int .u8 18, .int .i64 (p : Nat), .int .i64 (q : Nat)] ET)).drew.grownBy w5 (Value.slice A n c).ownBlock) (ho : w5.ownsRow w0.heap.size ET 4 v5 (es.length + 1) (evCells es ++ [.int .u8 3, .int .u8 ((18 : Nat) : Int), .int .i64 (p : Nat), .int .i64 (q : Nat)])) => hr.app (hu.trans (Up.drew _)) hg ho)
  have b1 : n + 1 ≤ maxLen := by unfold maxLen; omega
  have b2 : (n + 1) * 24 ≤ 140737488355328 := by omega
  have HN := Lib.hid hn
  have hnews : ∀ u ∈ [Value.int .u8 3, .int .u8 18, .int .i64 (p : Nat), .int .i64 (q : Nat)], u.oneCell' = true := by intro u hu; simp at hu; rcases hu with rfl | rfl | rfl | rfl <;> rfl
  clear hr hu hl hn
  go_enter Tryz.func67, Tryz.ntmps67
  go_upto_region 0 with fail
  go_cut [0, 1, 2] (fun u0 u1 u2 wx => u0 = .pointer (some ⟨b, 0, none⟩) ∧ u1 = .int .u8 18 ∧ u2 = .int .i64 (q : Nat) ∧ ∃ v', Hid (RdAt w0 wx O b line p v' (es ++ [⟨18, p, q⟩]) st))
  case first =>
    go_region_law (first
    | (refine step_append_lies _ (by rfl) _ _ _ (by rfl) w0.heap.size ET i0 (.agg #[.int .u8 0, .int .u8 0, .int .i64 0, .int .i64 0]) 4 24 Tryz.underlying30 hi0 hz0 hz1 hz2 rfl (by decide) _ n (evCells es) (by rfl) (HOWN.alloc _) ⟨W.heap.size, 0, none⟩ 1 1 [Value.int .u8 3, .int .u8 18, .int .i64 (p : Nat), .int .i64 (q : Nat)] (by rfl) rfl (World.news_of_block (cs := #[Value.int .u8 3, .int .u8 18, .int .i64 (p : Nat), .int .i64 (q : Nat)]) (t := ET) (fr := (0, 0)) (heap_alloc_new W _)) hnews (by omega) b1 b2 hb0 (W.heap.size + 1) (by simp) ?_; intro g5 cap5 w5 hown5 hgrow hat5 hlt5; have hB5 := HB5.out _ hgrow; have c5 : w5.cell? ⟨b, 2, none⟩ = some (.slice A n c) := cellOf hB5 rfl; have z5 : w5.frozen? ⟨b, 2, none⟩ = false := frozenOf hB5))
    all_goals
      have HR := Lib.hid (HAP.out _ _ hgrow (by rw [HN.out]; exact hown5))
      go_wp2
      go_meet
      case rel => exact ⟨rfl, rfl, rfl, _, HR⟩
  case rest =>
    obtain ⟨rfl, rfl, rfl, v', HR⟩ := hcut
    clear HAP HB5 HOWN hi0 hz0 hz1 hz2 s1 s2 s3 s4 r1 r3 r4 hb0 b1 b2 hnews
    have y1 := HR.out.cell (k := 1) (show _ = some (.int .i64 (p : Nat)) from rfl)
    have z1 := HR.out.fr 1
    have HF := Lib.hid (HR.out.set (k := 1) (u := .int .i64 (q : Nat)) (p' := q) (st' := lfS st 18 (((bl line).drop p).take (q - p))) (by simp [rdA, lfS]))
    clear HR
    go_wp2
    go_end0
    exact ⟨rfl, _, HF.out⟩
set_option maxRecDepth 100000 in
set_option maxHeartbeats 4000000 in
theorem leaf_join (w0 W : World) (O : Nat → Obj → Prop) (b : Nat) (line : ByteArray) (p q : Nat) (v : Value) (es : List PEv) (st : PSt)  (hr : RdAt w0 W O b line p v es st) (hl : es.length ≤ 1000000) :
    Calls Tryz.prog 67 #[.pointer (some ⟨b, 0, none⟩), .int .u8 19, .int .i64 (q : Nat)] W (Done w0 O b line q (es ++ [⟨19, p, q⟩]) (lfS st 19 (((bl line).drop p).take (q - p)))) := by
  obtain ⟨A, c, hv⟩ := own_slice hr.row
  obtain ⟨n, hn⟩ : ∃ n, es.length = n := ⟨_, rfl⟩
  rw [hn] at hv
  subst hv
  obtain ⟨i0, hi0, hz0, hz1, hz2⟩ := info_parts infoEvent
  have hu := Up.alloc W (.cells #[Value.int .u8 3, .int .u8 19, .int .i64 (p : Nat), .int .i64 (q : Nat)] ET)
  have s1 : W.cell? ⟨b, 2, none⟩ = some (.slice A n c) := hr.cell rfl
  have r1 : W.cell? ⟨b, 1, none⟩ = some (.int .i64 (p : Nat)) := hr.cell rfl
  have s2 : W.frozen? ⟨b, 2, none⟩ = false := hr.fr 2
  have s3 : (W.drew.alloc (.cells #[Value.int .u8 3, .int .u8 19, .int .i64 (p : Nat), .int .i64 (q : Nat)] ET)).cell? ⟨b, 2, none⟩ = some (.slice A n c) := cell_up (Up.alloc W.drew _) s1
  have s4 : (W.alloc (.cells #[Value.int .u8 3, .int .u8 19, .int .i64 (p : Nat), .int .i64 (q : Nat)] ET)).cell? ⟨b, 2, none⟩ = some (.slice A n c) := cell_up hu s1
  have r3 : (W.drew.alloc (.cells #[Value.int .u8 3, .int .u8 19, .int .i64 (p : Nat), .int .i64 (q : Nat)] ET)).cell? ⟨b, 1, none⟩ = some (.int .i64 (p : Nat)) := cell_up (Up.alloc W.drew _) r1
  have r4 : (W.alloc (.cells #[Value.int .u8 3, .int .u8 19, .int .i64 (p : Nat), .int .i64 (q : Nat)] ET)).cell? ⟨b, 1, none⟩ = some (.int .i64 (p : Nat)) := cell_up hu r1
  have HOWN : W.ownsRow w0.heap.size ET 4 (.slice A n c) n (evCells es) := by have h := hr.row; unfold RowE at h; rwa [hn] at h
  have hb0 : w0.heap.size ≤ (W.alloc (.cells #[Value.int .u8 3, .int .u8 19, .int .i64 (p : Nat), .int .i64 (q : Nat)] ET)).heap.size := Nat.le_trans (Below.size hr.up) (Below.size hu)
  have HB5 := Lib.hid (fun (w5 : World) (hg : (W.alloc (.cells #[Value.int .u8 3, .int .u8 19, .int .i64 (p : Nat), .int .i64 (q : Nat)] ET)).drew.grownBy w5 (Value.slice A n c).ownBlock) => hr.mid (hu.trans (Up.drew _)) hg)
  have HAP := Lib.hid (fun (w5 : World) (v5 : Value) (hg : (W.alloc (.cells #[Value.int .u8 3, .int .u8 19, .int .i64 (p : Nat), .int .i64 (q : Nat)] ET)).drew.grownBy w5 (Value.slice A n c).ownBlock) (ho : w5.ownsRow w0.heap.size ET 4 v5 (es.length + 1) (evCells es ++ [.int .u8 3, .int .u8 ((19 : Nat) : Int), .int .i64 (p : Nat), .int .i64 (q : Nat)])) => hr.app (hu.trans (Up.drew _)) hg ho)
  have b1 : n + 1 ≤ maxLen := by unfold maxLen; omega
  have b2 : (n + 1) * 24 ≤ 140737488355328 := by omega
  have HN := Lib.hid hn
  have hnews : ∀ u ∈ [Value.int .u8 3, .int .u8 19, .int .i64 (p : Nat), .int .i64 (q : Nat)], u.oneCell' = true := by intro u hu; simp at hu; rcases hu with rfl | rfl | rfl | rfl <;> rfl
  clear hr hu hl hn
  go_enter Tryz.func67, Tryz.ntmps67
  go_upto_region 0 with fail
  go_cut [0, 1, 2] (fun u0 u1 u2 wx => u0 = .pointer (some ⟨b, 0, none⟩) ∧ u1 = .int .u8 19 ∧ u2 = .int .i64 (q : Nat) ∧ ∃ v', Hid (RdAt w0 wx O b line p v' (es ++ [⟨19, p, q⟩]) st))
  case first =>
    go_region_law (first
    | (refine step_append_lies _ (by rfl) _ _ _ (by rfl) w0.heap.size ET i0 (.agg #[.int .u8 0, .int .u8 0, .int .i64 0, .int .i64 0]) 4 24 Tryz.underlying30 hi0 hz0 hz1 hz2 rfl (by decide) _ n (evCells es) (by rfl) (HOWN.alloc _) ⟨W.heap.size, 0, none⟩ 1 1 [Value.int .u8 3, .int .u8 19, .int .i64 (p : Nat), .int .i64 (q : Nat)] (by rfl) rfl (World.news_of_block (cs := #[Value.int .u8 3, .int .u8 19, .int .i64 (p : Nat), .int .i64 (q : Nat)]) (t := ET) (fr := (0, 0)) (heap_alloc_new W _)) hnews (by omega) b1 b2 hb0 (W.heap.size + 1) (by simp) ?_; intro g5 cap5 w5 hown5 hgrow hat5 hlt5; have hB5 := HB5.out _ hgrow; have c5 : w5.cell? ⟨b, 2, none⟩ = some (.slice A n c) := cellOf hB5 rfl; have z5 : w5.frozen? ⟨b, 2, none⟩ = false := frozenOf hB5))
    all_goals
      have HR := Lib.hid (HAP.out _ _ hgrow (by rw [HN.out]; exact hown5))
      go_wp2
      go_meet
      case rel => exact ⟨rfl, rfl, rfl, _, HR⟩
  case rest =>
    obtain ⟨rfl, rfl, rfl, v', HR⟩ := hcut
    clear HAP HB5 HOWN hi0 hz0 hz1 hz2 s1 s2 s3 s4 r1 r3 r4 hb0 b1 b2 hnews
    have hr1 := HR.out.set (k := 5) (u := .bool true) (p' := p) (st' := ⟨st.mark, st.depth, true, st.s, st.c⟩) rfl
    have c5 := HR.out.cell (k := 5) (show _ = some (.bool st.j) from rfl)
    have f5 := HR.out.fr 5
    have y1 := hr1.cell (k := 1) (show _ = some (.int .i64 (p : Nat)) from rfl)
    have z1 := hr1.fr 1
    have HF := Lib.hid (hr1.set (k := 1) (u := .int .i64 (q : Nat)) (p' := q) (st' := lfS st 19 (((bl line).drop p).take (q - p))) (by simp [rdA, lfS]))
    clear HR hr1
    go_wp2
    go_end0
    exact ⟨rfl, _, HF.out⟩
theorem lf_plain (st : PSt) (k : Nat) (q : List Nat) (h17 : k ≠ 17) (h18 : k ≠ 18) (h19 : k ≠ 19) : lfS st k q = ⟨st.mark, st.depth, st.j, true, false⟩ := by
  unfold lfS
  rw [beq_eq_false_iff_ne.2 h19, beq_eq_false_iff_ne.2 h17, bne_iff_ne.2 h18, bne_iff_ne.2 h19, Bool.or_false, Bool.true_and, Bool.or_true, if_neg (by omega)]
  rfl
theorem lf_op (st : PSt) (q : List Nat) : lfS st 17 q = ⟨st.mark, st.depth, st.j, true, q == [58] && st.depth == 0⟩ := by
  unfold lfS
  simp
set_option maxRecDepth 100000 in
set_option maxHeartbeats 4000000 in
theorem leaf_plain (w0 W : World) (O : Nat → Obj → Prop) (b : Nat) (line : ByteArray) (p q : Nat) (v : Value) (es : List PEv) (st : PSt) (k : Nat) (h17 : k ≠ 17) (h18 : k ≠ 18) (h19 : k ≠ 19) (hr : RdAt w0 W O b line p v es st) (hl : es.length ≤ 1000000) :
    Calls Tryz.prog 67 #[.pointer (some ⟨b, 0, none⟩), .int .u8 (k : Nat), .int .i64 (q : Nat)] W (Done w0 O b line q (es ++ [⟨k, p, q⟩]) (lfS st k (((bl line).drop p).take (q - p)))) := by
  obtain ⟨A, c, hv⟩ := own_slice hr.row
  obtain ⟨n, hn⟩ : ∃ n, es.length = n := ⟨_, rfl⟩
  rw [hn] at hv
  subst hv
  obtain ⟨i0, hi0, hz0, hz1, hz2⟩ := info_parts infoEvent
  have hu := Up.alloc W (.cells #[Value.int .u8 3, .int .u8 (k : Nat), .int .i64 (p : Nat), .int .i64 (q : Nat)] ET)
  have s1 : W.cell? ⟨b, 2, none⟩ = some (.slice A n c) := hr.cell rfl
  have r1 : W.cell? ⟨b, 1, none⟩ = some (.int .i64 (p : Nat)) := hr.cell rfl
  have s2 : W.frozen? ⟨b, 2, none⟩ = false := hr.fr 2
  have s3 : (W.drew.alloc (.cells #[Value.int .u8 3, .int .u8 (k : Nat), .int .i64 (p : Nat), .int .i64 (q : Nat)] ET)).cell? ⟨b, 2, none⟩ = some (.slice A n c) := cell_up (Up.alloc W.drew _) s1
  have s4 : (W.alloc (.cells #[Value.int .u8 3, .int .u8 (k : Nat), .int .i64 (p : Nat), .int .i64 (q : Nat)] ET)).cell? ⟨b, 2, none⟩ = some (.slice A n c) := cell_up hu s1
  have r3 : (W.drew.alloc (.cells #[Value.int .u8 3, .int .u8 (k : Nat), .int .i64 (p : Nat), .int .i64 (q : Nat)] ET)).cell? ⟨b, 1, none⟩ = some (.int .i64 (p : Nat)) := cell_up (Up.alloc W.drew _) r1
  have r4 : (W.alloc (.cells #[Value.int .u8 3, .int .u8 (k : Nat), .int .i64 (p : Nat), .int .i64 (q : Nat)] ET)).cell? ⟨b, 1, none⟩ = some (.int .i64 (p : Nat)) := cell_up hu r1
  have HOWN : W.ownsRow w0.heap.size ET 4 (.slice A n c) n (evCells es) := by have h := hr.row; unfold RowE at h; rwa [hn] at h
  have hb0 : w0.heap.size ≤ (W.alloc (.cells #[Value.int .u8 3, .int .u8 (k : Nat), .int .i64 (p : Nat), .int .i64 (q : Nat)] ET)).heap.size := Nat.le_trans (Below.size hr.up) (Below.size hu)
  have HB5 := Lib.hid (fun (w5 : World) (hg : (W.alloc (.cells #[Value.int .u8 3, .int .u8 (k : Nat), .int .i64 (p : Nat), .int .i64 (q : Nat)] ET)).drew.grownBy w5 (Value.slice A n c).ownBlock) => hr.mid (hu.trans (Up.drew _)) hg)
  have HAP := Lib.hid (fun (w5 : World) (v5 : Value) (hg : (W.alloc (.cells #[Value.int .u8 3, .int .u8 (k : Nat), .int .i64 (p : Nat), .int .i64 (q : Nat)] ET)).drew.grownBy w5 (Value.slice A n c).ownBlock) (ho : w5.ownsRow w0.heap.size ET 4 v5 (es.length + 1) (evCells es ++ [.int .u8 3, .int .u8 ((k : Nat) : Int), .int .i64 (p : Nat), .int .i64 (q : Nat)])) => hr.app (hu.trans (Up.drew _)) hg ho)
  have b1 : n + 1 ≤ maxLen := by unfold maxLen; omega
  have b2 : (n + 1) * 24 ≤ 140737488355328 := by omega
  have HN := Lib.hid hn
  have hnews : ∀ u ∈ [Value.int .u8 3, .int .u8 (k : Nat), .int .i64 (p : Nat), .int .i64 (q : Nat)], u.oneCell' = true := by intro u hu; simp at hu; rcases hu with rfl | rfl | rfl | rfl <;> rfl
  have t17 : ((k : Int) == 17) = false := beq_eq_false_iff_ne.2 (by omega)
  have t18 : ((k : Int) == 18) = false := beq_eq_false_iff_ne.2 (by omega)
  have t19 : ((k : Int) == 19) = false := beq_eq_false_iff_ne.2 (by omega)
  have HLS := Lib.hid (lf_plain st k (((bl line).drop p).take (q - p)) h17 h18 h19)
  clear hr hu hl hn
  go_enter Tryz.func67, Tryz.ntmps67
  go_upto_region 0 with fail
  go_cut [0, 1, 2] (fun u0 u1 u2 wx => u0 = .pointer (some ⟨b, 0, none⟩) ∧ u1 = .int .u8 (k : Nat) ∧ u2 = .int .i64 (q : Nat) ∧ ∃ v', Hid (RdAt w0 wx O b line p v' (es ++ [⟨k, p, q⟩]) st))
  case first =>
    go_region_law (first
    | (refine step_append_lies _ (by rfl) _ _ _ (by rfl) w0.heap.size ET i0 (.agg #[.int .u8 0, .int .u8 0, .int .i64 0, .int .i64 0]) 4 24 Tryz.underlying30 hi0 hz0 hz1 hz2 rfl (by decide) _ n (evCells es) (by rfl) (HOWN.alloc _) ⟨W.heap.size, 0, none⟩ 1 1 [Value.int .u8 3, .int .u8 (k : Nat), .int .i64 (p : Nat), .int .i64 (q : Nat)] (by rfl) rfl (World.news_of_block (cs := #[Value.int .u8 3, .int .u8 (k : Nat), .int .i64 (p : Nat), .int .i64 (q : Nat)]) (t := ET) (fr := (0, 0)) (heap_alloc_new W _)) hnews (by omega) b1 b2 hb0 (W.heap.size + 1) (by simp) ?_; intro g5 cap5 w5 hown5 hgrow hat5 hlt5; have hB5 := HB5.out _ hgrow; have c5 : w5.cell? ⟨b, 2, none⟩ = some (.slice A n c) := cellOf hB5 rfl; have z5 : w5.frozen? ⟨b, 2, none⟩ = false := frozenOf hB5))
    all_goals
      have HR := Lib.hid (HAP.out _ _ hgrow (by rw [HN.out]; exact hown5))
      go_wp2
      go_meet
      case rel => exact ⟨rfl, rfl, rfl, _, HR⟩
  case rest =>
    obtain ⟨rfl, rfl, rfl, v', HR⟩ := hcut
    clear HAP HB5 HOWN hi0 hz0 hz1 hz2 s1 s2 s3 s4 r1 r3 r4 hb0 b1 b2 hnews
    have hr1 := HR.out.set (k := 6) (u := .bool true) (p' := p) (st' := ⟨st.mark, st.depth, st.j, true, st.c⟩) rfl
    have c6 := HR.out.cell (k := 6) (show _ = some (.bool st.s) from rfl)
    have f6 := HR.out.fr 6
    have x0 := hr1.cell (k := 0) (show _ = some (.string line) from rfl)
    have x1 := hr1.cell (k := 1) (show _ = some (.int .i64 (p : Nat)) from rfl)
    have x4 := hr1.cell (k := 4) (show _ = some (.int .i64 st.depth) from rfl)
    have x7 := hr1.cell (k := 7) (show _ = some (.bool st.c) from rfl)
    have f7 := hr1.fr 7
    obtain ⟨W1, hW1⟩ : ∃ W1, wc.setCell ⟨b, 6, none⟩ (.bool true) = W1 := ⟨_, rfl⟩
    rw [hW1] at hr1 x0 x1 x4 x7 f7
    have HR1 := Lib.hid hr1
    clear HR hr1
    go_wp2
    go_region
    have hr8 := ((HR1.out.set (k := 7) (u := .bool false) (p' := p) (st' := ⟨st.mark, st.depth, st.j, true, false⟩) rfl).more (Up.drew _))
    generalize hW8 : (W1.setCell ⟨b, 7, none⟩ (.bool false)).drew = W8 at hr8 ⊢
    have y1 := hr8.cell (k := 1) (show _ = some (.int .i64 (p : Nat)) from rfl)
    have z1 := hr8.fr 1
    have HF := Lib.hid (hr8.set (k := 1) (u := .int .i64 (q : Nat)) (p' := q) (st' := lfS st k (((bl line).drop p).take (q - p))) (by rw [HLS.out]; rfl))
    clear hr8 hW8
    go_wp2
    go_end0
    exact ⟨rfl, _, HF.out⟩
set_option maxRecDepth 100000 in
set_option maxHeartbeats 4000000 in
theorem leaf_op1 (w0 W : World) (O : Nat → Obj → Prop) (b : Nat) (line : ByteArray) (p q : Nat) (v : Value) (es : List PEv) (st : PSt) (hB : ((line.extract p q).toList == ([58] : List UInt8)) = false) (hr : RdAt w0 W O b line p v es st) (hp : p ≤ q) (hq : q ≤ line.size) (hl : es.length ≤ 1000000) :
    Calls Tryz.prog 67 #[.pointer (some ⟨b, 0, none⟩), .int .u8 17, .int .i64 (q : Nat)] W (Done w0 O b line q (es ++ [⟨17, p, q⟩]) (lfS st 17 (((bl line).drop p).take (q - p)))) := by
  obtain ⟨A, c, hv⟩ := own_slice hr.row
  obtain ⟨n, hn⟩ : ∃ n, es.length = n := ⟨_, rfl⟩
  rw [hn] at hv
  subst hv
  obtain ⟨i0, hi0, hz0, hz1, hz2⟩ := info_parts infoEvent
  have hu := Up.alloc W (.cells #[Value.int .u8 3, .int .u8 17, .int .i64 (p : Nat), .int .i64 (q : Nat)] ET)
  have s1 : W.cell? ⟨b, 2, none⟩ = some (.slice A n c) := hr.cell rfl
  have r1 : W.cell? ⟨b, 1, none⟩ = some (.int .i64 (p : Nat)) := hr.cell rfl
  have s2 : W.frozen? ⟨b, 2, none⟩ = false := hr.fr 2
  have s3 : (W.drew.alloc (.cells #[Value.int .u8 3, .int .u8 17, .int .i64 (p : Nat), .int .i64 (q : Nat)] ET)).cell? ⟨b, 2, none⟩ = some (.slice A n c) := cell_up (Up.alloc W.drew _) s1
  have s4 : (W.alloc (.cells #[Value.int .u8 3, .int .u8 17, .int .i64 (p : Nat), .int .i64 (q : Nat)] ET)).cell? ⟨b, 2, none⟩ = some (.slice A n c) := cell_up hu s1
  have r3 : (W.drew.alloc (.cells #[Value.int .u8 3, .int .u8 17, .int .i64 (p : Nat), .int .i64 (q : Nat)] ET)).cell? ⟨b, 1, none⟩ = some (.int .i64 (p : Nat)) := cell_up (Up.alloc W.drew _) r1
  have r4 : (W.alloc (.cells #[Value.int .u8 3, .int .u8 17, .int .i64 (p : Nat), .int .i64 (q : Nat)] ET)).cell? ⟨b, 1, none⟩ = some (.int .i64 (p : Nat)) := cell_up hu r1
  have HOWN : W.ownsRow w0.heap.size ET 4 (.slice A n c) n (evCells es) := by have h := hr.row; unfold RowE at h; rwa [hn] at h
  have hb0 : w0.heap.size ≤ (W.alloc (.cells #[Value.int .u8 3, .int .u8 17, .int .i64 (p : Nat), .int .i64 (q : Nat)] ET)).heap.size := Nat.le_trans (Below.size hr.up) (Below.size hu)
  have HB5 := Lib.hid (fun (w5 : World) (hg : (W.alloc (.cells #[Value.int .u8 3, .int .u8 17, .int .i64 (p : Nat), .int .i64 (q : Nat)] ET)).drew.grownBy w5 (Value.slice A n c).ownBlock) => hr.mid (hu.trans (Up.drew _)) hg)
  have HAP := Lib.hid (fun (w5 : World) (v5 : Value) (hg : (W.alloc (.cells #[Value.int .u8 3, .int .u8 17, .int .i64 (p : Nat), .int .i64 (q : Nat)] ET)).drew.grownBy w5 (Value.slice A n c).ownBlock) (ho : w5.ownsRow w0.heap.size ET 4 v5 (es.length + 1) (evCells es ++ [.int .u8 3, .int .u8 ((17 : Nat) : Int), .int .i64 (p : Nat), .int .i64 (q : Nat)])) => hr.app (hu.trans (Up.drew _)) hg ho)
  have b1 : n + 1 ≤ maxLen := by unfold maxLen; omega
  have b2 : (n + 1) * 24 ≤ 140737488355328 := by omega
  have HN := Lib.hid hn
  have hnews : ∀ u ∈ [Value.int .u8 3, .int .u8 17, .int .i64 (p : Nat), .int .i64 (q : Nat)], u.oneCell' = true := by intro u hu; simp at hu; rcases hu with rfl | rfl | rfl | rfl <;> rfl
  have HLS := Lib.hid (lf_op st (((bl line).drop p).take (q - p)))
  have i0' : (0 : Int) ≤ (p : Int) := by omega
  have i1' : (p : Int) ≤ (q : Int) := by omega
  have i2' : (q : Int) ≤ (line.size : Int) := by omega
  have hbl : ((((bl line).drop p).take (q - p)) == [58]) = ((line.extract p q).toList == ([58] : List UInt8)) := by
    have e1 : (((bl line).drop p).take (q - p)) = bl (line.extract p q) := by rw [bl_extract, List.drop_take]
    have e2 : ([58] : List Nat) = bl ⟨#[58]⟩ := rfl
    rw [e1, e2, beq_bl, ByteArray.toList_eq (⟨#[58]⟩ : ByteArray), Bool.eq_iff_iff, beq_iff_eq, beq_iff_eq]
    exact eq_comm
  have HBL := Lib.hid hbl
  clear hbl hp hq
  clear hr hu hl hn
  go_enter Tryz.func67, Tryz.ntmps67
  go_upto_region 0 with fail
  go_cut [0, 1, 2] (fun u0 u1 u2 wx => u0 = .pointer (some ⟨b, 0, none⟩) ∧ u1 = .int .u8 17 ∧ u2 = .int .i64 (q : Nat) ∧ ∃ v', Hid (RdAt w0 wx O b line p v' (es ++ [⟨17, p, q⟩]) st))
  case first =>
    go_region_law (first
    | (refine step_append_lies _ (by rfl) _ _ _ (by rfl) w0.heap.size ET i0 (.agg #[.int .u8 0, .int .u8 0, .int .i64 0, .int .i64 0]) 4 24 Tryz.underlying30 hi0 hz0 hz1 hz2 rfl (by decide) _ n (evCells es) (by rfl) (HOWN.alloc _) ⟨W.heap.size, 0, none⟩ 1 1 [Value.int .u8 3, .int .u8 17, .int .i64 (p : Nat), .int .i64 (q : Nat)] (by rfl) rfl (World.news_of_block (cs := #[Value.int .u8 3, .int .u8 17, .int .i64 (p : Nat), .int .i64 (q : Nat)]) (t := ET) (fr := (0, 0)) (heap_alloc_new W _)) hnews (by omega) b1 b2 hb0 (W.heap.size + 1) (by simp) ?_; intro g5 cap5 w5 hown5 hgrow hat5 hlt5; have hB5 := HB5.out _ hgrow; have c5 : w5.cell? ⟨b, 2, none⟩ = some (.slice A n c) := cellOf hB5 rfl; have z5 : w5.frozen? ⟨b, 2, none⟩ = false := frozenOf hB5))
    all_goals
      have HR := Lib.hid (HAP.out _ _ hgrow (by rw [HN.out]; exact hown5))
      go_wp2
      go_meet
      case rel => exact ⟨rfl, rfl, rfl, _, HR⟩
  case rest =>
    obtain ⟨rfl, rfl, rfl, v', HR⟩ := hcut
    clear HAP HB5 HOWN hi0 hz0 hz1 hz2 s1 s2 s3 s4 r1 r3 r4 hb0 b1 b2 hnews
    have hr1 := HR.out.set (k := 6) (u := .bool true) (p' := p) (st' := ⟨st.mark, st.depth, st.j, true, st.c⟩) rfl
    have c6 := HR.out.cell (k := 6) (show _ = some (.bool st.s) from rfl)
    have f6 := HR.out.fr 6
    have x0 := hr1.cell (k := 0) (show _ = some (.string line) from rfl)
    have x1 := hr1.cell (k := 1) (show _ = some (.int .i64 (p : Nat)) from rfl)
    have x4 := hr1.cell (k := 4) (show _ = some (.int .i64 st.depth) from rfl)
    have x7 := hr1.cell (k := 7) (show _ = some (.bool st.c) from rfl)
    have f7 := hr1.fr 7
    obtain ⟨W1, hW1⟩ : ∃ W1, wc.setCell ⟨b, 6, none⟩ (.bool true) = W1 := ⟨_, rfl⟩
    rw [hW1] at hr1 x0 x1 x4 x7 f7
    have HR1 := Lib.hid hr1
    clear HR hr1
    go_wp2
    go_region
    have hr8 := ((HR1.out.set (k := 7) (u := .bool false) (p' := p) (st' := ⟨st.mark, st.depth, st.j, true, false⟩) rfl).more (Up.drew _))
    generalize hW8 : (W1.setCell ⟨b, 7, none⟩ (.bool false)).drew = W8 at hr8 ⊢
    have y1 := hr8.cell (k := 1) (show _ = some (.int .i64 (p : Nat)) from rfl)
    have z1 := hr8.fr 1
    have HF := Lib.hid (hr8.set (k := 1) (u := .int .i64 (q : Nat)) (p' := q) (st' := lfS st 17 (((bl line).drop p).take (q - p))) (by rw [HLS.out, HBL.out, hB]; rfl))
    clear hr8 hW8
    go_wp2
    go_end0
    exact ⟨rfl, _, HF.out⟩
set_option maxRecDepth 100000 in
set_option maxHeartbeats 4000000 in
theorem leaf_op2 (w0 W : World) (O : Nat → Obj → Prop) (b : Nat) (line : ByteArray) (p q : Nat) (v : Value) (es : List PEv) (st : PSt) (hB : ((line.extract p q).toList == ([58] : List UInt8)) = true) (hD : (st.depth == 0) = false) (hr : RdAt w0 W O b line p v es st) (hp : p ≤ q) (hq : q ≤ line.size) (hl : es.length ≤ 1000000) :
    Calls Tryz.prog 67 #[.pointer (some ⟨b, 0, none⟩), .int .u8 17, .int .i64 (q : Nat)] W (Done w0 O b line q (es ++ [⟨17, p, q⟩]) (lfS st 17 (((bl line).drop p).take (q - p)))) := by
  obtain ⟨A, c, hv⟩ := own_slice hr.row
  obtain ⟨n, hn⟩ : ∃ n, es.length = n := ⟨_, rfl⟩
  rw [hn] at hv
  subst hv
  obtain ⟨i0, hi0, hz0, hz1, hz2⟩ := info_parts infoEvent
  have hu := Up.alloc W (.cells #[Value.int .u8 3, .int .u8 17, .int .i64 (p : Nat), .int .i64 (q : Nat)] ET)
  have s1 : W.cell? ⟨b, 2, none⟩ = some (.slice A n c) := hr.cell rfl
  have r1 : W.cell? ⟨b, 1, none⟩ = some (.int .i64 (p : Nat)) := hr.cell rfl
  have s2 : W.frozen? ⟨b, 2, none⟩ = false := hr.fr 2
  have s3 : (W.drew.alloc (.cells #[Value.int .u8 3, .int .u8 17, .int .i64 (p : Nat), .int .i64 (q : Nat)] ET)).cell? ⟨b, 2, none⟩ = some (.slice A n c) := cell_up (Up.alloc W.drew _) s1
  have s4 : (W.alloc (.cells #[Value.int .u8 3, .int .u8 17, .int .i64 (p : Nat), .int .i64 (q : Nat)] ET)).cell? ⟨b, 2, none⟩ = some (.slice A n c) := cell_up hu s1
  have r3 : (W.drew.alloc (.cells #[Value.int .u8 3, .int .u8 17, .int .i64 (p : Nat), .int .i64 (q : Nat)] ET)).cell? ⟨b, 1, none⟩ = some (.int .i64 (p : Nat)) := cell_up (Up.alloc W.drew _) r1
  have r4 : (W.alloc (.cells #[Value.int .u8 3, .int .u8 17, .int .i64 (p : Nat), .int .i64 (q : Nat)] ET)).cell? ⟨b, 1, none⟩ = some (.int .i64 (p : Nat)) := cell_up hu r1
  have HOWN : W.ownsRow w0.heap.size ET 4 (.slice A n c) n (evCells es) := by have h := hr.row; unfold RowE at h; rwa [hn] at h
  have hb0 : w0.heap.size ≤ (W.alloc (.cells #[Value.int .u8 3, .int .u8 17, .int .i64 (p : Nat), .int .i64 (q : Nat)] ET)).heap.size := Nat.le_trans (Below.size hr.up) (Below.size hu)
  have HB5 := Lib.hid (fun (w5 : World) (hg : (W.alloc (.cells #[Value.int .u8 3, .int .u8 17, .int .i64 (p : Nat), .int .i64 (q : Nat)] ET)).drew.grownBy w5 (Value.slice A n c).ownBlock) => hr.mid (hu.trans (Up.drew _)) hg)
  have HAP := Lib.hid (fun (w5 : World) (v5 : Value) (hg : (W.alloc (.cells #[Value.int .u8 3, .int .u8 17, .int .i64 (p : Nat), .int .i64 (q : Nat)] ET)).drew.grownBy w5 (Value.slice A n c).ownBlock) (ho : w5.ownsRow w0.heap.size ET 4 v5 (es.length + 1) (evCells es ++ [.int .u8 3, .int .u8 ((17 : Nat) : Int), .int .i64 (p : Nat), .int .i64 (q : Nat)])) => hr.app (hu.trans (Up.drew _)) hg ho)
  have b1 : n + 1 ≤ maxLen := by unfold maxLen; omega
  have b2 : (n + 1) * 24 ≤ 140737488355328 := by omega
  have HN := Lib.hid hn
  have hnews : ∀ u ∈ [Value.int .u8 3, .int .u8 17, .int .i64 (p : Nat), .int .i64 (q : Nat)], u.oneCell' = true := by intro u hu; simp at hu; rcases hu with rfl | rfl | rfl | rfl <;> rfl
  have HLS := Lib.hid (lf_op st (((bl line).drop p).take (q - p)))
  have i0' : (0 : Int) ≤ (p : Int) := by omega
  have i1' : (p : Int) ≤ (q : Int) := by omega
  have i2' : (q : Int) ≤ (line.size : Int) := by omega
  have hbl : ((((bl line).drop p).take (q - p)) == [58]) = ((line.extract p q).toList == ([58] : List UInt8)) := by
    have e1 : (((bl line).drop p).take (q - p)) = bl (line.extract p q) := by rw [bl_extract, List.drop_take]
    have e2 : ([58] : List Nat) = bl ⟨#[58]⟩ := rfl
    rw [e1, e2, beq_bl, ByteArray.toList_eq (⟨#[58]⟩ : ByteArray), Bool.eq_iff_iff, beq_iff_eq, beq_iff_eq]
    exact eq_comm
  have HBL := Lib.hid hbl
  clear hbl hp hq
  clear hr hu hl hn
  go_enter Tryz.func67, Tryz.ntmps67
  go_upto_region 0 with fail
  go_cut [0, 1, 2] (fun u0 u1 u2 wx => u0 = .pointer (some ⟨b, 0, none⟩) ∧ u1 = .int .u8 17 ∧ u2 = .int .i64 (q : Nat) ∧ ∃ v', Hid (RdAt w0 wx O b line p v' (es ++ [⟨17, p, q⟩]) st))
  case first =>
    go_region_law (first
    | (refine step_append_lies _ (by rfl) _ _ _ (by rfl) w0.heap.size ET i0 (.agg #[.int .u8 0, .int .u8 0, .int .i64 0, .int .i64 0]) 4 24 Tryz.underlying30 hi0 hz0 hz1 hz2 rfl (by decide) _ n (evCells es) (by rfl) (HOWN.alloc _) ⟨W.heap.size, 0, none⟩ 1 1 [Value.int .u8 3, .int .u8 17, .int .i64 (p : Nat), .int .i64 (q : Nat)] (by rfl) rfl (World.news_of_block (cs := #[Value.int .u8 3, .int .u8 17, .int .i64 (p : Nat), .int .i64 (q : Nat)]) (t := ET) (fr := (0, 0)) (heap_alloc_new W _)) hnews (by omega) b1 b2 hb0 (W.heap.size + 1) (by simp) ?_; intro g5 cap5 w5 hown5 hgrow hat5 hlt5; have hB5 := HB5.out _ hgrow; have c5 : w5.cell? ⟨b, 2, none⟩ = some (.slice A n c) := cellOf hB5 rfl; have z5 : w5.frozen? ⟨b, 2, none⟩ = false := frozenOf hB5))
    all_goals
      have HR := Lib.hid (HAP.out _ _ hgrow (by rw [HN.out]; exact hown5))
      go_wp2
      go_meet
      case rel => exact ⟨rfl, rfl, rfl, _, HR⟩
  case rest =>
    obtain ⟨rfl, rfl, rfl, v', HR⟩ := hcut
    clear HAP HB5 HOWN hi0 hz0 hz1 hz2 s1 s2 s3 s4 r1 r3 r4 hb0 b1 b2 hnews
    have hr1 := HR.out.set (k := 6) (u := .bool true) (p' := p) (st' := ⟨st.mark, st.depth, st.j, true, st.c⟩) rfl
    have c6 := HR.out.cell (k := 6) (show _ = some (.bool st.s) from rfl)
    have f6 := HR.out.fr 6
    have x0 := hr1.cell (k := 0) (show _ = some (.string line) from rfl)
    have x1 := hr1.cell (k := 1) (show _ = some (.int .i64 (p : Nat)) from rfl)
    have x4 := hr1.cell (k := 4) (show _ = some (.int .i64 st.depth) from rfl)
    have x7 := hr1.cell (k := 7) (show _ = some (.bool st.c) from rfl)
    have f7 := hr1.fr 7
    obtain ⟨W1, hW1⟩ : ∃ W1, wc.setCell ⟨b, 6, none⟩ (.bool true) = W1 := ⟨_, rfl⟩
    rw [hW1] at hr1 x0 x1 x4 x7 f7
    have HR1 := Lib.hid hr1
    clear HR hr1
    go_wp2
    go_region
    have hr8 := ((HR1.out.set (k := 7) (u := .bool false) (p' := p) (st' := ⟨st.mark, st.depth, st.j, true, false⟩) rfl).more (Up.drew _))
    generalize hW8 : (W1.setCell ⟨b, 7, none⟩ (.bool false)).drew = W8 at hr8 ⊢
    have y1 := hr8.cell (k := 1) (show _ = some (.int .i64 (p : Nat)) from rfl)
    have z1 := hr8.fr 1
    have HF := Lib.hid (hr8.set (k := 1) (u := .int .i64 (q : Nat)) (p' := q) (st' := lfS st 17 (((bl line).drop p).take (q - p))) (by rw [HLS.out, HBL.out, hB, hD]; rfl))
    clear hr8 hW8
    go_wp2
    go_end0
    exact ⟨rfl, _, HF.out⟩
set_option maxRecDepth 100000 in
set_option maxHeartbeats 4000000 in
theorem leaf_op3 (w0 W : World) (O : Nat → Obj → Prop) (b : Nat) (line : ByteArray) (p q : Nat) (v : Value) (es : List PEv) (st : PSt) (hB : ((line.extract p q).toList == ([58] : List UInt8)) = true) (hD : (st.depth == 0) = true) (hr : RdAt w0 W O b line p v es st) (hp : p ≤ q) (hq : q ≤ line.size) (hl : es.length ≤ 1000000) :
    Calls Tryz.prog 67 #[.pointer (some ⟨b, 0, none⟩), .int .u8 17, .int .i64 (q : Nat)] W (Done w0 O b line q (es ++ [⟨17, p, q⟩]) (lfS st 17 (((bl line).drop p).take (q - p)))) := by
  obtain ⟨A, c, hv⟩ := own_slice hr.row
  obtain ⟨n, hn⟩ : ∃ n, es.length = n := ⟨_, rfl⟩
  rw [hn] at hv
  subst hv
  obtain ⟨i0, hi0, hz0, hz1, hz2⟩ := info_parts infoEvent
  have hu := Up.alloc W (.cells #[Value.int .u8 3, .int .u8 17, .int .i64 (p : Nat), .int .i64 (q : Nat)] ET)
  have s1 : W.cell? ⟨b, 2, none⟩ = some (.slice A n c) := hr.cell rfl
  have r1 : W.cell? ⟨b, 1, none⟩ = some (.int .i64 (p : Nat)) := hr.cell rfl
  have s2 : W.frozen? ⟨b, 2, none⟩ = false := hr.fr 2
  have s3 : (W.drew.alloc (.cells #[Value.int .u8 3, .int .u8 17, .int .i64 (p : Nat), .int .i64 (q : Nat)] ET)).cell? ⟨b, 2, none⟩ = some (.slice A n c) := cell_up (Up.alloc W.drew _) s1
  have s4 : (W.alloc (.cells #[Value.int .u8 3, .int .u8 17, .int .i64 (p : Nat), .int .i64 (q : Nat)] ET)).cell? ⟨b, 2, none⟩ = some (.slice A n c) := cell_up hu s1
  have r3 : (W.drew.alloc (.cells #[Value.int .u8 3, .int .u8 17, .int .i64 (p : Nat), .int .i64 (q : Nat)] ET)).cell? ⟨b, 1, none⟩ = some (.int .i64 (p : Nat)) := cell_up (Up.alloc W.drew _) r1
  have r4 : (W.alloc (.cells #[Value.int .u8 3, .int .u8 17, .int .i64 (p : Nat), .int .i64 (q : Nat)] ET)).cell? ⟨b, 1, none⟩ = some (.int .i64 (p : Nat)) := cell_up hu r1
  have HOWN : W.ownsRow w0.heap.size ET 4 (.slice A n c) n (evCells es) := by have h := hr.row; unfold RowE at h; rwa [hn] at h
  have hb0 : w0.heap.size ≤ (W.alloc (.cells #[Value.int .u8 3, .int .u8 17, .int .i64 (p : Nat), .int .i64 (q : Nat)] ET)).heap.size := Nat.le_trans (Below.size hr.up) (Below.size hu)
  have HB5 := Lib.hid (fun (w5 : World) (hg : (W.alloc (.cells #[Value.int .u8 3, .int .u8 17, .int .i64 (p : Nat), .int .i64 (q : Nat)] ET)).drew.grownBy w5 (Value.slice A n c).ownBlock) => hr.mid (hu.trans (Up.drew _)) hg)
  have HAP := Lib.hid (fun (w5 : World) (v5 : Value) (hg : (W.alloc (.cells #[Value.int .u8 3, .int .u8 17, .int .i64 (p : Nat), .int .i64 (q : Nat)] ET)).drew.grownBy w5 (Value.slice A n c).ownBlock) (ho : w5.ownsRow w0.heap.size ET 4 v5 (es.length + 1) (evCells es ++ [.int .u8 3, .int .u8 ((17 : Nat) : Int), .int .i64 (p : Nat), .int .i64 (q : Nat)])) => hr.app (hu.trans (Up.drew _)) hg ho)
  have b1 : n + 1 ≤ maxLen := by unfold maxLen; omega
  have b2 : (n + 1) * 24 ≤ 140737488355328 := by omega
  have HN := Lib.hid hn
  have hnews : ∀ u ∈ [Value.int .u8 3, .int .u8 17, .int .i64 (p : Nat), .int .i64 (q : Nat)], u.oneCell' = true := by intro u hu; simp at hu; rcases hu with rfl | rfl | rfl | rfl <;> rfl
  have HLS := Lib.hid (lf_op st (((bl line).drop p).take (q - p)))
  have i0' : (0 : Int) ≤ (p : Int) := by omega
  have i1' : (p : Int) ≤ (q : Int) := by omega
  have i2' : (q : Int) ≤ (line.size : Int) := by omega
  have hbl : ((((bl line).drop p).take (q - p)) == [58]) = ((line.extract p q).toList == ([58] : List UInt8)) := by
    have e1 : (((bl line).drop p).take (q - p)) = bl (line.extract p q) := by rw [bl_extract, List.drop_take]
    have e2 : ([58] : List Nat) = bl ⟨#[58]⟩ := rfl
    rw [e1, e2, beq_bl, ByteArray.toList_eq (⟨#[58]⟩ : ByteArray), Bool.eq_iff_iff, beq_iff_eq, beq_iff_eq]
    exact eq_comm
  have HBL := Lib.hid hbl
  clear hbl hp hq
  clear hr hu hl hn
  go_enter Tryz.func67, Tryz.ntmps67
  go_upto_region 0 with fail
  go_cut [0, 1, 2] (fun u0 u1 u2 wx => u0 = .pointer (some ⟨b, 0, none⟩) ∧ u1 = .int .u8 17 ∧ u2 = .int .i64 (q : Nat) ∧ ∃ v', Hid (RdAt w0 wx O b line p v' (es ++ [⟨17, p, q⟩]) st))
  case first =>
    go_region_law (first
    | (refine step_append_lies _ (by rfl) _ _ _ (by rfl) w0.heap.size ET i0 (.agg #[.int .u8 0, .int .u8 0, .int .i64 0, .int .i64 0]) 4 24 Tryz.underlying30 hi0 hz0 hz1 hz2 rfl (by decide) _ n (evCells es) (by rfl) (HOWN.alloc _) ⟨W.heap.size, 0, none⟩ 1 1 [Value.int .u8 3, .int .u8 17, .int .i64 (p : Nat), .int .i64 (q : Nat)] (by rfl) rfl (World.news_of_block (cs := #[Value.int .u8 3, .int .u8 17, .int .i64 (p : Nat), .int .i64 (q : Nat)]) (t := ET) (fr := (0, 0)) (heap_alloc_new W _)) hnews (by omega) b1 b2 hb0 (W.heap.size + 1) (by simp) ?_; intro g5 cap5 w5 hown5 hgrow hat5 hlt5; have hB5 := HB5.out _ hgrow; have c5 : w5.cell? ⟨b, 2, none⟩ = some (.slice A n c) := cellOf hB5 rfl; have z5 : w5.frozen? ⟨b, 2, none⟩ = false := frozenOf hB5))
    all_goals
      have HR := Lib.hid (HAP.out _ _ hgrow (by rw [HN.out]; exact hown5))
      go_wp2
      go_meet
      case rel => exact ⟨rfl, rfl, rfl, _, HR⟩
  case rest =>
    obtain ⟨rfl, rfl, rfl, v', HR⟩ := hcut
    clear HAP HB5 HOWN hi0 hz0 hz1 hz2 s1 s2 s3 s4 r1 r3 r4 hb0 b1 b2 hnews
    have hr1 := HR.out.set (k := 6) (u := .bool true) (p' := p) (st' := ⟨st.mark, st.depth, st.j, true, st.c⟩) rfl
    have c6 := HR.out.cell (k := 6) (show _ = some (.bool st.s) from rfl)
    have f6 := HR.out.fr 6
    have x0 := hr1.cell (k := 0) (show _ = some (.string line) from rfl)
    have x1 := hr1.cell (k := 1) (show _ = some (.int .i64 (p : Nat)) from rfl)
    have x4 := hr1.cell (k := 4) (show _ = some (.int .i64 st.depth) from rfl)
    have x7 := hr1.cell (k := 7) (show _ = some (.bool st.c) from rfl)
    have f7 := hr1.fr 7
    obtain ⟨W1, hW1⟩ : ∃ W1, wc.setCell ⟨b, 6, none⟩ (.bool true) = W1 := ⟨_, rfl⟩
    rw [hW1] at hr1 x0 x1 x4 x7 f7
    have HR1 := Lib.hid hr1
    clear HR hr1
    go_wp2
    go_region
    have hr8 := ((HR1.out.set (k := 7) (u := .bool true) (p' := p) (st' := ⟨st.mark, st.depth, st.j, true, true⟩) rfl).more (Up.drew _))
    generalize hW8 : (W1.setCell ⟨b, 7, none⟩ (.bool true)).drew = W8 at hr8 ⊢
    have y1 := hr8.cell (k := 1) (show _ = some (.int .i64 (p : Nat)) from rfl)
    have z1 := hr8.fr 1
    have HF := Lib.hid (hr8.set (k := 1) (u := .int .i64 (q : Nat)) (p' := q) (st' := lfS st 17 (((bl line).drop p).take (q - p))) (by rw [HLS.out, HBL.out, hB, hD]; rfl))
    clear hr8 hW8
    go_wp2
    go_end0
    exact ⟨rfl, _, HF.out⟩
theorem leaf_any (w0 W : World) (O : Nat → Obj → Prop) (b : Nat) (line : ByteArray) (p q : Nat) (v : Value) (es : List PEv) (st : PSt) (k : Nat) (hr : RdAt w0 W O b line p v es st) (hp : p ≤ q) (hq : q ≤ line.size) (_ : (line.size : Int) ≤ 1000000) (hl : es.length ≤ 1000000) :
    Calls Tryz.prog 67 #[.pointer (some ⟨b, 0, none⟩), .int .u8 (k : Nat), .int .i64 (q : Nat)] W (Done w0 O b line q (es ++ [⟨k, p, q⟩]) (lfS st k (((bl line).drop p).take (q - p)))) := by
  by_cases h18 : k = 18
  · subst h18
    exact leaf_comment w0 W O b line p q v es st hr hl
  by_cases h19 : k = 19
  · subst h19
    exact leaf_join w0 W O b line p q v es st hr hl
  by_cases h17 : k = 17
  · subst h17
    cases hB : ((line.extract p q).toList == ([58] : List UInt8))
    · exact leaf_op1 w0 W O b line p q v es st hB hr hp hq hl
    · cases hD : (st.depth == 0)
      · exact leaf_op2 w0 W O b line p q v es st hB hD hr hp hq hl
      · exact leaf_op3 w0 W O b line p q v es st hB hD hr hp hq hl
  · exact leaf_plain w0 W O b line p q v es st k h17 h18 h19 hr hl
end Go.Proofs.YtmfcapbllbfjnaaGreatDoor
