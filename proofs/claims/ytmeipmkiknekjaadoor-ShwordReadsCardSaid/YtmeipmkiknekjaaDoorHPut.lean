/- The program's put: a piece is told, and the reader goes on behind it. -/
import Derived.Test.YtmeipmkiknekjaaDoorHMem
import Derived.Test.YtmeipmkiknekjaaDoorHSmall
namespace Go.Proofs.YtmeipmkiknekjaaDoor
open Go.RowKit
set_option maxRecDepth 100000 in
set_option maxHeartbeats 4000000 in
theorem put_any (w0 W : World) (b : Nat) (line : ByteArray) (n p mk kind q : Nat) (v : Value) (ps : List Pc) (h : RdH w0 W b line n p mk v ps) (hl : ps.length ≤ 1000000) :
    Calls Tryd.prog 28 #[.pointer (some ⟨b, 0, none⟩), .int .u8 (kind : Nat), .int .i64 (q : Nat)] W fun e w' => e = .returned (.tuple #[]) ∧ ∃ v', RdH w0 w' b line n q mk v' (ps ++ [⟨kind, p, q, [], false, false⟩]) := by
  obtain ⟨A, c, hv⟩ := own_slice h.row
  obtain ⟨k, hk⟩ : ∃ k, ps.length = k := ⟨_, rfl⟩
  rw [hk] at hv
  subst hv
  obtain ⟨i0, hi0, hz0, hz1, hz2⟩ := info_parts infoPiece
  obtain ⟨cs, hcs⟩ : ∃ cs : Array Value, cs = #[Value.int .u8 (kind : Nat), .int .i64 (p : Nat), .int .i64 (q : Nat), .string ⟨#[]⟩, .bool false, .bool false] := ⟨_, rfl⟩
  have hu := Up.alloc W (.cells #[Value.int .u8 (kind : Nat), .int .i64 (p : Nat), .int .i64 (q : Nat), .string ⟨#[]⟩, .bool false, .bool false] PT)
  have s1 : W.cell? ⟨b, 4, none⟩ = some (.slice A k c) := h.cell rfl
  have r1 : W.cell? ⟨b, 2, none⟩ = some (.int .i64 (p : Nat)) := h.cell rfl
  have s2 : W.frozen? ⟨b, 4, none⟩ = false := h.fr 4
  have s3 : (W.drew.alloc (.cells #[Value.int .u8 (kind : Nat), .int .i64 (p : Nat), .int .i64 (q : Nat), .string ⟨#[]⟩, .bool false, .bool false] PT)).cell? ⟨b, 4, none⟩ = some (.slice A k c) := cell_up (Up.alloc W.drew _) s1
  have s4 : (W.alloc (.cells #[Value.int .u8 (kind : Nat), .int .i64 (p : Nat), .int .i64 (q : Nat), .string ⟨#[]⟩, .bool false, .bool false] PT)).cell? ⟨b, 4, none⟩ = some (.slice A k c) := cell_up hu s1
  have HOWN : W.ownsRow w0.heap.size PT 6 (.slice A k c) k (pcC ps) := by have h := h.row; rwa [hk] at h
  have hb0 : w0.heap.size ≤ (W.alloc (.cells #[Value.int .u8 (kind : Nat), .int .i64 (p : Nat), .int .i64 (q : Nat), .string ⟨#[]⟩, .bool false, .bool false] PT)).heap.size := Nat.le_trans (Below.size h.up) (Below.size hu)
  have HB5 := Lib.hid (fun (w5 : World) (hg : (W.alloc (.cells #[Value.int .u8 (kind : Nat), .int .i64 (p : Nat), .int .i64 (q : Nat), .string ⟨#[]⟩, .bool false, .bool false] PT)).drew.grownBy w5 (Value.slice A k c).ownBlock) => h.mid (hu.trans (Up.drew _)) hg)
  have HAP := Lib.hid (fun (w5 : World) (v5 : Value) (hg : (W.alloc (.cells #[Value.int .u8 (kind : Nat), .int .i64 (p : Nat), .int .i64 (q : Nat), .string ⟨#[]⟩, .bool false, .bool false] PT)).drew.grownBy w5 (Value.slice A k c).ownBlock) (ho : w5.ownsRow w0.heap.size PT 6 v5 (ps.length + 1) (pcC ps ++ pcV ⟨kind, p, q, [], false, false⟩)) => h.app (x := ⟨kind, p, q, [], false, false⟩) (hu.trans (Up.drew _)) hg ho)
  have b1 : k + 1 ≤ maxLen := by unfold maxLen; omega
  have b2 : (k + 1) * 48 ≤ 140737488355328 := by omega
  have HK := Lib.hid hk
  have hnews : ∀ u ∈ [Value.int .u8 (kind : Nat), .int .i64 (p : Nat), .int .i64 (q : Nat), .string ⟨#[]⟩, .bool false, .bool false], u.oneCell' = true := by intro u hu; simp at hu; rcases hu with rfl | rfl | rfl | rfl | rfl <;> rfl
  clear h hu hl hk hcs cs
  go_enter Tryd.func28, Tryd.ntmps28
  go_upto_region 0 with fail
  go_cut [0, 1, 2] (fun u0 u1 u2 wx => u0 = .pointer (some ⟨b, 0, none⟩) ∧ u1 = .int .u8 (kind : Nat) ∧ u2 = .int .i64 (q : Nat) ∧ ∃ v', Hid (RdH w0 wx b line n p mk v' (ps ++ [⟨kind, p, q, [], false, false⟩])))
  case first =>
    go_region_law (first
    | (refine step_append_lies _ (by rfl) _ _ _ (by rfl) w0.heap.size PT i0 (.agg #[.int .u8 0, .int .i64 0, .int .i64 0, .string ⟨#[]⟩, .bool false, .bool false]) 6 48 Tryd.underlying23 hi0 hz0 hz1 hz2 rfl (by decide) _ k (pcC ps) (by rfl) (HOWN.alloc _) ⟨W.heap.size, 0, none⟩ 1 1 [Value.int .u8 (kind : Nat), .int .i64 (p : Nat), .int .i64 (q : Nat), .string ⟨#[]⟩, .bool false, .bool false] (by rfl) rfl (World.news_of_block (cs := #[Value.int .u8 (kind : Nat), .int .i64 (p : Nat), .int .i64 (q : Nat), .string ⟨#[]⟩, .bool false, .bool false]) (t := PT) (fr := (0, 0)) (heap_alloc_new W _)) hnews (by omega) b1 b2 hb0 (W.heap.size + 1) (by simp) ?_; intro g5 cap5 w5 hown5 hgrow hat5 hlt5; have hB5 := HB5.out _ hgrow; have c5 : w5.cell? ⟨b, 4, none⟩ = some (.slice A k c) := cellOf hB5 rfl; have z5 : w5.frozen? ⟨b, 4, none⟩ = false := frozenOf hB5))
    all_goals
      have HR := Lib.hid (HAP.out _ _ hgrow (by rw [HK.out]; exact hown5))
      go_wp2
      go_meet
      case rel => exact ⟨rfl, rfl, rfl, _, HR⟩
  case rest =>
    obtain ⟨rfl, rfl, rfl, v', HR⟩ := hcut
    clear HAP HB5 HOWN hi0 hz0 hz1 hz2 s1 s2 s3 s4 r1 hb0 b1 b2 hnews
    have y1 := HR.out.cell (k := 2) (show _ = some (.int .i64 (p : Nat)) from rfl)
    have z1 := HR.out.fr 2
    have HF := Lib.hid (HR.out.set (k := 2) (u := .int .i64 (q : Nat)) (p' := q) (mk' := mk) rfl)
    clear HR
    go_wp2
    go_end0
    exact ⟨rfl, _, HF.out⟩
end Go.Proofs.YtmeipmkiknekjaaDoor
