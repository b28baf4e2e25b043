/- BuildBack, walked: what is no tree. -/
import Derived.Test.YtkkefgbmdghklaaBBackS
namespace Go.Proofs.Ytkkefgbmdghklaa
open Go.RowKit

set_option maxRecDepth 100000 in
set_option maxHeartbeats 2000000 in
theorem back_out (w : World) (A : Option Addr) (n c : Nat) (h : 1000 < n ∨ n = 0) : Calls Try.prog 6 #[.slice A n c] w fun e w' => e = .returned (.bool true) ∧ Below w.heap.size w w' := by
  have HW := Lib.hid (fun W => wakes_any W)
  by_cases h1 : 1000 < n
  · have h2 : (1000 : Int) < n := by omega
    clear h h1
    go_enter Try.func6, Try.ntmps6
    go_wp2_with fail
    go_quiet (fail)
    go_wp2_with (go_at_call 11; ((with_reducible refine (HW.out _).mono ?_); rintro e w1 ⟨rfl, hu⟩; have HU := Lib.hid hu; clear hu))
    go_ret
    exact ⟨rfl, (Up.drewN w _).trans HU.out⟩
  have h2 : n = 0 := by omega
  subst h2
  clear h h1
  go_enter Try.func6, Try.ntmps6
  go_wp2_with fail
  go_quiet (fail)
  go_wp2_with (go_at_call 11; ((with_reducible refine (HW.out _).mono ?_); rintro e w1 ⟨rfl, hu⟩; have HU := Lib.hid hu; clear hu))
  go_ret
  exact ⟨rfl, (Up.drewN w _).trans HU.out⟩
set_option maxRecDepth 100000 in
set_option maxHeartbeats 2000000 in
theorem back_no (w : World) (A : Option Addr) (n c : Nat) (L : List Nd) (hL : NArg w A n L) (hn : 1 ≤ n ∧ n ≤ 1000) (hT : ¬ IsT L (nd L 0).2.2.1) : Calls Try.prog 6 #[.slice A n c] w fun e w' => e = .returned (.bool true) ∧ Below w.heap.size w w' := by
  have HW := Lib.hid (fun W => wakes_any W)
  obtain ⟨b, o, rfl, hb, -, -, k2, -⟩ := nds_nd hL.nds 0 (by omega)
  rw [Nat.zero_mul, Nat.add_zero] at k2
  have hmo := wf64 (nd_ok hL.ok 0).2.2.1
  obtain ⟨m, hm⟩ : ∃ m, (nd L 0).2.2.1 = m := ⟨_, rfl⟩
  rw [hm] at k2 hT hmo
  have f1 : decide ((1000 : Int) < n) = false := decide_eq_false (by omega)
  have f2 : ((n : Int) == 0) = false := beq_false_of_ne (by omega)
  have f3 : (0 : Int) < n := by omega
  obtain ⟨i0, hi0, hz0, hz1, hz2⟩ := info_parts infoNode
  have HOk := Lib.hid hL.ok
  have hnews := nds_newsB hL.nds
  have hlen := hL.nds.len
  have hlen4 : (ndCells L).length = n * 4 := by rw [ndCells_len, hlen]
  have HCk := Lib.hid (fun (W : World) g cp (hr : W.ownsRow w.heap.size 46 4 (.slice (some ⟨g, 0, none⟩) n cp) n (ndCells L)) => check_no hr hlen HOk.out hn.2 m hmo hT)
  have hHT := Lib.hid hT
  have hn1 : 0 < n := by omega
  have b1 : 0 + n ≤ maxLen := by unfold maxLen; omega
  have b2 : (0 + n) * 32 ≤ 140737488355328 := by omega
  have hS : w.cell? ⟨b, o + 2, none⟩ = some (.int .i64 m) ∧ Up w w := ⟨k2, Up.refl _⟩
  clear hL hm hb k2 hmo hT hn
  go_enter Try.func6, Try.ntmps6
  go_wp2_with fail
  go_region_held3 (fun w' => w'.cell? ⟨b, o + 2, none⟩ = some (.int .i64 m) ∧ Up w w')
    (first | assumption | with_reducible exact keepU (Up.drew _) (by assumption) | with_reducible exact keepU hu6 (by assumption) | exact keepU hu5 (by assumption))
    ((first
      | (rw [if_pos (by rfl)]; refine wp_append_lies _ _ _ _ (by rfl) w.heap.size 46 i0 (.agg #[.int .u8 0, .int .i64 0, .int .i64 0, .int .i64 0]) 4 32 Try.underlying24 hi0 hz0 hz1 hz2 rfl (by decide) (.slice none 0 0) 0 [] (by rfl) (World.ownsRow_nil _ _ _ _) ⟨b, o, none⟩ n c (ndCells L) (by rfl) hlen4 (hnews _ (by assumption : _ ∧ Up w _).2) (ndCells_one _) hn1 b1 b2 (Below.size (by assumption : _ ∧ Up w _).2) _ (by rfl) ?_; intro g5 cap5 w5 hown5 hgrow hat5 hlt5; have hu5 := grown_none hgrow)
      | (go_at_call 14; ((with_reducible refine (HCk.out _ _ _ (row_zero hown5)).mono ?_); rintro e w6 ⟨rfl, hu6⟩))))
  have HU6 := Lib.hid (by assumption : _ ∧ Up w w6).2
  clear hS
  go_wp2_with (go_at_call 11; ((with_reducible refine (HW.out _).mono ?_); rintro e w7 ⟨rfl, hu⟩; have HU := Lib.hid hu; clear hu))
  go_ret
  exact ⟨rfl, HU6.out.trans HU.out⟩
end Go.Proofs.Ytkkefgbmdghklaa
