/- A tree that is known, and what is known of it; the statement on Check, and on At. -/
import Derived.Test.YtidnldchdahgeaaDoorTPrintP
import Derived.Test.YtidnldchdahgeaaDoorTOwn
namespace Go.Proofs.YtidnldchdahgeaaDoor
open Go.RowKit

def knL : List Nd := [(1, 0, 5, 0), (10, 0, 2, 1), (11, 0, 2, 2), (10, 2, 5, 1)]
theorem known_is : IsT knL 5 := by
  refine ⟨by decide, by decide, by decide, rfl, fun i hi => ?_⟩
  have hi' : i + 1 < 4 := hi
  have : i = 0 ∨ i = 1 ∨ i = 2 := by omega
  rcases this with rfl | rfl | rfl <;> (unfold okA; decide)
theorem known_not : ¬ IsT knL 6 := fun h => by have := h.root; revert this; decide
theorem known_fit : fitB knL = true := fitB_yes known_is.fit
theorem known_at : atA knL 2 = 2 ∧ atE knL 2 = 0 := by
  have hE : atE knL 2 = 0 := by unfold atE; rw [known_fit, if_pos rfl]; decide
  refine ⟨?_, hE⟩
  unfold atA
  rw [hE, if_pos rfl]
  decide
theorem known_ok : ∀ x ∈ knL, NdOk x := by
  intro x hx
  unfold knL at hx
  simp only [List.mem_cons, List.not_mem_nil, or_false] at hx
  rcases hx with rfl | rfl | rfl | rfl <;> exact ⟨by decide, by decide, by decide, by decide⟩
theorem known_pr : prL knL = [48, 32, 49, 32, 48, 32, 53, 10, 49, 32, 49, 48, 32, 48, 32, 50, 10, 50, 32, 49, 49, 32, 48, 32, 50, 10, 49, 32, 49, 48, 32, 50, 32, 53, 10] := by
  have d0 : dig 0 = [48] := dec_small (u := 0) (by decide)
  have d1 : dig 1 = [49] := dec_small (u := 1) (by decide)
  have d2 : dig 2 = [50] := dec_small (u := 2) (by decide)
  have d5 : dig 5 = [53] := dec_small (u := 5) (by decide)
  have dA : dig 10 = [49, 48] := (dec_step (v := 1) (d := 0) (by decide) (by decide)).trans (by rw [dec_small (u := 1) (by decide)]; rfl)
  have dB : dig 11 = [49, 49] := (dec_step (v := 1) (d := 1) (by decide) (by decide)).trans (by rw [dec_small (u := 1) (by decide)]; rfl)
  simp only [knL, prL, prN, d0, d1, d2, d5, dA, dB]
  rfl
theorem known_prS : prS knL = ⟨#[48, 32, 49, 32, 48, 32, 53, 10, 49, 32, 49, 48, 32, 48, 32, 50, 10, 50, 32, 49, 49, 32, 48, 32, 50, 10, 49, 32, 49, 48, 32, 50, 32, 53, 10]⟩ := by
  unfold prS
  rw [known_fit, if_pos rfl, known_pr]
theorem known_fe : fitE knL = 0 := by unfold fitE; rw [known_fit, if_pos rfl]
set_option maxRecDepth 100000 in
theorem known_any (w : World) : Calls Tryd.prog 35 #[] w fun e w' => ∃ g, e = .returned (.slice (some ⟨g, 0, none⟩) 4 4) ∧ NArg w' (some ⟨g, 0, none⟩) 4 knL ∧ Up w w' := by
  go_enter Tryd.func35, Tryd.ntmps35
  go_wp2
  go_ret
  have h := Go.heap_alloc_new w (.cells #[.int .u8 1, .int .i64 0, .int .i64 5, .int .i64 0, .int .u8 10, .int .i64 0, .int .i64 2, .int .i64 1, .int .u8 11, .int .i64 0, .int .i64 2, .int .i64 2, .int .u8 10, .int .i64 2, .int .i64 5, .int .i64 1] 40)
  refine ⟨w.heap.size, rfl, ⟨⟨rfl, fun i hi => ?_⟩, fun b e => ?_, known_ok⟩, Up.alloc w _⟩
  · have hi' : i < 4 := hi
    have : i = 0 ∨ i = 1 ∨ i = 2 ∨ i = 3 := by omega
    refine ⟨w.heap.size, 0, rfl, by rw [World.size_alloc]; omega, ?_⟩
    rcases this with rfl | rfl | rfl | rfl <;> exact ⟨cellOf h rfl, cellOf h rfl, cellOf h rfl, cellOf h rfl⟩
  · obtain rfl := Option.some.inj e
    rw [World.size_alloc]
    exact Nat.lt_succ_self _
set_option maxRecDepth 100000 in
set_option maxHeartbeats 4000000 in
theorem wakes_any (w : World) (hT : Tab w) : Calls Tryd.prog 11 #[] w fun e w' => e = .returned (.bool true) ∧ Up w w' := by
  have HT := Lib.hid hT
  have HK := Lib.hid (fun W => known_any W)
  have HA := Lib.hid (fun W g (h : NArg W (some ⟨g, 0, none⟩) 4 knL) => show Calls Tryd.prog 26 #[.slice (some ⟨g, 0, none⟩) 4 4, .int .i64 2] W fun e w' => e = .returned (.tuple #[.int .i64 2, .int .i64 0]) ∧ Up W w' from by
    have h1 := at_any W (some ⟨g, 0, none⟩) 4 4 knL h (by omega) (by omega) 2
    rw [known_at.1, known_at.2] at h1
    exact h1)
  have HP := Lib.hid (fun W g (hu : Up w W) (h : NArg W (some ⟨g, 0, none⟩) 4 knL) => show Calls Tryd.prog 28 #[.slice (some ⟨g, 0, none⟩) 4 4] W fun e w' => e = .returned (.tuple #[.string ⟨#[48, 32, 49, 32, 48, 32, 53, 10, 49, 32, 49, 48, 32, 48, 32, 50, 10, 50, 32, 49, 49, 32, 48, 32, 50, 10, 49, 32, 49, 48, 32, 50, 32, 53, 10]⟩, .int .i64 0]) ∧ Up W w' from by
    have h1 := print_any W (HT.out.up hu) (some ⟨g, 0, none⟩) 4 4 knL h (by omega) (by omega)
    rw [known_prS, known_fe] at h1
    exact h1)
  have HC5 := Lib.hid (fun W g (h : NArg W (some ⟨g, 0, none⟩) 4 knL) => show Calls Tryd.prog 12 #[.slice (some ⟨g, 0, none⟩) 4 4, .int .i64 5] W fun e w' => e = .returned (.int .i64 0) ∧ Up W w' from
    (check_any W (some ⟨g, 0, none⟩) 4 4 knL h (by omega) (by omega) 5 (by omega)).mono (by
      rintro e w' ⟨⟨z, rfl, hz⟩, hu⟩
      rcases hz with ⟨rfl, -⟩ | ⟨-, h2⟩
      · exact ⟨rfl, hu⟩
      · exact absurd known_is h2))
  have HC6 := Lib.hid (fun W g (h : NArg W (some ⟨g, 0, none⟩) 4 knL) => show Calls Tryd.prog 12 #[.slice (some ⟨g, 0, none⟩) 4 4, .int .i64 6] W fun e w' => e = .returned (.int .i64 60) ∧ Up W w' from
    (check_any W (some ⟨g, 0, none⟩) 4 4 knL h (by omega) (by omega) 6 (by omega)).mono (by
      rintro e w' ⟨⟨z, rfl, hz⟩, hu⟩
      rcases hz with ⟨-, h2⟩ | ⟨rfl, -⟩
      · exact absurd h2 known_not
      · exact ⟨rfl, hu⟩))
  have HU := Lib.hid (Up.refl w)
  clear hT
  go_enter Tryd.func11, Tryd.ntmps11
  go_wp2_with (first
    | (go_at_call 35; ((with_reducible refine (HK.out _).mono ?_); rintro e w1 ⟨g, rfl, hn, hu⟩; have HN := Lib.hid hn; have HU := Lib.hid (HU.out.trans hu); clear hn hu))
    | (go_at_call 26; ((with_reducible refine (HA.out _ _ HN.out).mono ?_); rintro e w1 ⟨rfl, hu⟩; have HU := Lib.hid (HU.out.trans hu); clear hu))
    | (go_at_call 28; ((with_reducible refine (HP.out _ _ HU.out HN.out).mono ?_); rintro e w1 ⟨rfl, hu⟩; have HU := Lib.hid (HU.out.trans hu); clear hu))
    | (go_at_call 12; ((with_reducible refine (HC5.out _ _ HN.out).mono ?_); rintro e w1 ⟨rfl, hu⟩; have HU := Lib.hid (HU.out.trans hu); clear hu))
    | (go_at_call 12; ((with_reducible refine (HC6.out _ _ HN.out).mono ?_); rintro e w1 ⟨rfl, hu⟩; have HU := Lib.hid (HU.out.trans hu); clear hu)))
  go_ret
  exact ⟨rfl, HU.out⟩
end Go.Proofs.YtidnldchdahgeaaDoor
