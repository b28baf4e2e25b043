/- A tree that is known: the statements' wakes. -/
import Derived.Test.YtkkefgbmdghklaaBDone2
import Derived.Test.YtkkefgbmdghklaaTSame
namespace Go.Proofs.Ytkkefgbmdghklaa
open Go.RowKit

/-- Put, where the builder stands in blocks of G, in which the events do not lie. -/
theorem put_at (w : World) (bb : Nat) (G : Nat → Prop) (k : Int) (b : Bs) (hb : BAt w bb G k b) (hok : BOk b) (A : Option Addr) (n c : Nat) (L : List Ev) (hL : Evs w A n L) (hc : n ≤ c) (hA : ∀ a, A = some a → 0 < n → a.block < w.heap.size → ¬ G a.block) (hev : ∀ e ∈ L, EvOk e)
    (hn : b.N.length + n ≤ 1000000) (at_ : Int) :
    Calls Try.prog 8 #[.pointer (some ⟨bb, 0, none⟩), .slice A n c, .int .i64 at_] w fun e w' => e = .returned (.int .i64 (putE at_ b L)) ∧ BAt w' bb (fun i => G i ∨ w.heap.size ≤ i) k (putB at_ b L) ∧ Turn G w w' := by
  refine (put_full w bb (fun i => G i ∨ w.heap.size ≤ i) k b (hb.mono (fun i _ h => .inl h)) (fun i h => .inr h) hok A n c L hL hc (fun a e h0 h1 h2 => ?_) hev hn at_).mono ?_
  · rcases h2 with h2 | h2
    · exact hA a e h0 h1 h2
    · omega
  · rintro e w' ⟨h1, h2, h3⟩
    exact ⟨h1, h2, h3.mono (fun i hi h => by rcases h with h | h; exact h; omega)⟩
/-- A builder that stands in blocks of B or above. -/
def BUp (w : World) (bb B : Nat) (k : Int) (b : Bs) : Prop := BAt w bb (fun i => B ≤ i) k b
/-- Put, of events that lie in a block that the builder does not stand in. -/
theorem put_up (w W : World) (bb B : Nat) (k : Int) (b : Bs) (hb : BUp w bb B k b) (hok : BOk b) (hu : Up w W) (hB : B ≤ w.heap.size) (A : Option Addr) (n c : Nat) (L : List Ev) (hL : Evs W A n L) (hc : n ≤ c) (hA : ∀ a, A = some a → 0 < n → a.block < B ∨ w.heap.size ≤ a.block) (hev : ∀ e ∈ L, EvOk e)
    (hn : b.N.length + n ≤ 1000000) (at_ : Int) :
    Calls Try.prog 8 #[.pointer (some ⟨bb, 0, none⟩), .slice A n c, .int .i64 at_] W fun e w' => e = .returned (.int .i64 (putE at_ b L)) ∧ BUp w' bb B k (putB at_ b L) ∧ Turn (fun i => B ≤ i ∧ i < w.heap.size) W w' := by
  refine (put_at W bb (fun i => B ≤ i ∧ i < w.heap.size) k b (hb.cap.up hu) hok A n c L hL hc (fun a e h0 _ h2 => by have := hA a e h0; omega) hev hn at_).mono ?_
  rintro e w' ⟨h1, h2, h3⟩
  refine ⟨h1, h2.mono (fun i _ h => ?_), h3⟩
  have := Below.size hu
  rcases h with h | h
  · exact h.1
  · omega
theorem Up.trans' {w W W' : World} {G : Nat → Prop} (hu : Up w W) (ht : Turn G W W') (hG : ∀ i, G i → w.heap.size ≤ i) : Up w W' := Below.trans hu (ht.below (Below.size hu) hG)
theorem evs_lit (w : World) (L : List Ev) : Evs (w.alloc (.cells (evCells L).toArray 42)) (some ⟨w.heap.size, 0, none⟩) L.length L := by
  have hn := Go.heap_alloc_new w (.cells (evCells L).toArray 42)
  refine ⟨rfl, fun i hi => ⟨w.heap.size, 0, rfl, by simp, ?_⟩⟩
  obtain ⟨h1, h2, h3, h4⟩ := evCells_at L i hi
  refine ⟨cellOf hn ?_, cellOf hn ?_, cellOf hn ?_, cellOf hn ?_⟩
  · rw [Nat.zero_add, List.getElem?_toArray]; exact h1
  · rw [Nat.zero_add, List.getElem?_toArray]; exact h2
  · rw [Nat.zero_add, List.getElem?_toArray]; exact h3
  · rw [Nat.zero_add, List.getElem?_toArray]; exact h4
theorem nds_lit (w : World) (L : List Nd) : Nds (w.alloc (.cells (ndCells L).toArray 46)) (some ⟨w.heap.size, 0, none⟩) L.length L := by
  have hn := Go.heap_alloc_new w (.cells (ndCells L).toArray 46)
  refine ⟨rfl, fun i hi => ⟨w.heap.size, 0, rfl, by simp, ?_⟩⟩
  obtain ⟨h1, h2, h3, h4⟩ := ndCells_at L i hi
  refine ⟨cellOf hn ?_, cellOf hn ?_, cellOf hn ?_, cellOf hn ?_⟩
  · rw [Nat.zero_add, List.getElem?_toArray]; exact h1
  · rw [Nat.zero_add, List.getElem?_toArray]; exact h2
  · rw [Nat.zero_add, List.getElem?_toArray]; exact h3
  · rw [Nat.zero_add, List.getElem?_toArray]; exact h4
def wkA : List Ev := [(1, 10, 0, 0), (3, 11, 0, 2)]
def wkB : List Ev := [(2, 0, 1, 0)]
def wkS1 : Bs := ⟨[(10, 0, 0, 1), (11, 0, 2, 2)], [0], 2⟩
def wkS2 : Bs := ⟨[(10, 0, 3, 1), (11, 0, 2, 2)], [], 3⟩
theorem wkA_ok : ∀ e ∈ wkA, EvOk e := by
  intro e h
  rcases List.mem_cons.1 h with rfl | h
  · exact ⟨by decide, by decide, by decide, by decide⟩
  rcases List.mem_cons.1 h with rfl | h
  · exact ⟨by decide, by decide, by decide, by decide⟩
  · cases h
theorem wkB_ok : ∀ e ∈ wkB, EvOk e := by
  intro e h
  rcases List.mem_cons.1 h with rfl | h
  · exact ⟨by decide, by decide, by decide, by decide⟩
  · cases h
theorem wk_e1 : putE 0 Bs.new wkA = 0 := by decide
theorem wk_b1 : putB 0 Bs.new wkA = wkS1 := by rfl
theorem wk_e2 : putE 2 wkS1 wkB = 0 := by decide
theorem wk_b2 : putB 2 wkS1 wkB = wkS2 := by rfl
theorem wk_told : told 1 5 wkS2 = [(1, 0, 5, 0), (10, 0, 3, 1), (11, 0, 2, 2)] := by rfl
theorem wk_ok1 : BOk wkS1 := wk_b1 ▸ BOk.new.put wkA_ok
theorem wk_ok2 : BOk wkS2 := wk_b2 ▸ wk_ok1.put wkB_ok
theorem wk_put1 (w w1 : World) (hu : Up w w1) (hb : BUp w1 w.heap.size w.heap.size 1 Bs.new) : Calls Try.prog 8 #[.pointer (some ⟨w.heap.size, 0, none⟩), .slice (some ⟨w1.heap.size, 0, none⟩) 2 2, .int .i64 0] (w1.alloc (.cells #[.int .u8 1, .int .u8 10, .int .i64 0, .int .i64 0, .int .u8 3, .int .u8 11, .int .i64 0, .int .i64 2] 42)) fun e w' =>
    e = .returned (.int .i64 0) ∧ BUp w' w.heap.size w.heap.size 1 wkS1 ∧ Up w w' := by
  refine (put_up w1 _ w.heap.size w.heap.size 1 Bs.new hb BOk.new (Up.alloc w1 (.cells (evCells wkA).toArray 42)) (Below.size hu) (some ⟨w1.heap.size, 0, none⟩) 2 2 wkA (evs_lit w1 wkA) (Nat.le_refl _) (fun a e _ => by injection e with e; subst e; exact .inr (Nat.le_refl _)) wkA_ok (by decide) 0).mono ?_
  rw [wk_e1, wk_b1]
  rintro e w2 ⟨rfl, hb2, ht2⟩
  exact ⟨rfl, hb2, (hu.trans (Up.alloc _ _)).trans' ht2 (fun i h => h.1)⟩
theorem wk_put2 (w w2 : World) (hu : Up w w2) (hb : BUp w2 w.heap.size w.heap.size 1 wkS1) : Calls Try.prog 8 #[.pointer (some ⟨w.heap.size, 0, none⟩), .slice (some ⟨w2.heap.size, 0, none⟩) 1 1, .int .i64 2] (w2.alloc (.cells #[.int .u8 2, .int .u8 0, .int .i64 1, .int .i64 0] 42)) fun e w' =>
    e = .returned (.int .i64 0) ∧ BUp w' w.heap.size w.heap.size 1 wkS2 ∧ Up w w' := by
  refine (put_up w2 _ w.heap.size w.heap.size 1 wkS1 hb wk_ok1 (Up.alloc w2 (.cells (evCells wkB).toArray 42)) (Below.size hu) (some ⟨w2.heap.size, 0, none⟩) 1 1 wkB (evs_lit w2 wkB) (Nat.le_refl _) (fun a e _ => by injection e with e; subst e; exact .inr (Nat.le_refl _)) wkB_ok (by decide) 2).mono ?_
  rw [wk_e2, wk_b2]
  rintro e w3 ⟨rfl, hb3, ht3⟩
  exact ⟨rfl, hb3, (hu.trans (Up.alloc _ _)).trans' ht3 (fun i h => h.1)⟩
theorem wk_done (w : World) (bb B : Nat) (h : BUp w bb B 1 wkS2) : Calls Try.prog 7 #[.pointer (some ⟨bb, 0, none⟩), .int .i64 5] w fun e w' => ∃ g c, e = .returned (.tuple #[.slice (some ⟨g, 0, none⟩) 3 c, .int .i64 0]) ∧ RowN w' w.heap.size (.slice (some ⟨g, 0, none⟩) 3 c) (told 1 5 wkS2) ∧ Up w w' :=
  done_any w bb _ 1 wkS2 h wk_ok2 (by decide) 5 (by decide)
theorem wk_same (w4 : World) (g4 c4 : Nat) (B : Nat) (h : RowN w4 B (.slice (some ⟨g4, 0, none⟩) 3 c4) (told 1 5 wkS2)) : Calls Try.prog 16 #[.slice (some ⟨g4, 0, none⟩) 3 c4, .slice (some ⟨w4.heap.size, 0, none⟩) 3 3] (w4.alloc (.cells #[.int .u8 1, .int .i64 0, .int .i64 5, .int .i64 0, .int .u8 10, .int .i64 0, .int .i64 3, .int .i64 1, .int .u8 11, .int .i64 0, .int .i64 2, .int .i64 2] 46)) fun e w' => e = .returned (.bool true) ∧ Up (w4.alloc (.cells #[.int .u8 1, .int .i64 0, .int .i64 5, .int .i64 0, .int .u8 10, .int .i64 0, .int .i64 3, .int .i64 1, .int .u8 11, .int .i64 0, .int .i64 2, .int .i64 2] 46)) w' := by
  rw [wk_told] at h
  exact refSame_any _ (some ⟨g4, 0, none⟩) (some ⟨w4.heap.size, 0, none⟩) 3 c4 3 _ ((RowN.nds h).1.up (Up.alloc _ _)) (nds_lit w4 [(1, 0, 5, 0), (10, 0, 3, 1), (11, 0, 2, 2)]) (by decide)
set_option maxRecDepth 100000 in
set_option maxHeartbeats 2000000 in
theorem wakes_any (w : World) : Calls Try.prog 11 #[] w fun e w' => e = .returned (.bool true) ∧ Up w w' := by
  have HN := Lib.hid (new_any w 1)
  go_enter Try.func11, Try.ntmps11
  go_wp2_with (first
    | (go_at_call 13; ((with_reducible refine HN.out.mono ?_); rintro e w1 ⟨rfl, hb1, hu1, hs1⟩; have HP1 := Lib.hid (wk_put1 w w1 hu1 (hb1.mono (fun i _ h => Nat.le_of_eq h.symm))); clear hb1 hu1 hs1))
    | (go_at_call 8; ((with_reducible refine HP1.out.mono ?_); rintro e w2 ⟨rfl, hb2, hu2⟩; have HP2 := Lib.hid (wk_put2 w w2 hu2 hb2); clear hb2 hu2))
    | (go_at_call 8; ((with_reducible refine HP2.out.mono ?_); rintro e w3 ⟨rfl, hb3, hu3⟩; have HU3 := Lib.hid hu3; have HB3 := Lib.hid hb3; have HD := Lib.hid (wk_done w3 _ _ hb3); clear hb3 hu3))
    | (go_at_call 7; ((with_reducible refine HD.out.mono ?_); rintro e w4 ⟨g4, c4, rfl, hr4, hu4⟩; have HU4 := Lib.hid hu4; have HSm := Lib.hid (wk_same w4 g4 c4 _ hr4); have HB4 := Lib.hid (BAt.up HB3.out hu4); clear hr4 hu4))
    | (go_at_call 16; ((with_reducible refine HSm.out.mono ?_); rintro e w5 ⟨rfl, hu5⟩; have HU5 := Lib.hid ((Up.alloc _ _).trans hu5); have HO := Lib.hid (open_any w5 _ _ _ _ (BAt.up HB4.out HU5.out)); have HFr := Lib.hid (far_any w5 _ _ _ _ (BAt.up HB4.out HU5.out)); clear hu5))
    | (go_at_call 9; ((with_reducible refine HO.out.mono ?_); rintro e w6 ⟨rfl, rfl⟩))
    | (go_at_call 10; ((with_reducible refine HFr.out.mono ?_); rintro e w7 ⟨rfl, rfl⟩)))
  go_ret
  exact ⟨rfl, HU3.out.trans (HU4.out.trans HU5.out)⟩
end Go.Proofs.Ytkkefgbmdghklaa
