/- A loop over a function's values that never leaves early, where the function writes cells of its own (of kinds that the loop's body neither reads nor writes). -/
import Derived.RangeFuncNested
import Derived.RangeFuncBound
import Derived.RangeFuncCalls
import Derived.RangeFuncLeaves
import Derived.RangeFuncFrom
import Derived.Shelf.Abstract
import Derived.Shelf.AbstractIn
import Derived.Shelf.RegionOpen
import Derived.WalkKit
import Derived.OwnWalkIn
import Derived.TacticsInMore
import Derived.LoopNIn
import Derived.LoopIn
import Derived.Test.YthiiemjbigcinaaQC
namespace Go.Proofs.Ythiiemjbigcinaa
open Go.RowKit Go.Shelf
variable {F : Fence} {n : Nat} {P : Program} {w : World}

/-- What says the same when new blocks are laid, and when a block of such a kind, of B or above, is turned. -/
def Bears {β : Type} (Ty : Obj → Prop) (B : Nat) (J : β → World → Prop) : Prop :=
  ∀ s X Y row, J s X → X.grownBy Y row → (∀ r, row = some r → B ≤ r ∧ ∃ o : Obj, X.heap[r]? = some o ∧ Ty o) → J s Y
/-- A function's values, one after another, all of them: for whatever round goes on and keeps what the function stands on. -/
def Tells {α : Type} (F : Fence) (n : Nat) (P : Program) (g : Nat) (lb : Array Value) (encs : α → Array Value) (Kp : World → World → Prop) (Ty : Obj → Prop) (xs : List α) (w : World) : Prop :=
  ∀ (l : Nat) (J : List α → World → Prop) (W : World), Below w.heap.size w W → Bears Ty W.heap.size J →
    (∀ pre x X, J pre X → pre ++ [x] <+: xs → YieldAt F (n - 1) P l (encs x) X fun e Y => e = .returned (.bool true) ∧ J (pre ++ [x]) Y ∧ Kp X Y) →
    J [] W → CallsIn F n P g (#[.func (.yield l) #[] #[]] ++ lb) W fun e Y => (∃ v, e = .returned v) ∧ J xs Y

/-- The loop's two blocks: what is to be done behind it, and the loop's own. -/
theorem range_tells {α : Type} {g : Operand} {ps : Array Tmp} {assign body : Code} {Q : Exit → Act → World → Prop} {a : Act}
    (hro : F.round = none) (h1 : 1 ≤ n) {gf : Nat} {lb : Array Value} (hg : a.eval g = .func (.func gf) #[] lb) (hFg : F.fn gf) (eg : ∀ args w, (callFunc gf args).run P w = .ok (.enter gf args) w)
    {encs : α → Array Value} {Kp : World → World → Prop} {Ty : Obj → Prop} {xs : List α} (hseq : Tells F (n - 1) P gf lb encs Kp Ty xs w) (hTy : ∀ o, Ty o → o.isCells = true)
    (hKt : ∀ {A B C : World}, Kp A B → Kp B C → Kp A C) (hKb : ∀ (W : World) (l : Nat) (o o' : Obj), W.heap[l]? = some o → o.isCells = false → Kp W (W.putObj l o')) (hps : ∀ x, (encs x).size = ps.size)
    (I : List α → World → Prop) (hI : Bears (fun o => o.isCells = false ∨ Ty o) w.heap.size I) (h0 : I [] w) (a₁ : α → Act)
    (hassign : ∀ (l : Nat) (x : α) (W : World) (K : Act → World → Prop), K (a₁ x) W →
      assign.wpIn (F.inRound l) (n - 1 - 1) P (Exit.then K (fun _ _ _ => False)) { tmps := (ps.zip (encs x)).foldl (fun t (p, v) => t.setIfInBounds p v) a.tmps, defers := [] } W)
    (hbody : ∀ (l : Nat) (pre : List α) (x : α) (W : World), I pre W → pre ++ [x] <+: xs → body.wpIn (F.inRound l) (n - 1 - 1) P (ownPostK Kp I (fun _ _ _ => False) (pre ++ [x]) W) (a₁ x) W)
    (hdone : ∀ (D : Nat) (W : World), w.heap.size ≤ D → I xs W → W.heap[D]? = some (.deferred (some [])) → Q .normal { a with defers := { target := .collected D, args := #[] } :: a.defers } W) :
    (Code.rangeFunc g ps assign body).wpIn F n P Q a w := by
  refine wpIn_rangeFunc ?_
  intro fn hfn
  rw [hro]
  obtain ⟨B, hB⟩ : ∃ B, w.heap.size = B := ⟨_, rfl⟩
  obtain ⟨rc, hrc⟩ : ∃ rc : LoopState → Option Code → Loop, rc = fun st pe => { state := st, pending := pe, fn, tmps := a.tmps, params := ps, assign, body, defers := B } := ⟨_, rfl⟩
  have kept : ∀ {X Y : World} {row : Option Nat} {j : Nat} {o : Obj}, X.grownBy Y row → (∀ r, row = some r → B + 2 ≤ r ∧ ∃ o : Obj, X.heap[r]? = some o ∧ Ty o) → o.isCells = false → X.heap[j]? = some o → Y.heap[j]? = some o := by
    intro X Y row j o hg hr ho hj
    refine (hg.block j (Array.getElem?_eq_some_iff.1 hj).1 (fun e => ?_)).trans hj
    obtain ⟨-, o2, h2, h3⟩ := hr j e.symm
    rw [hj] at h2
    cases h2
    rw [hTy _ h3] at ho
    cases ho
  obtain ⟨W1, hW1⟩ : ∃ W1, (w.alloc (.deferred (some []))).alloc (.loop (rc .ready none)) = W1 := ⟨_, rfl⟩
  have hsz : W1.heap.size = B + 2 := by rw [← hW1, ← hB]; simp
  have hL1 : W1.heap[B + 1]? = some (.loop (rc .ready none)) := by
    rw [← hW1, ← hB]
    have := World.alloc_heap_new (w.alloc (.deferred (some []))) (.loop (rc .ready none))
    rwa [World.size_alloc] at this
  have hK1 : W1.heap[B]? = some (.deferred (some [])) := by
    rw [← hW1, ← hB]
    exact (Below.heap_alloc _ _ _ (by simp)).trans (World.alloc_heap_new w _)
  have lay : ∀ {s : List α} {X : World} (o : Obj), I s X → I s (X.alloc o) := fun o h => hI _ _ _ none h (World.grownBy_alloc _ o none) (fun r e => by cases e)
  have put : ∀ {s : List α} {X : World} {j : Nat} {o : Obj} (o' : Obj), I s X → B ≤ j → X.heap[j]? = some o → o.isCells = false → I s (X.putObj j o') := fun o' h hj ho hc =>
    hI _ _ _ _ h (grownBy_putObj' _ _ o') (fun r e => by cases e; exact ⟨by omega, _, ho, .inl hc⟩)
  have hI1 : I [] W1 := by rw [← hW1]; exact lay _ (lay _ h0)
  have hb1 : Below w.heap.size w W1 := by
    rw [← hW1]
    exact ((Below.refl _ w).alloc (Nat.le_refl _) _).alloc (by simp) _
  refine ⟨B + 1, [{ target := .collected B, args := #[] }], W1, { target := .fn (.func gf) lb, args := #[.func (.yield (B + 1)) #[] #[]] }, W1, gf, #[.func (.yield (B + 1)) #[] #[]] ++ lb, W1, ?_, ?_, ?_, ?_, fun _ => h1, ?_⟩
  · rw [← hW1, hrc, ← hB]
    exact run_enterLoop_outer _ _ _ _ _
  · simp only [resolve, hg]
    simp [go_sem]
  · intro f' hf'
    simp [Target.leads] at hf'
    subst hf'
    exact hFg
  · simp [invoke, go_sem, eg]
  refine (hseq (B + 1) (fun pre W => I pre W ∧ W.heap[B + 1]? = some (.loop (rc .ready none)) ∧ W.heap[B]? = some (.deferred (some []))) W1 hb1
    (fun s X Y row hs hg' hr => ⟨hI s X Y row hs.1 hg' (fun r e => ⟨by have := (hr r e).1; omega, (hr r e).2.imp fun o h => ⟨h.1, .inr h.2⟩⟩), kept hg' (fun r e => ⟨by have := (hr r e).1; omega, (hr r e).2⟩) rfl hs.2.1, kept hg' (fun r e => ⟨by have := (hr r e).1; omega, (hr r e).2⟩) rfl hs.2.2⟩)
    ?_ ⟨hI1, hL1, hK1⟩).mono ?_
  · -- a round
    rintro pre x W ⟨hi, hl, hk⟩ hpre
    have hlt : B + 1 < W.heap.size := (Array.getElem?_eq_some_iff.1 hl).1
    have hy := run_yield (P := P) (args := encs x) hl (by rw [hrc]; exact hps x)
    rw [hrc] at hy
    refine ⟨fn, _, assign, body, hy, roundIn_of_wpIn hfn (hassign _ x W _ ?_)⟩
    refine ⟨_, run_beginRound hl (by rw [hrc]), ?_⟩
    have hl2 : (W.putObj (B + 1) (.loop { rc .ready none with state := .busy })).heap[B + 1]? = some (.loop { rc .ready none with state := .busy }) := World.putObj_heap_same hlt
    have hk2 : (W.putObj (B + 1) (.loop { rc .ready none with state := .busy })).heap[B]? = some (.deferred (some [])) := (World.putObj_heap_other (by omega)).trans hk
    have hw2 : Kp W (W.putObj (B + 1) (.loop { rc .ready none with state := .busy })) := hKb _ _ _ _ hl rfl
    refine wpIn_mono (hbody _ pre x _ (put _ hi (by omega) hl rfl) hpre) ?_
    rintro e a3 W3 hp
    cases e with
    | normal =>
      obtain ⟨hk3, hkp3, hi3⟩ := hp
      have hl3 := (hk3.same _ _ hl2 rfl)
      have hr := run_endRound (P := P) none hl3
      rw [hrc] at hr
      refine ⟨_, _, hr, rfl, ⟨put _ hi3 (by omega) hl3 rfl, ?_, ?_⟩, hKt (hKt hw2 hkp3) (hKb _ _ _ _ hl3 rfl)⟩
      · rw [hrc]
        exact World.putObj_heap_same (Array.getElem?_eq_some_iff.1 hl3).1
      · exact (World.putObj_heap_other (by omega)).trans (hk3.same _ _ hk2 rfl)
    | ret => exact hp.2.elim
    | exit id => exact hp.2.elim
    | goto t => exact hp.2.elim
    | panic ch => exact hp.elim
    | outgrown => exact hp.elim
  · -- behind all
    rintro e W2 ⟨⟨v, rfl⟩, hi, hl, hk⟩
    exact ⟨none, _, by have := run_endLoop (P := P) hl (by rw [hrc]; simp); rw [hrc] at this; exact this, hdone _ _ (by omega) (put _ hi (by omega) hl rfl) ((World.putObj_heap_other (by omega)).trans hk)⟩
/-- What a round keeps: all cells of the blocks of such a kind. -/
def KpS (S : Nat → Prop) (X Y : World) : Prop := ∀ b, S b → ∀ (cs : Array Value) (t : TypeId) (fr : Nat × Nat), X.heap[b]? = some (Obj.cells cs t fr) → Y.heap[b]? = some (Obj.cells cs t fr)
theorem kpS_t {S : Nat → Prop} {A B C : World} (h : KpS S A B) (k : KpS S B C) : KpS S A C := fun b hb cs t fr e => k b hb cs t fr (h b hb cs t fr e)
theorem kpS_b {S : Nat → Prop} (W : World) (l : Nat) (o o' : Obj) (hl : W.heap[l]? = some o) (ho : o.isCells = false) : KpS S W (W.putObj l o') := fun b _ cs t fr e => by
  refine (World.putObj_heap_other (fun h => ?_)).trans e
  subst h
  rw [hl] at e
  cases e
  cases ho
theorem kpS_up {S : Nat → Prop} {X Y : World} (hu : Up X Y) : KpS S X Y := fun b _ _ _ _ e => (Below.block hu b (Array.getElem?_eq_some_iff.1 e).1).trans e
theorem kpS_grown {S : Nat → Prop} {X Y : World} {row : Option Nat} (hg : X.grownBy Y row) (hr : ∀ r, row = some r → ¬ S r) : KpS S X Y := fun b hb _ _ _ e =>
  (hg.block b (Array.getElem?_eq_some_iff.1 e).1 (fun h => hr b h.symm hb)).trans e
theorem cell_block {W : World} {b o : Nat} {v : Value} (h : W.cell? ⟨b, o, none⟩ = some v) : ∃ (cs : Array Value) (t : TypeId) (fr : Nat × Nat), W.heap[b]? = some (Obj.cells cs t fr) := by
  unfold World.cell? at h
  split at h
  · rename_i cs t fr hb
    exact ⟨_, _, _, hb⟩
  · cases h
theorem kpS_cell {S : Nat → Prop} {X Y : World} (hk : KpS S X Y) {b o : Nat} {v : Value} (hb : S b) (h : X.cell? ⟨b, o, none⟩ = some v) : Y.cell? ⟨b, o, none⟩ = some v := by
  obtain ⟨cs, t, fr, e⟩ := cell_block h
  exact (World.cell?_of_block ((hk b hb cs t fr e).trans e.symm)).trans h
theorem no_cells (o : Obj) (h : (fun _ : Obj => False) o) : o.isCells = true := h.elim
/-- A loop over a function that has nothing to tell: whatever the loop's body is. -/
theorem range_none {α : Type} {g : Operand} {ps : Array Tmp} {body : Code} {Q : Exit → Act → World → Prop} {a : Act}
    (hro : F.round = none) (h1 : 1 ≤ n) {gf : Nat} {lb : Array Value} (hg : a.eval g = .func (.func gf) #[] lb) (hFg : F.fn gf) (eg : ∀ args w, (callFunc gf args).run P w = .ok (.enter gf args) w)
    {encs : α → Array Value} (hseq : Tells F (n - 1) P gf lb encs (fun _ _ => True) (fun _ => False) [] w) (hps : ∀ x, (encs x).size = ps.size)
    (I : World → Prop) (hI : Bears (fun o => o.isCells = false ∨ False) w.heap.size (fun (_ : List α) => I)) (h0 : I w)
    (hdone : ∀ (D : Nat) (W : World), w.heap.size ≤ D → I W → W.heap[D]? = some (.deferred (some [])) → Q .normal { a with defers := { target := .collected D, args := #[] } :: a.defers } W) :
    (Code.rangeFunc g ps .skip body).wpIn F n P Q a w :=
  range_tells hro h1 hg hFg eg hseq no_cells (fun _ _ => trivial) (fun _ _ _ _ _ _ => trivial) hps (fun _ => I) hI h0
    (fun x => { tmps := (ps.zip (encs x)).foldl (fun t (p, v) => t.setIfInBounds p v) a.tmps, defers := [] }) (fun _ _ _ _ h => wpIn_skip h)
    (fun _ _ _ _ _ h => absurd (List.prefix_nil.1 h) (by simp)) hdone
/-- What All hands a round: the number, the item. -/
abbrev encA (x : Nat × ByteArray) : Array Value := #[.int .i64 (x.1 : Nat), .string x.2]
end Go.Proofs.Ythiiemjbigcinaa
