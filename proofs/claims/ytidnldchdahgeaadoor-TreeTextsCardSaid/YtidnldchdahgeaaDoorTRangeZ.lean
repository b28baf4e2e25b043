/- A loop over a function that tells besides how it ended. -/
import Derived.Test.YtidnldchdahgeaaDoorTRange
namespace Go.Proofs.YtidnldchdahgeaaDoor
open Go.RowKit Go.Shelf
variable {F : Fence} {n : Nat} {P : Program} {w : World}

/-- A function's values, one after another, all of them: for whatever round goes on and keeps what the function stands on. -/
def TellsZ {α : Type} (F : Fence) (n : Nat) (P : Program) (g : Nat) (lb : Array Value) (encs : α → Array Value) (Kp : World → World → Prop) (Ty : Obj → Prop) (xs : List α) (Z : World → Prop) (w : World) : Prop :=
  ∀ (l : Nat) (J : List α → World → Prop) (W : World), Below w.heap.size w W → Bears Ty W.heap.size J →
    (∀ pre x X, J pre X → pre ++ [x] <+: xs → YieldAt F (n - 1) P l (encs x) X fun e Y => e = .returned (.bool true) ∧ J (pre ++ [x]) Y ∧ Kp X Y) →
    J [] W → CallsIn F n P g (#[.func (.yield l) #[] #[]] ++ lb) W fun e Y => (∃ v, e = .returned v) ∧ J xs Y ∧ Z Y

/-- The loop's two blocks: what is to be done behind it, and the loop's own. -/
theorem range_tellsZ {α : Type} {g : Operand} {ps : Array Tmp} {assign body : Code} {Q : Exit → Act → World → Prop} {a : Act}
    (hro : F.round = none) (h1 : 1 ≤ n) {gf : Nat} {lb : Array Value} (hg : a.eval g = .func (.func gf) #[] lb) (hFg : F.fn gf) (eg : ∀ args w, (callFunc gf args).run P w = .ok (.enter gf args) w)
    {encs : α → Array Value} {Kp : World → World → Prop} {Ty : Obj → Prop} {xs : List α} {Z : World → Prop} (hZ : ∀ (W : World) (j : Nat) (o o' : Obj), W.heap[j]? = some o → o.isCells = false → Z W → Z (W.putObj j o')) (hseq : TellsZ F (n - 1) P gf lb encs Kp Ty xs Z w) (hTy : ∀ o, Ty o → o.isCells = true)
    (hKt : ∀ {A B C : World}, Kp A B → Kp B C → Kp A C) (hKb : ∀ (W : World) (l : Nat) (o o' : Obj), W.heap[l]? = some o → o.isCells = false → Kp W (W.putObj l o')) (hps : ∀ x, (encs x).size = ps.size)
    (I : List α → World → Prop) (hI : Bears (fun o => o.isCells = false ∨ Ty o) w.heap.size I) (h0 : I [] w) (a₁ : α → Act)
    (hassign : ∀ (l : Nat) (x : α) (W : World) (K : Act → World → Prop), K (a₁ x) W →
      assign.wpIn (F.inRound l) (n - 1 - 1) P (Exit.then K (fun _ _ _ => False)) { tmps := (ps.zip (encs x)).foldl (fun t (p, v) => t.setIfInBounds p v) a.tmps, defers := [] } W)
    (hbody : ∀ (l : Nat) (pre : List α) (x : α) (W : World), I pre W → pre ++ [x] <+: xs → body.wpIn (F.inRound l) (n - 1 - 1) P (ownPostK Kp I (fun _ _ _ => False) (pre ++ [x]) W) (a₁ x) W)
    (hdone : ∀ (D : Nat) (W : World), w.heap.size ≤ D → I xs W → Z W → W.heap[D]? = some (.deferred (some [])) → Q .normal { a with defers := { target := .collected D, args := #[] } :: a.defers } W) :
    (Code.rangeFunc g ps assign body).wpIn F n P Q a w := by
  refine wpIn_rangeFunc ?_
  intro fn hfn
  rw [hro]
  obtain ⟨B, hB⟩ : ∃ B, w.heap.size = B := ⟨_, rfl⟩
  obtain ⟨rc, hrc⟩ : ∃ rc : LoopState → Option Code → Loop, rc = fun st pe => { state := st, pending := pe, fn, tmps := a.tmps, params := ps, assign, body, defers := B } := ⟨_, rfl⟩
  have kept : ∀ {X Y : World} {row : Option Nat} {j : Nat} {o : Obj}, X.grownBy Y row → (∀ r, row = some r → B + 2 ≤ r ∧ ∃ o : Obj, X.heap[r]? = some o ∧ Ty o) → o.isCells = false → X.heap[j]? = some o → Y.heap[j]? = some o := by
    intro X Y row j o hg hr ho hj
    refine (hg.block j (Array.getElem?_eq_some_iff.1 hj).1 (fun e => ?_)).trans hj
    obtain ⟨-, o2, h2, h3⟩ := hr j e.symm
    rw [hj] at h2
    cases h2
    rw [hTy _ h3] at ho
    cases ho
  obtain ⟨W1, hW1⟩ : ∃ W1, (w.alloc (.deferred (some []))).alloc (.loop (rc .ready none)) = W1 := ⟨_, rfl⟩
  have hsz : W1.heap.size = B + 2 := by rw [← hW1, ← hB]; simp
  have hL1 : W1.heap[B + 1]? = some (.loop (rc .ready none)) := by
    rw [← hW1, ← hB]
    have := World.alloc_heap_new (w.alloc (.deferred (some []))) (.loop (rc .ready none))
    rwa [World.size_alloc] at this
  have hK1 : W1.heap[B]? = some (.deferred (some [])) := by
    rw [← hW1, ← hB]
    exact (Below.heap_alloc _ _ _ (by simp)).trans (World.alloc_heap_new w _)
  have lay : ∀ {s : List α} {X : World} (o : Obj), I s X → I s (X.alloc o) := fun o h => hI _ _ _ none h (World.grownBy_alloc _ o none) (fun r e => by cases e)
  have put : ∀ {s : List α} {X : World} {j : Nat} {o : Obj} (o' : Obj), I s X → B ≤ j → X.heap[j]? = some o → o.isCells = false → I s (X.putObj j o') := fun o' h hj ho hc =>
    hI _ _ _ _ h (grownBy_putObj' _ _ o') (fun r e => by cases e; exact ⟨by omega, _, ho, .inl hc⟩)
  have hI1 : I [] W1 := by rw [← hW1]; exact lay _ (lay _ h0)
  have hb1 : Below w.heap.size w W1 := by
    rw [← hW1]
    exact ((Below.refl _ w).alloc (Nat.le_refl _) _).alloc (by simp) _
  refine ⟨B + 1, [{ target := .collected B, args := #[] }], W1, { target := .fn (.func gf) lb, args := #[.func (.yield (B + 1)) #[] #[]] }, W1, gf, #[.func (.yield (B + 1)) #[] #[]] ++ lb, W1, ?_, ?_, ?_, ?_, fun _ => h1, ?_⟩
  · rw [← hW1, hrc, ← hB]
    exact run_enterLoop_outer _ _ _ _ _
  · simp only [resolve, hg]
    simp [go_sem]
  · intro f' hf'
    simp [Target.leads] at hf'
    subst hf'
    exact hFg
  · simp [invoke, go_sem, eg]
  refine (hseq (B + 1) (fun pre W => I pre W ∧ W.heap[B + 1]? = some (.loop (rc .ready none)) ∧ W.heap[B]? = some (.deferred (some []))) W1 hb1
    (fun s X Y row hs hg' hr => ⟨hI s X Y row hs.1 hg' (fun r e => ⟨by have := (hr r e).1; omega, (hr r e).2.imp fun o h => ⟨h.1, .inr h.2⟩⟩), kept hg' (fun r e => ⟨by have := (hr r e).1; omega, (hr r e).2⟩) rfl hs.2.1, kept hg' (fun r e => ⟨by have := (hr r e).1; omega, (hr r e).2⟩) rfl hs.2.2⟩)
    ?_ ⟨hI1, hL1, hK1⟩).mono ?_
  · -- a round
    rintro pre x W ⟨hi, hl, hk⟩ hpre
    have hlt : B + 1 < W.heap.size := (Array.getElem?_eq_some_iff.1 hl).1
    have hy := run_yield (P := P) (args := encs x) hl (by rw [hrc]; exact hps x)
    rw [hrc] at hy
    refine ⟨fn, _, assign, body, hy, roundIn_of_wpIn hfn (hassign _ x W _ ?_)⟩
    refine ⟨_, run_beginRound hl (by rw [hrc]), ?_⟩
    have hl2 : (W.putObj (B + 1) (.loop { rc .ready none with state := .busy })).heap[B + 1]? = some (.loop { rc .ready none with state := .busy }) := World.putObj_heap_same hlt
    have hk2 : (W.putObj (B + 1) (.loop { rc .ready none with state := .busy })).heap[B]? = some (.deferred (some [])) := (World.putObj_heap_other (by omega)).trans hk
    have hw2 : Kp W (W.putObj (B + 1) (.loop { rc .ready none with state := .busy })) := hKb _ _ _ _ hl rfl
    refine wpIn_mono (hbody _ pre x _ (put _ hi (by omega) hl rfl) hpre) ?_
    rintro e a3 W3 hp
    cases e with
    | normal =>
      obtain ⟨hk3, hkp3, hi3⟩ := hp
      have hl3 := (hk3.same _ _ hl2 rfl)
      have hr := run_endRound (P := P) none hl3
      rw [hrc] at hr
      refine ⟨_, _, hr, rfl, ⟨put _ hi3 (by omega) hl3 rfl, ?_, ?_⟩, hKt (hKt hw2 hkp3) (hKb _ _ _ _ hl3 rfl)⟩
      · rw [hrc]
        exact World.putObj_heap_same (Array.getElem?_eq_some_iff.1 hl3).1
      · exact (World.putObj_heap_other (by omega)).trans (hk3.same _ _ hk2 rfl)
    | ret => exact hp.2.elim
    | exit id => exact hp.2.elim
    | goto t => exact hp.2.elim
    | panic ch => exact hp.elim
    | outgrown => exact hp.elim
  · -- behind all
    rintro e W2 ⟨⟨v, rfl⟩, ⟨hi, hl, hk⟩, hz⟩
    exact ⟨none, _, by have := run_endLoop (P := P) hl (by rw [hrc]; simp); rw [hrc] at this; exact this, hdone _ _ (by omega) (put _ hi (by omega) hl rfl) (hZ _ _ _ _ hl rfl hz) ((World.putObj_heap_other (by omega)).trans hk)⟩
end Go.Proofs.YtidnldchdahgeaaDoor
