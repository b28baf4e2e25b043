/- In the round of a loop over a function, a region that draws its order and only reads is walked in one way: what is so outside of a round is so within one, where nothing is deferred. -/
import Derived.Test.YtidnldchdahgeaaDoorTRange
import Derived.Sort.QuietIn
namespace Go.Proofs.YtidnldchdahgeaaDoor
open Go.RowKit Go.Shelf
variable {F : Fence} {n : Nat} {P : Program} {ops : Array Oper} {Q : Exit → Act → World → Prop}

theorem upon_round (l₀ : Nat) {o : Oper} {a : Act} {next : Act → World → Prop} (r : Result Next) (h : o.uponIn F n P a next Q r) : o.uponIn (F.inRound l₀) n P a next Q r := h
theorem wpIn_round (l₀ : Nat) {o : Oper} {a : Act} {w : World} {next : Act → World → Prop} (hd : ∀ c, o.op ≠ .defer c) (h : o.wpIn F n P a w next Q) : o.wpIn (F.inRound l₀) n P a w next Q := by
  unfold Oper.wpIn at h ⊢
  rw [Oper.semAt_eq _ _ _ hd] at h ⊢
  exact ⟨h.1, upon_round l₀ _ h.2⟩
theorem wpOps_round (l₀ : Nat) (hd : ∀ (i : Nat) (o : Oper), ops[i]? = some o → ∀ c, o.op ≠ .defer c) : ∀ (L : List Nat) (a : Act) (w : World), wpOpsIn F n P ops Q L a w → wpOpsIn (F.inRound l₀) n P ops Q L a w
  | [], _, _, h => h
  | i :: rest, a, w, h => by
    rw [wpOpsIn_cons] at h ⊢
    unfold wpOpIn at h ⊢
    cases ho : ops[i]? with
    | none =>
      rw [ho] at h
      exact wpOps_round l₀ hd rest a w h
    | some o =>
      rw [ho] at h
      dsimp only at h ⊢
      by_cases hw : Region.wanted o (yielded ops a.tmps) = true
      · rw [if_pos hw] at h ⊢
        exact wpIn_round l₀ (hd i o ho) (Oper.wpIn_mono (fun a w h => wpOps_round l₀ hd rest a w h) h)
      · rw [if_neg hw] at h ⊢
        exact ⟨h.1, wpOps_round l₀ hd rest _ w h.2⟩
/-- A drawn region of a round, by the quiet walk outside of rounds. -/
theorem region_round (l₀ : Nat) {id : Nat} {a : Act} {w : World} {l : List Oper} (hro : F.round = none) (hm : P.follows .mixedOrders = true) (hB : Region.lexB .any l.toArray = true)
    (hd : (l.all fun o => match o.op with | .defer _ => false | _ => true) = true)
    (h : wpQuietIn F n P l.toArray (fun w' => ∃ n, w' = w.drewN n) (fun a' => ∀ w', (∃ n, w' = w.drewN n) → Q .normal a' w') l a) : (Code.region id l.toArray true).wpIn (F.inRound l₀) n P Q a w := by
  simp only [Region.lexB, Bool.and_eq_true] at hB
  have hd2 : ∀ (i : Nat) (o : Oper), l.toArray[i]? = some o → ∀ c, o.op ≠ .defer c := by
    intro i o ho c e
    have hm : o ∈ l := by simpa using Array.mem_of_getElem? ho
    have := List.all_eq_true.1 hd o hm
    rw [e] at this
    cases this
  have h1 := wpAnyQIn_lex (F := F) (n := n) (C := fun w' => ∃ n, w' = w.drewN n) (md := .any) hB.1 l 0 (Array.replicate l.toArray.size false) a (by simp) (by simpa using hB.2) h
  have h2 := wpAnyIn_of_quiet (Q' := Q) hro (fun _ w' hw' h => h w' hw') _ _ _ { w with drawn := w.drawn + 1 } ⟨1, rfl⟩ h1
  refine wpIn_region_draw fun t => ?_
  simp only [Region.schedule, hm, Bool.true_or, if_true]
  refine wpOps_round l₀ hd2 _ _ _ (wpAnyIn_sound l.toArray.size t _ a _ ?_)
  simpa using h2
end Go.Proofs.YtidnldchdahgeaaDoor
