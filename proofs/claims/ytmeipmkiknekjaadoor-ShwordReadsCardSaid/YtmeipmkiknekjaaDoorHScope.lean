/- A scope with several labels: what holds at each jump, and what every pass lowers. -/
import Derived.Test.YtmeipmkiknekjaaDoorHBehind
import Derived.WalkMore
import Derived.ScopeJumps
namespace Go.Proofs.YtmeipmkiknekjaaDoor
open Go.RowKit
/-- By a goto to a label: J of it; else as Q. -/
def exJ (J : Nat → Act → World → Prop) (Q : Exit → Act → World → Prop) : Exit → Act → World → Prop
  | .goto l, a, w => J l a w
  | e, a, w => Q e a w
section
variable {P : Program} {a : Act} {w : World} {Q : Exit → Act → World → Prop} {J : Nat → Act → World → Prop}
@[go_sem] theorem exJ_normal : exJ J Q .normal a w = Q .normal a w := rfl
@[go_sem] theorem exJ_exit (id : Nat) : exJ J Q (.exit id) a w = Q (.exit id) a w := rfl
@[go_sem] theorem exJ_ret : exJ J Q .ret a w = Q .ret a w := rfl
@[go_sem] theorem exJ_panic (ch : List PanicEntry) : exJ J Q (.panic ch) a w = Q (.panic ch) a w := rfl
@[go_sem] theorem exJ_goto (l : Nat) : exJ J Q (.goto l) a w = J l a w := rfl
theorem wp_scope_many {c : Code} (K : Nat → Nat → Act → World → Prop)
    (hf : ∀ l g a w, K l g a w → ∃ rest, findLabel c l = some rest ∧ rest.wp P (exJ (fun l' a' w' => ∃ g', g' < g ∧ K l' g' a' w') Q) a w)
    (first : c.wp P (exJ (fun l' a' w' => ∃ g', K l' g' a' w') Q) a w) : (Code.scope c).wp P Q a w := by
  intro b k cs
  have key : ∀ n l a w, K l n a w → ∃ rest, gotoIn l (.inScope c :: k) = some (.code rest :: .inScope c :: k) ∧ ∃ e a' w', Q e a' w' ∧ Arrives P (lone (b.at a (.code rest :: .inScope c :: k)) cs w) b k cs e a' w' := by
    intro n
    induction n using Nat.strongRecOn with
    | _ n ih =>
      intro l a w hJ
      obtain ⟨rest, hl, hw⟩ := hf l n a w hJ
      have hg : gotoIn l (.inScope c :: k) = some (.code rest :: .inScope c :: k) := by simp [gotoIn, hl]
      refine ⟨rest, hg, ?_⟩
      obtain ⟨e, a₁, w₁, hq, harr⟩ := hw b (.inScope c :: k) cs
      cases e with
      | normal => exact ⟨.normal, a₁, w₁, hq, Steps.trans harr (.one step_inScope)⟩
      | exit id => exact ⟨.exit id, a₁, w₁, hq, fun k' hk => harr k' (by simp [exitTo, hk])⟩
      | goto l' =>
        obtain ⟨g', hlt, hJ'⟩ := hq
        obtain ⟨rest2, hg2, e₂, a₂, w₂, hq₂, harr₂⟩ := ih g' hlt l' a₁ w₁ hJ'
        exact ⟨e₂, a₂, w₂, hq₂, .of_steps (harr _ hg2) harr₂⟩
      | ret => exact ⟨_, a₁, w₁, hq, harr⟩
      | panic ch => exact ⟨_, a₁, w₁, hq, harr⟩
      | outgrown => exact ⟨_, a₁, w₁, hq, harr⟩
  obtain ⟨e, a₁, w₁, hq, harr⟩ := first b (.inScope c :: k) cs
  cases e with
  | normal => exact ⟨.normal, a₁, w₁, hq, .head step_scope (Steps.trans harr (.one step_inScope))⟩
  | exit id => exact ⟨.exit id, a₁, w₁, hq, fun k' hk => .head step_scope (harr k' (by simp [exitTo, hk]))⟩
  | goto l' =>
    obtain ⟨g', hJ'⟩ := hq
    obtain ⟨rest2, hg2, e₂, a₂, w₂, hq₂, harr₂⟩ := key g' l' a₁ w₁ hJ'
    exact ⟨e₂, a₂, w₂, hq₂, .of_steps (.head step_scope (harr _ hg2)) harr₂⟩
  | ret => exact ⟨_, a₁, w₁, hq, .of_steps (.one step_scope) harr⟩
  | panic ch => exact ⟨_, a₁, w₁, hq, .of_steps (.one step_scope) harr⟩
  | outgrown => exact ⟨_, a₁, w₁, hq, .of_steps (.one step_scope) harr⟩
end
end Go.Proofs.YtmeipmkiknekjaaDoor
