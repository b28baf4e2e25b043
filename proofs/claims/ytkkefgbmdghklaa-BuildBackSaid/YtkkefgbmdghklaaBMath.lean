/- A builder in plain words: what is asked of events, what they do, what is told of them at last; whatever is put, it is a tree. Nothing of the program stands here. -/
import Derived.Test.YtkkefgbmdghklaaBIs
namespace Go.Proofs.Ytkkefgbmdghklaa

/-- An event: what it does, its kind, its two places. -/
abbrev Ev : Type := Int × Int × Int × Int
/-- A builder: its nodes but the root, which of them are open, how far it came. -/
structure Bs where
  N : List Nd
  O : List Nat
  far : Int
def Bs.new : Bs := ⟨[], [], 0⟩
/-- The error of an event. -/
def askE (far : Int) (o : Nat) (at_ : Int) (e : Ev) : Int :=
  if ¬ (e.1 = 1 ∨ e.1 = 2 ∨ e.1 = 3) then 1
  else if e.2.2.1 < far - at_ ∨ 1048576 - at_ < e.2.2.1 then 70
  else if e.1 = 3 ∧ (e.2.2.2 < e.2.2.1 ∨ 1048576 - at_ < e.2.2.2) then 70
  else if e.1 = 2 ∧ o = 0 then 71 else 0
def farE (at_ : Int) (e : Ev) : Int := if e.1 = 3 then at_ + e.2.2.2 else at_ + e.2.2.1
def opnE (o : Nat) (e : Ev) : Nat := if e.1 = 1 then o + 1 else if e.1 = 2 then o - 1 else o
def asks (at_ : Int) : Int → Nat → List Ev → Int
  | _, _, [] => 0
  | far, o, e :: t => if askE far o at_ e = 0 then asks at_ (farE at_ e) (opnE o e) t else askE far o at_ e
def shutN (p k : Int) (x : Nd) : Nd := (if k = 0 then x.1 else k, x.2.1, p, x.2.2.2)
/-- What an event does. -/
def doE (at_ : Int) (b : Bs) (e : Ev) : Bs :=
  if e.1 = 1 then ⟨b.N ++ [(e.2.1, at_ + e.2.2.1, 0, (b.O.length : Int) + 1)], b.O ++ [b.N.length], at_ + e.2.2.1⟩
  else if e.1 = 2 then ⟨b.N.modify (b.O.getLastD 0) (shutN (at_ + e.2.2.1) e.2.1), b.O.dropLast, at_ + e.2.2.1⟩
  else ⟨b.N ++ [(e.2.1, at_ + e.2.2.1, at_ + e.2.2.2, (b.O.length : Int) + 1)], b.O, at_ + e.2.2.2⟩
def dos (at_ : Int) (b : Bs) (L : List Ev) : Bs := L.foldl (doE at_) b
def putE (at_ : Int) (b : Bs) (L : List Ev) : Int := if at_ < 0 ∨ 1048576 < at_ then 1 else asks at_ b.far b.O.length L
def putB (at_ : Int) (b : Bs) (L : List Ev) : Bs := if putE at_ b L = 0 then dos at_ b L else b
def finN (n : Int) (O : List Nat) (i : Nat) (x : Nd) : Nd := if i ∈ O then (x.1, x.2.1, n, x.2.2.2) else x
/-- All nodes, those that are open ending at n. -/
def told (k n : Int) (b : Bs) : List Nd := (k, 0, n, 0) :: b.N.mapIdx (finN n b.O)
def EvOk (e : Ev) : Prop := (Lit.int .u8 e.1).wf = true ∧ (Lit.int .u8 e.2.1).wf = true ∧ (Lit.int .i64 e.2.2.1).wf = true ∧ (Lit.int .i64 e.2.2.2).wf = true
/-- What is so of a builder's numbers. -/
structure BOk (b : Bs) : Prop where
  lo : 0 ≤ b.far
  hi : b.far ≤ 1048576
  asc : b.O.Pairwise (· < ·)
  lt : ∀ x ∈ b.O, x < b.N.length
  kind : ∀ x ∈ b.N, 0 ≤ x.1 ∧ x.1 ≤ 255
  from_ : ∀ x ∈ b.N, 0 ≤ x.2.1 ∧ x.2.1 ≤ b.far
  to_ : ∀ x ∈ b.N, 0 ≤ x.2.2.1 ∧ x.2.2.1 ≤ b.far
  deep : ∀ x ∈ b.N, 0 ≤ x.2.2.2 ∧ x.2.2.2 ≤ b.N.length
theorem BOk.new : BOk Bs.new := ⟨Int.le_refl _, by decide, List.Pairwise.nil, fun x h => (by cases h), fun x h => (by cases h), fun x h => (by cases h), fun x h => (by cases h), fun x h => (by cases h)⟩
theorem asc_len : ∀ {O : List Nat} {m n : Nat}, O.Pairwise (· < ·) → (∀ x ∈ O, m ≤ x ∧ x < n) → O.length + m ≤ n ∨ O = []
  | [], _, _, _, _ => .inr rfl
  | a :: t, m, n, h, hb => by
    rw [List.pairwise_cons] at h
    have ha := hb a (List.mem_cons_self)
    have := asc_len (m := a + 1) h.2 (n := n) (fun x hx => ⟨h.1 x hx, (hb x (List.mem_cons_of_mem _ hx)).2⟩)
    rcases this with h1 | h1
    · left; simp only [List.length_cons]; omega
    · subst h1; left; simp only [List.length_cons, List.length_nil]; omega
theorem BOk.len {b : Bs} (h : BOk b) : b.O.length ≤ b.N.length := by
  rcases asc_len (m := 0) h.asc (fun x hx => ⟨Nat.zero_le _, h.lt x hx⟩) with h1 | h1
  · omega
  · rw [h1]; exact Nat.zero_le _
/-- An event that may be put: what is known of it. -/
theorem askE_ok {far : Int} {o : Nat} {at_ : Int} {e : Ev} (h : askE far o at_ e = 0) :
    (e.1 = 1 ∨ e.1 = 2 ∨ e.1 = 3) ∧ far ≤ at_ + e.2.2.1 ∧ at_ + e.2.2.1 ≤ 1048576 ∧ (e.1 = 3 → e.2.2.1 ≤ e.2.2.2 ∧ at_ + e.2.2.2 ≤ 1048576) ∧ (e.1 = 2 → 0 < o) := by
  unfold askE at h
  split at h
  · cases h
  rename_i h1
  split at h
  · cases h
  rename_i h2
  split at h
  · cases h
  rename_i h3
  split at h
  · cases h
  rename_i h4
  refine ⟨Classical.not_not.1 h1, by omega, by omega, fun k => ?_, fun k => by omega⟩
  omega
theorem modify_mem {α : Type} {f : α → α} {P : α → Prop} (hf : ∀ x, P x → P (f x)) : ∀ {L : List α} {i : Nat}, (∀ x ∈ L, P x) → ∀ x ∈ L.modify i f, P x := by
  intro L i h x hx
  obtain ⟨j, hj⟩ := List.getElem?_of_mem hx
  rw [List.getElem?_modify] at hj
  cases hL : L[j]? with
  | none => rw [hL] at hj; cases hj
  | some y =>
    rw [hL] at hj
    have hy := h y (List.mem_of_getElem? hL)
    by_cases e : i = j
    · simp [e] at hj; subst hj; exact hf y hy
    · simp [e] at hj; subst hj; exact hy
theorem dropLast_pairwise {O : List Nat} (h : O.Pairwise (· < ·)) : O.dropLast.Pairwise (· < ·) := h.sublist (List.dropLast_sublist O)
theorem doE_far {at_ : Int} {b : Bs} {e : Ev} (h : e.1 = 1 ∨ e.1 = 2 ∨ e.1 = 3) : (doE at_ b e).far = farE at_ e := by
  unfold doE farE
  rcases h with h | h | h <;> simp [h]
theorem doE_opn {at_ : Int} {b : Bs} {e : Ev} (h : e.1 = 1 ∨ e.1 = 2 ∨ e.1 = 3) : (doE at_ b e).O.length = opnE b.O.length e := by
  unfold doE opnE
  rcases h with h | h | h <;> simp [h]
theorem doE_N {at_ : Int} {b : Bs} {e : Ev} : (doE at_ b e).N.length ≤ b.N.length + 1 := by
  unfold doE
  split
  · simp
  · split
    · simp
    · simp
theorem BOk.step {at_ : Int} {b : Bs} {e : Ev} (h : BOk b) (he : EvOk e) (hk : askE b.far b.O.length at_ e = 0) : BOk (doE at_ b e) := by
  obtain ⟨k1, k2, k3, k4, k5⟩ := askE_ok hk
  obtain ⟨h1, h2, h3, h4, h5, h6, h7, h8⟩ := h
  have hl : b.O.length ≤ b.N.length := BOk.len ⟨h1, h2, h3, h4, h5, h6, h7, h8⟩
  have he1 := wf8 he.2.1
  unfold doE
  by_cases c1 : e.1 = 1
  · rw [if_pos c1]
    refine ⟨by dsimp only; omega, k3, ?_, ?_, ?_, ?_, ?_, ?_⟩ <;> dsimp only
    · rw [List.pairwise_append]
      exact ⟨h3, List.pairwise_singleton _ _, fun a ha b' hb' => by rw [List.mem_singleton] at hb'; subst hb'; exact h4 a ha⟩
    · intro x hx
      rw [List.length_append, List.length_singleton]
      rcases List.mem_append.1 hx with hx | hx
      · have := h4 x hx; omega
      · rw [List.mem_singleton] at hx; omega
    all_goals
      intro x hx
      rcases List.mem_append.1 hx with hx | hx
    · exact h5 x hx
    · rw [List.mem_singleton] at hx; subst hx; exact he1
    · have := h6 x hx; omega
    · rw [List.mem_singleton] at hx; subst hx; dsimp only; omega
    · have := h7 x hx; omega
    · rw [List.mem_singleton] at hx; subst hx; dsimp only; omega
    · have := h8 x hx; rw [List.length_append, List.length_singleton]; omega
    · rw [List.mem_singleton] at hx; subst hx; dsimp only; rw [List.length_append, List.length_singleton]; omega
  · rw [if_neg c1]
    by_cases c2 : e.1 = 2
    · rw [if_pos c2]
      refine ⟨by dsimp only; omega, k3, dropLast_pairwise h3, fun x hx => ?_, modify_mem (fun x hx => ?_) h5, modify_mem (fun x hx => ?_) (fun x hx => ?_), modify_mem (fun x hx => ?_) (fun x hx => ?_), fun x hx => ?_⟩
      · dsimp only; rw [List.length_modify]; exact h4 x (List.dropLast_subset _ hx)
      · unfold shutN; dsimp only; split <;> omega
      · exact hx
      · have := h6 x hx; dsimp only; omega
      · unfold shutN; dsimp only; omega
      · have := h7 x hx; dsimp only; omega
      · dsimp only at hx ⊢; rw [List.length_modify]; exact modify_mem (f := shutN (at_ + e.2.2.1) e.2.1) (P := fun x : Nd => 0 ≤ x.2.2.2 ∧ x.2.2.2 ≤ (b.N.length : Int)) (fun x hx => hx) h8 x hx
    · rw [if_neg c2]
      have c3 : e.1 = 3 := by omega
      have k6 := k4 c3
      refine ⟨by dsimp only; omega, by dsimp only; omega, h3, ?_, ?_, ?_, ?_, ?_⟩ <;> dsimp only
      · intro x hx
        rw [List.length_append, List.length_singleton]
        have := h4 x hx; omega
      all_goals
        intro x hx
        rcases List.mem_append.1 hx with hx | hx
      · exact h5 x hx
      · rw [List.mem_singleton] at hx; subst hx; exact he1
      · have := h6 x hx; omega
      · rw [List.mem_singleton] at hx; subst hx; dsimp only; omega
      · have := h7 x hx; omega
      · rw [List.mem_singleton] at hx; subst hx; dsimp only; omega
      · have := h8 x hx; rw [List.length_append, List.length_singleton]; omega
      · rw [List.mem_singleton] at hx; subst hx; dsimp only; rw [List.length_append, List.length_singleton]; omega
theorem asks_cons {at_ : Int} {b : Bs} {e : Ev} {t : List Ev} (h : asks at_ b.far b.O.length (e :: t) = 0) :
    askE b.far b.O.length at_ e = 0 ∧ asks at_ (doE at_ b e).far (doE at_ b e).O.length t = 0 := by
  unfold asks at h
  split at h
  · rename_i h1
    have h2 := (askE_ok h1).1
    rw [doE_far h2, doE_opn h2]
    exact ⟨h1, h⟩
  · rename_i h1
    exact absurd h h1
theorem BOk.dos {at_ : Int} : ∀ {L : List Ev} {b : Bs}, BOk b → (∀ e ∈ L, EvOk e) → asks at_ b.far b.O.length L = 0 → BOk (dos at_ b L)
  | [], _, h, _, _ => h
  | e :: t, b, h, he, hk => by
    obtain ⟨h1, h2⟩ := asks_cons hk
    exact BOk.dos (L := t) (h.step (he e List.mem_cons_self) h1) (fun x hx => he x (List.mem_cons_of_mem _ hx)) h2
theorem dos_N {at_ : Int} : ∀ {L : List Ev} {b : Bs}, (dos at_ b L).N.length ≤ b.N.length + L.length
  | [], _ => Nat.le_refl _
  | e :: t, b => by
    have h1 := dos_N (at_ := at_) (L := t) (b := doE at_ b e)
    have h2 := doE_N (at_ := at_) (b := b) (e := e)
    show (dos at_ (doE at_ b e) t).N.length ≤ _
    rw [List.length_cons]
    omega
theorem BOk.put {at_ : Int} {L : List Ev} {b : Bs} (h : BOk b) (he : ∀ e ∈ L, EvOk e) : BOk (putB at_ b L) := by
  unfold putB
  split
  · rename_i h1
    unfold putE at h1
    split at h1
    · cases h1
    · exact h.dos he h1
  · exact h
theorem putB_N {at_ : Int} {L : List Ev} {b : Bs} : (putB at_ b L).N.length ≤ b.N.length + L.length := by
  unfold putB
  split
  · exact dos_N
  · omega
end Go.Proofs.Ytkkefgbmdghklaa
