/- What each kind of event does: the program's map of method expressions. -/
import Derived.Test.YtkkefgbmdghklaaBBegin
import Derived.Maps.Own
import Derived.Maps.Views
namespace Go.Proofs.Ytkkefgbmdghklaa
open Go.RowKit

def fB : Value := .func (.func 20) #[] #[]
def fE : Value := .func (.func 21) #[] #[]
def fL : Value := .func (.func 22) #[] #[]
/-- The function of a number. -/
def fnOf (x : Int) : Value := if x = 1 then fB else if x = 2 then fE else if x = 3 then fL else .nilFunc
def num (n : Int) : DataW Unit := .lit (.int .i64 n)
open Classical in
noncomputable def rF (v : Value) : Option (DataW Unit × List MemPlace) :=
  if v = fB then some (num 1, []) else if v = fE then some (num 2, []) else if v = fL then some (num 3, []) else if v = .nilFunc then some (num 0, []) else none
theorem rF_B : rF fB = some (num 1, []) := by unfold rF; rw [if_pos rfl]
theorem rF_E : rF fE = some (num 2, []) := by
  unfold rF
  rw [if_neg (by unfold fE fB; intro h; injection h with h; injection h with h; exact absurd h (by decide)), if_pos rfl]
theorem rF_L : rF fL = some (num 3, []) := by
  unfold rF
  rw [if_neg (by unfold fL fB; intro h; injection h with h; injection h with h; exact absurd h (by decide)), if_neg (by unfold fL fE; intro h; injection h with h; injection h with h; exact absurd h (by decide)), if_pos rfl]
theorem rF_N : rF .nilFunc = some (num 0, []) := by
  unfold rF
  rw [if_neg (by unfold fB; intro h; cases h), if_neg (by unfold fE; intro h; cases h), if_neg (by unfold fL; intro h; cases h), if_pos rfl]
theorem num_inj {a b : Int} (h : num a = num b) : a = b := by unfold num at h; injection h with h; injection h
theorem rF_inv {v : Value} {n : Int} {ps : List MemPlace} (h : rF v = some (num n, ps)) : (n = 1 ∧ v = fB) ∨ (n = 2 ∧ v = fE) ∨ (n = 3 ∧ v = fL) ∨ (n = 0 ∧ v = .nilFunc) := by
  unfold rF at h
  split at h
  · rename_i e; injection h with h; injection h with h; exact .inl ⟨(num_inj h).symm, e⟩
  split at h
  · rename_i e; injection h with h; injection h with h; exact .inr (.inl ⟨(num_inj h).symm, e⟩)
  split at h
  · rename_i e; injection h with h; injection h with h; exact .inr (.inr (.inl ⟨(num_inj h).symm, e⟩))
  split at h
  · rename_i e; injection h with h; injection h with h; exact .inr (.inr (.inr ⟨(num_inj h).symm, e⟩))
  · cases h
theorem keyed8 : Maps.Keyed Try.prog 5 := Maps.int_keyed Try.underlying5
def k8 (x : Int) : Lit := .int .u8 x
def mapD : DataW Unit := (((DataW.map []).put (k8 1) (num 1)).put (k8 2) (num 2)).put (k8 3) (num 3)
/-- The map in memory. -/
def MapT (w : World) (mb : Nat) : Prop := w.ownsMap Try.prog 5 rF mb 3 mapD
theorem MapT.same {w W : World} {mb : Nat} (h : MapT w mb) (e : W.heap[mb]? = w.heap[mb]?) : MapT W mb := by
  obtain ⟨es, clock, h1, h2⟩ := h
  exact ⟨es, clock, e.trans h1, h2⟩
theorem MapT.lt {w : World} {mb : Nat} (h : MapT w mb) : mb < w.heap.size := World.ownsMap.lt h
theorem MapT.up {w W : World} {mb : Nat} (h : MapT w mb) (hu : Up w W) : MapT W mb := h.same (Below.block hu _ h.lt)
theorem MapT.turn {w W : World} {mb : Nat} {G : Nat → Prop} (h : MapT w mb) (ht : Turn G w W) (hg : ¬ G mb) : MapT W mb := h.same (ht.block _ h.lt hg)
theorem isKey8 (x : Int) : WideAt.IsKeyLit (k8 x) := by unfold k8; trivial
theorem mapD_at (x : Int) : mapD.atKey (k8 x) (num 0) = num (if x = 1 then 1 else if x = 2 then 2 else if x = 3 then 3 else 0) := by
  have hne : ∀ {a b : Int}, a ≠ b → k8 a ≠ k8 b := fun h e => h (by unfold k8 at e; injection e)
  have m0 : Maps.IsMap (DataW.map [] : DataW Unit) := Maps.isMap_empty
  unfold mapD
  by_cases h3 : x = 3
  · subst h3
    rw [Maps.atKey_put_same ((m0.put _ _).put _ _) (isKey8 3)]
    rfl
  rw [Maps.atKey_put_other (hne h3)]
  by_cases h2 : x = 2
  · subst h2
    rw [Maps.atKey_put_same (m0.put _ _) (isKey8 2)]
    rfl
  rw [Maps.atKey_put_other (hne h2)]
  by_cases h1 : x = 1
  · subst h1
    rw [Maps.atKey_put_same m0 (isKey8 1)]
    rfl
  rw [Maps.atKey_put_other (hne h1), if_neg h1, if_neg h2, if_neg h3]
  rfl
theorem MapT.look {w : World} {mb : Nat} (h : MapT w mb) {x : Int} (hx : (Lit.int .u8 x).wf = true) : (Instr.lookup 52 (.map (some mb)) (.int .u8 x) false).run Try.prog w = .ok (fnOf x) w := by
  obtain ⟨v, ps, h1, h2⟩ := World.ownsMap.lookup h keyed8 Try.underlying52 (z := .nilFunc) (by rfl) rF_N (Maps.keyOf_int_mk Try.underlying5 hx)
  rw [show (Lit.int .u8 x) = k8 x from rfl, mapD_at] at h2
  have : v = fnOf x := by
    unfold fnOf
    rcases rF_inv h2 with ⟨e, rfl⟩ | ⟨e, rfl⟩ | ⟨e, rfl⟩ | ⟨e, rfl⟩
    · rw [if_pos (by omega)]
    · rw [if_neg (by omega), if_pos (by omega)]
    · rw [if_neg (by omega), if_neg (by omega), if_pos (by omega)]
    · rw [if_neg (by omega), if_neg (by omega), if_neg (by omega)]
  rw [this] at h1
  exact h1
set_option maxRecDepth 100000 in
set_option maxHeartbeats 1000000 in
theorem doing_any (w : World) : Calls Try.prog 17 #[] w fun e w' => ∃ mb, e = .returned (.map (some mb)) ∧ MapT w' mb ∧ Up w w' ∧ w.heap.size ≤ mb := by
  have hmm := @run_makeMap Try.prog
  have h0 := World.ownsMap_made w Try.prog 5 rF
  obtain ⟨w1, r1, h1, g1⟩ := h0.update keyed8 Try.underlying52 (by decide) (Maps.keyOf_int_mk Try.underlying5 (a := 1) (by decide)) rF_B
  obtain ⟨w2, r2, h2, g2⟩ := h1.update keyed8 Try.underlying52 (by decide) (Maps.keyOf_int_mk Try.underlying5 (a := 2) (by decide)) rF_E
  obtain ⟨w3, r3, h3, g3⟩ := h2.update keyed8 Try.underlying52 (by decide) (Maps.keyOf_int_mk Try.underlying5 (a := 3) (by decide)) rF_L
  unfold fB at r1
  unfold fE at r2
  unfold fL at r3
  have H := Lib.hid h3
  have hn : ∀ r, some w.heap.size = some r → w.heap.size ≤ r := fun r e => by injection e with e; omega
  have HU : Hid (Up w w3) := Lib.hid (((((Up.alloc w (.map #[] 0)).grown g1 (by simp) hn).grown g2 (by have := g1.size; simp at this; omega) hn).grown g3 (by have := g1.size; have := g2.size; simp at *; omega) hn))
  clear h0 h1 h2 h3 g1 g2 g3 hn
  go_enter Try.func17, Try.ntmps17
  go_wp2
  go_ret
  exact ⟨_, rfl, H.out, HU.out, Nat.le_refl _⟩
end Go.Proofs.Ytkkefgbmdghklaa
