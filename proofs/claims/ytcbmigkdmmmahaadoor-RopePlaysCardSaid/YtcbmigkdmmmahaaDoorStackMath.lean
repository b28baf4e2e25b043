/- The pieces of a text, and the depths of the trees that are stacked of them, in plain words. -/
import Derived.Test.YtcbmigkdmmmahaaDoorAvl
import Derived.Test.YtcbmigkdmmmahaaDoorLeaf
namespace Go.Proofs.YtcbmigkdmmmahaaDoor

def cat : List ByteArray → ByteArray
  | [] => ⟨#[]⟩
  | x :: l => x ++ cat l
theorem cat_append (l m : List ByteArray) : cat (l ++ m) = cat l ++ cat m := by
  induction l with
  | nil => show cat m = ByteArray.empty ++ cat m; rw [ByteArray.empty_append]
  | cons x l ih => show x ++ cat (l ++ m) = (x ++ cat l) ++ cat m; rw [ih, ByteArray.append_assoc]
theorem cat_one (x : ByteArray) : cat [x] = x := by
  show x ++ ByteArray.empty = x
  exact ByteArray.append_empty

/-- How deep a tree of n leaves is. -/
def dn (n : Nat) : Nat := if n ≤ 1 then n else 1 + max (dn (n / 2)) (dn (n - n / 2))
decreasing_by all_goals omega
theorem dn_one : dn 1 = 1 := by rw [dn]; rfl
theorem dn_step (n : Nat) (h : 2 ≤ n) : dn n = 1 + max (dn (n / 2)) (dn (n - n / 2)) := by
  conv => lhs; rw [dn]
  rw [if_neg (by omega)]
theorem dn_next : ∀ n, 1 ≤ n → dn n ≤ dn (n + 1) ∧ dn (n + 1) ≤ dn n + 1 := by
  intro n
  induction n using Nat.strongRecOn with
  | ind n ih =>
    intro h
    by_cases h1 : n = 1
    · subst h1
      have h2 : dn 2 = 2 := by rw [dn_step 2 (by omega)]; simp [dn_one]
      rw [dn_one, h2]; omega
    · have e1 := dn_step n (by omega)
      have e2 := dn_step (n + 1) (by omega)
      have a := ih (n / 2) (by omega) (by omega)
      by_cases hp : n % 2 = 0
      · have q1 : n - n / 2 = n / 2 := by omega
        have q2 : (n + 1) / 2 = n / 2 := by omega
        have q3 : n + 1 - n / 2 = n / 2 + 1 := by omega
        rw [q1] at e1
        rw [q2, q3] at e2
        omega
      · have q1 : n - n / 2 = n / 2 + 1 := by omega
        have q2 : (n + 1) / 2 = n / 2 + 1 := by omega
        have q3 : n + 1 - (n / 2 + 1) = n / 2 + 1 := by omega
        rw [q1] at e1
        rw [q2, q3] at e2
        omega
theorem dn_halves (n : Nat) (h : 2 ≤ n) : dn (n / 2) ≤ dn (n - n / 2) ∧ dn (n - n / 2) ≤ dn (n / 2) + 1 := by
  have a := dn_next (n / 2) (by omega)
  by_cases hp : n % 2 = 0
  · rw [show n - n / 2 = n / 2 from by omega]; omega
  · rw [show n - n / 2 = n / 2 + 1 from by omega]; exact a
theorem dn_pos (n : Nat) (h : 1 ≤ n) : 1 ≤ dn n := by
  rw [dn]; split <;> omega
theorem dn_le (n : Nat) : dn n ≤ n := by
  induction n using Nat.strongRecOn with
  | ind n ih =>
    rw [dn]
    split
    · omega
    · have a := ih (n / 2) (by omega)
      have b := ih (n - n / 2) (by omega)
      omega

def Piece (x : ByteArray) : Prop := 256 ≤ x.size ∧ x.size ≤ 512
/-- A tree stacked of leaves. -/
def StkSpec (ts : List ByteArray) (t : T) : Prop := t.text = cat ts ∧ t.dp = dn ts.length ∧ ((∀ x ∈ ts, Piece x) → Big t) ∧ (∀ x, ts = [x] → t = .leaf x)
theorem stk_one (x : ByteArray) : StkSpec [x] (.leaf x) :=
  ⟨(cat_one x).symm, by show 1 = dn 1; rw [dn_one], fun h => h x (by simp), fun y h => by injection h with h; rw [h]⟩
theorem stk_two {l m : List ByteArray} {a b : T} (ha : StkSpec l a) (hb : StkSpec m b) (hl : l.length = (l.length + m.length) / 2) (h2 : 2 ≤ l.length + m.length) : StkSpec (l ++ m) (.node a b) := by
  obtain ⟨a1, a2, a3, _⟩ := ha
  obtain ⟨b1, b2, b3, _⟩ := hb
  have hd := dn_halves (l.length + m.length) h2
  rw [← hl, show l.length + m.length - l.length = m.length from by omega] at hd
  refine ⟨?_, ?_, ?_, ?_⟩
  · rw [T.text_node, cat_append, a1, b1]
  · rw [T.dp_node, a2, b2, List.length_append, dn_step _ h2, ← hl, show l.length + m.length - l.length = m.length from by omega]
  · intro h
    exact big_node (a3 fun x hx => h x (List.mem_append.2 (.inl hx))) (b3 fun x hx => h x (List.mem_append.2 (.inr hx))) (by omega) (by omega)
  · intro x hx
    have := congrArg List.length hx
    simp at this
    omega

theorem cat_size_le {ts : List ByteArray} : ∀ x ∈ ts, x.size ≤ (cat ts).size := by
  induction ts with
  | nil => intro x h; cases h
  | cons y l ih =>
    intro x h
    show x.size ≤ (y ++ cat l).size
    rw [ByteArray.size_append]
    rcases List.mem_cons.1 h with rfl | h
    · omega
    · have := ih x h; omega
theorem cat_pieces {ts : List ByteArray} (h : ∀ x ∈ ts, Piece x) : 256 * ts.length ≤ (cat ts).size := by
  induction ts with
  | nil => simp
  | cons y l ih =>
    have h1 := ih fun x hx => h x (by simp [hx])
    have h2 := (h y (by simp)).1
    show _ ≤ (y ++ cat l).size
    rw [ByteArray.size_append, List.length_cons]
    omega
end Go.Proofs.YtcbmigkdmmmahaaDoor
