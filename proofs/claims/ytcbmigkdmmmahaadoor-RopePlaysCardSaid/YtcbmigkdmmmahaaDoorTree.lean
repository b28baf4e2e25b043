/- Trees of a text: what a node of the rope is, as a plain tree, and how it lies in memory. -/
import Derived.Test.YtcbmigkdmmmahaaDoorSeam
import Derived.Test.YtcbmigkdmmmahaaDoorUCount
namespace Go.Proofs.YtcbmigkdmmmahaaDoor
open Go.RowKit

inductive T where
  | leaf (s : ByteArray)
  | node (l r : T)
def T.text : T → ByteArray
  | .leaf s => s
  | .node l r => l.text ++ r.text
def T.dp : T → Nat
  | .leaf _ => 1
  | .node l r => 1 + max l.dp r.dp
def T.own : T → ByteArray
  | .leaf s => s
  | .node _ _ => ⟨#[]⟩
/-- Every leaf has from 256 to 512 bytes, and depths differ by one at most. -/
def Big : T → Prop
  | .leaf s => 256 ≤ s.size ∧ s.size ≤ 512
  | .node l r => Big l ∧ Big r ∧ l.dp ≤ r.dp + 1 ∧ r.dp ≤ l.dp + 1
def Ok : T → Prop
  | .leaf s => 1 ≤ s.size ∧ s.size ≤ 512
  | .node l r => Big (.node l r)
theorem Big.ok {t : T} (h : Big t) : Ok t := by
  cases t with
  | leaf s => exact ⟨by have := h.1; omega, h.2⟩
  | node l r => exact h
theorem Big.size {t : T} (h : Big t) : 256 ≤ t.text.size := by
  induction t with
  | leaf s => exact h.1
  | node l r hl hr => have := hl h.1; show 256 ≤ (l.text ++ r.text).size; rw [ByteArray.size_append]; omega
theorem Ok.size {t : T} (h : Ok t) : 1 ≤ t.text.size := by
  cases t with
  | leaf s => exact h.1
  | node l r => have := Big.size h; omega
theorem T.dp_pos (t : T) : 1 ≤ t.dp := by cases t <;> simp [T.dp]

/-- How many LFs a text has. -/
def nl (s : ByteArray) : Nat := s.data.toList.count 10
theorem nl_append (a b : ByteArray) : nl (a ++ b) = nl a + nl b := by
  unfold nl
  rw [ByteArray.data_append]
  simp
theorem nl_le (s : ByteArray) : nl s ≤ s.size := by
  unfold nl
  have := List.count_le_length (a := (10 : UInt8)) (l := s.data.toList)
  simpa using this

/-- What is counted of a text. -/
noncomputable def cv (s : ByteArray) : Value := .agg #[.int .i64 (s.size : Nat), .int .i64 (nl s : Nat), .int .i64 (countS s : Nat), .string (hd s), .string (tl s)]
noncomputable def ncells (s : ByteArray) (d : Nat) (l r : Value) (own : ByteArray) : Array Value :=
  #[.int .i64 (s.size : Nat), .int .i64 (nl s : Nat), .int .i64 (countS s : Nat), .string (hd s), .string (tl s), .int .i64 (d : Nat), l, r, .string own]

/-- The tree t lies at block b of w, all of it below B. -/
def NodeIn (B : Nat) (w : World) : T → Nat → Prop
  | .leaf s, b => b < B ∧ w.heap[b]? = some (.cells (ncells s 1 (.pointer none) (.pointer none) s) 76)
  | .node l r, b => b < B ∧ ∃ bl br, w.heap[b]? = some (.cells (ncells (l.text ++ r.text) (1 + max l.dp r.dp) (.pointer (some ⟨bl, 0, none⟩)) (.pointer (some ⟨br, 0, none⟩)) ⟨#[]⟩) 76) ∧ NodeIn B w l bl ∧ NodeIn B w r br
theorem NodeIn.lt {B : Nat} {w : World} {t : T} {b : Nat} (h : NodeIn B w t b) : b < B := by
  cases t <;> exact h.1
theorem NodeIn.keep {B C : Nat} {w w' : World} (hb : Below C w w') (hBC : B ≤ C) : ∀ {t : T} {b : Nat}, NodeIn B w t b → NodeIn B w' t b := by
  intro t
  induction t with
  | leaf s => intro b h; exact ⟨h.1, (hb.block b (by have := h.1; omega)).trans h.2⟩
  | node l r hl hr =>
    intro b h
    obtain ⟨h1, bl, br, h2, h3, h4⟩ := h
    exact ⟨h1, bl, br, (hb.block b (by omega)).trans h2, hl h3, hr h4⟩
theorem NodeIn.mono {B C : Nat} {w : World} (hBC : B ≤ C) : ∀ {t : T} {b : Nat}, NodeIn B w t b → NodeIn C w t b := by
  intro t
  induction t with
  | leaf s => intro b h; exact ⟨by have := h.1; omega, h.2⟩
  | node l r hl hr =>
    intro b h
    obtain ⟨h1, bl, br, h2, h3, h4⟩ := h
    exact ⟨by omega, bl, br, h2, hl h3, hr h4⟩
/-- .. below all that lies in w. -/
def Node (w : World) (t : T) (b : Nat) : Prop := NodeIn w.heap.size w t b
theorem Node.up {w w' : World} {t : T} {b : Nat} (h : Node w t b) (hu : Up w w') : Node w' t b :=
  NodeIn.mono (Below.size hu) (NodeIn.keep hu (Nat.le_refl _) h)
/-- What a cell of a node holds. -/
theorem node_cell {B : Nat} {w : World} {t : T} {b : Nat} (h : NodeIn B w t b) : ∃ l r, w.heap[b]? = some (.cells (ncells t.text t.dp l r t.own) 76) := by
  cases t with
  | leaf s => exact ⟨_, _, h.2⟩
  | node l r => obtain ⟨_, bl, br, h2, _⟩ := h; exact ⟨_, _, h2⟩

/-- A pointer to a tree, or nil. -/
def Ptr (w : World) (v : Value) : Option T → Prop
  | none => v = .pointer none
  | some t => ∃ b, v = .pointer (some ⟨b, 0, none⟩) ∧ Node w t b
def otext : Option T → ByteArray
  | none => ⟨#[]⟩
  | some t => t.text
def OkO : Option T → Prop
  | none => True
  | some t => Ok t
theorem Ptr.up {w w' : World} {v : Value} {o : Option T} (h : Ptr w v o) (hu : Up w w') : Ptr w' v o := by
  cases o with
  | none => exact h
  | some t => obtain ⟨b, e, hn⟩ := h; exact ⟨b, e, hn.up hu⟩
end Go.Proofs.YtcbmigkdmmmahaaDoor
