/- Rows that are put together of two, and an item between: plain mathematics. -/
import Derived.Test.YthiiemjbigcinaaQTree
namespace Go.Proofs.Ythiiemjbigcinaa

abbrev it (R : Row) (i : Nat) : ByteArray × Int := R.getD i (⟨#[]⟩, 0)
section
variable {A B : Row} {x : ByteArray × Int}
theorem it_left {k : Nat} (h : k < A.length) : it (A ++ x :: B) k = it A k := by
  simp [it, List.getD_eq_getElem?_getD, List.getElem?_append_left h]
theorem it_mid : it (A ++ x :: B) A.length = x := by
  simp [it, List.getD_eq_getElem?_getD]
theorem it_right (k : Nat) : it (A ++ x :: B) (A.length + 1 + k) = it B k := by
  simp only [it, List.getD_eq_getElem?_getD]
  rw [List.getElem?_append_right (by omega), show A.length + 1 + k - A.length = k + 1 from by omega, List.getElem?_cons_succ]
theorem plc_left {k : Nat} (h : k ≤ A.length) : plc (A ++ x :: B) k = plc A k := by
  rw [plc_take _ _ (by rw [List.length_append]; omega), plc_take _ _ h, List.take_append_of_le_length h]
theorem plc_mid : plc (A ++ x :: B) A.length = szs A := by
  rw [plc_left (Nat.le_refl _), plc_take _ _ (Nat.le_refl _), List.take_length]
theorem plc_right {k : Nat} (h : k ≤ B.length) : plc (A ++ x :: B) (A.length + 1 + k) = szs A + x.2 + plc B k := by
  rw [plc_take _ _ (by rw [List.length_append, List.length_cons]; omega), plc_take _ _ h, List.take_append, List.take_of_length_le (by omega), show A.length + 1 + k - A.length = k + 1 from by omega, List.take_succ_cons, szs_append, szs_cons]
  omega
theorem plc_all (R : Row) : plc R R.length = szs R := tot_szs R
theorem sz_it (R : Row) (i : Nat) : sz R i = (it R i).2 := rfl
theorem nt_it (R : Row) (i : Nat) : nt R i = (it R i).1 := rfl
end
section
variable {l r : QT} {x : ByteArray × Int}
theorem qit_left {k : Nat} (h : k < l.cn) : it (QT.node l x r).row k = it l.row k := it_left h
theorem qit_mid : it (QT.node l x r).row l.cn = x := it_mid
theorem qit_right (k : Nat) : it (QT.node l x r).row (l.cn + 1 + k) = it r.row k := it_right k
theorem qplc_left {k : Nat} (h : k ≤ l.cn) : plc (QT.node l x r).row k = plc l.row k := plc_left h
theorem qplc_mid : plc (QT.node l x r).row l.cn = l.sm := plc_mid
theorem qplc_right {k : Nat} (h : k ≤ r.cn) : plc (QT.node l x r).row (l.cn + 1 + k) = l.sm + x.2 + plc r.row k := plc_right h
theorem qplc_zero (t : QT) : plc t.row 0 = 0 := rfl
theorem rok_l (h : ROk (QT.node l x r).row) : ROk l.row := ROk.left (A := l.row) (B := x :: r.row) h
theorem rok_r (h : ROk (QT.node l x r).row) : ROk r.row := (ROk.right (A := l.row) (B := x :: r.row) h).cons
theorem rok_x (h : ROk (QT.node l x r).row) : 0 ≤ x.2 := (h.one x (by rw [row_node]; simp)).1
/-- The item within which a place lies, counted from that of a larger tree. -/
structure Fnd (T : QT) (off : Int) (t : QT) (a : Nat) (o : Int) : Prop where
  go : ∀ i, i < t.cn → plc t.row i ≤ o → o < plc t.row i + sz t.row i → a + i < T.cn ∧ plc T.row (a + i) ≤ off ∧ off < plc T.row (a + i) + sz T.row (a + i) ∧ off - plc T.row (a + i) = o - plc t.row i
theorem Fnd.refl (T : QT) (off : Int) : Fnd T off T 0 off := ⟨fun i h1 h2 h3 => by rw [Nat.zero_add]; exact ⟨h1, h2, h3, rfl⟩⟩
theorem Fnd.left {T : QT} {off : Int} {a : Nat} {o : Int} (h : Fnd T off (.node l x r) a o) : Fnd T off l a o := ⟨fun i h1 h2 h3 => by
  have := h.go i (by rw [cn_node]; omega)
  rw [qplc_left (by omega), sz_it, qit_left h1] at this
  exact this h2 h3⟩
theorem Fnd.mid {T : QT} {off : Int} {a : Nat} {o : Int} (h : Fnd T off (.node l x r) a o) (h2 : l.sm ≤ o) (h3 : o < l.sm + x.2) : a + l.cn < T.cn ∧ plc T.row (a + l.cn) ≤ off ∧ off < plc T.row (a + l.cn) + sz T.row (a + l.cn) ∧ off - plc T.row (a + l.cn) = o - l.sm := by
  have := h.go l.cn (by rw [cn_node]; omega)
  rw [qplc_mid, sz_it, qit_mid] at this
  exact this h2 h3
theorem Fnd.right {T : QT} {off : Int} {a : Nat} {o : Int} (h : Fnd T off (.node l x r) a o) : Fnd T off r (a + (l.cn + 1)) (o - (l.sm + x.2)) := ⟨fun i h1 h2 h3 => by
  have := h.go (l.cn + 1 + i) (by rw [cn_node]; omega)
  rw [qplc_right (by omega), sz_it, qit_right] at this
  obtain ⟨k1, k2, k3, k4⟩ := this (by omega) (by have : sz r.row i = (it r.row i).2 := rfl; omega)
  rw [show a + (l.cn + 1) + i = a + (l.cn + 1 + i) from by omega]
  exact ⟨k1, k2, k3, by omega⟩⟩
end
end Go.Proofs.Ythiiemjbigcinaa
