/- Whether a list of events may be put: the program's closures. -/
import Derived.Test.YtkkefgbmdghklaaBMap
namespace Go.Proofs.Ytkkefgbmdghklaa
open Go.RowKit

set_option maxRecDepth 100000 in
set_option maxHeartbeats 1000000 in
theorem follow_no (w : World) (Bf Ba : Nat) (at_ far p : Int) (h1 : Boxed w Bf 3 (.int .i64 far)) (h2 : Boxed w Ba 3 (.int .i64 at_)) (ha : 0 ≤ at_ ∧ at_ ≤ 1048576) (hf : 0 ≤ far ∧ far ≤ 1048576) (hp : p < far - at_ ∨ 1048576 - at_ < p) :
    Calls Try.prog 23 #[.int .i64 p, .pointer (some ⟨Bf, 0, none⟩), .pointer (some ⟨Ba, 0, none⟩)] w fun e w' => e = .returned (.bool false) ∧ w = w' := by
  have c1 := h1.cell
  have c2 := h2.cell
  have q1 : IntKind.i64.wrap (far - at_) = far - at_ := IntWalk.i64_in _ (by omega)
  have q2 : IntKind.i64.wrap (1048576 - at_) = 1048576 - at_ := IntWalk.i64_in _ (by omega)
  clear h1 h2 ha hf
  by_cases k1 : p < far - at_
  · clear hp
    go_enter Try.func23, Try.ntmps23
    go_wp2
    go_ret
    exact ⟨rfl, rfl⟩
  · have k2 : 1048576 - at_ < p := by omega
    have f1 : decide (p < far - at_) = false := decide_eq_false k1
    clear hp k1
    go_enter Try.func23, Try.ntmps23
    go_wp2
    go_ret
    exact ⟨rfl, rfl⟩
set_option maxRecDepth 100000 in
set_option maxHeartbeats 1000000 in
theorem follow_yes (w : World) (Bf Ba : Nat) (at_ far p : Int) (h1 : Boxed w Bf 3 (.int .i64 far)) (h2 : Boxed w Ba 3 (.int .i64 at_)) (ha : 0 ≤ at_ ∧ at_ ≤ 1048576) (hf : 0 ≤ far ∧ far ≤ 1048576) (hp : far - at_ ≤ p ∧ p ≤ 1048576 - at_) :
    Calls Try.prog 23 #[.int .i64 p, .pointer (some ⟨Bf, 0, none⟩), .pointer (some ⟨Ba, 0, none⟩)] w fun e w' => e = .returned (.bool true) ∧ Boxed w' Bf 3 (.int .i64 (at_ + p)) ∧ w.grownBy w' (some Bf) := by
  have c1 := h1.cell
  have c2 := h2.cell
  have z1 := h1.frozen
  have q1 : IntKind.i64.wrap (far - at_) = far - at_ := IntWalk.i64_in _ (by omega)
  have q2 : IntKind.i64.wrap (1048576 - at_) = 1048576 - at_ := IntWalk.i64_in _ (by omega)
  have q3 : IntKind.i64.wrap (at_ + p) = at_ + p := IntWalk.i64_in _ (by omega)
  have f1 : decide (p < far - at_) = false := decide_eq_false (by omega)
  have f2 : decide (1048576 - at_ < p) = false := decide_eq_false (by omega)
  have H1 := Lib.hid h1
  clear h1 h2 ha hf hp
  go_enter Try.func23, Try.ntmps23
  go_wp2
  go_ret
  exact ⟨rfl, H1.out.set _, setCell_grown _ _ _ _⟩
/-- What the closures stand on. -/
structure AskS (W : World) (mb Bd Ba Bf Bo Bc : Nat) (at_ far : Int) (o : Nat) : Prop where
  bd : Boxed W Bd 52 (.map (some mb))
  ba : Boxed W Ba 3 (.int .i64 at_)
  bf : Boxed W Bf 3 (.int .i64 far)
  bo : Boxed W Bo 3 (.int .i64 o)
  bc : Boxed W Bc 59 (.func (.func 23) #[] #[.pointer (some ⟨Bf, 0, none⟩), .pointer (some ⟨Ba, 0, none⟩)])
  map : MapT W mb
  n1 : Bf ≠ Ba
  n2 : Bf ≠ Bo
  n3 : Bo ≠ Ba
theorem boxed_ne {W : World} {a b : Nat} {s t : TypeId} {u v : Value} (h : Boxed W a s u) (k : Boxed W b t v) (hne : s ≠ t) : a ≠ b := by
  rintro rfl
  have := h.symm.trans k
  injection this with this
  injection this with _ this
  exact hne this
theorem map_ne {W : World} {mb b : Nat} {t : TypeId} {v : Value} (h : MapT W mb) (k : Boxed W b t v) : mb ≠ b := by
  rintro rfl
  obtain ⟨es, clock, h1, -⟩ := h
  have := h1.symm.trans k
  injection this with this
  cases this
theorem AskS.grown {W W' : World} {mb Bd Ba Bf Bo Bc : Nat} {at_ far : Int} {o : Nat} {r : Option Nat} (h : AskS W mb Bd Ba Bf Bo Bc at_ far o) (hg : W.grownBy W' r) (hr : ∀ x, r = some x → x ≠ mb ∧ x ≠ Bd ∧ x ≠ Ba ∧ x ≠ Bf ∧ x ≠ Bo ∧ x ≠ Bc) : AskS W' mb Bd Ba Bf Bo Bc at_ far o :=
  ⟨h.bd.kept hg (fun e => (hr _ e.symm).2.1 rfl), h.ba.kept hg (fun e => (hr _ e.symm).2.2.1 rfl), h.bf.kept hg (fun e => (hr _ e.symm).2.2.2.1 rfl), h.bo.kept hg (fun e => (hr _ e.symm).2.2.2.2.1 rfl), h.bc.kept hg (fun e => (hr _ e.symm).2.2.2.2.2 rfl),
    h.map.same (hg.block _ h.map.lt (fun e => (hr _ e.symm).1 rfl)), h.n1, h.n2, h.n3⟩
theorem AskS.up {W W' : World} {mb Bd Ba Bf Bo Bc : Nat} {at_ far : Int} {o : Nat} (h : AskS W mb Bd Ba Bf Bo Bc at_ far o) (hu : Up W W') : AskS W' mb Bd Ba Bf Bo Bc at_ far o := h.grown (Up.grownBy hu) (fun x e => by cases e)
/-- How far it came has turned. -/
theorem AskS.far {W W' : World} {mb Bd Ba Bf Bo Bc : Nat} {at_ far far' : Int} {o : Nat} (h : AskS W mb Bd Ba Bf Bo Bc at_ far o) (hg : W.grownBy W' (some Bf)) (hb : Boxed W' Bf 3 (.int .i64 far')) : AskS W' mb Bd Ba Bf Bo Bc at_ far' o := by
  have e1 := boxed_ne h.bd h.bf (by decide)
  have e2 := boxed_ne h.bc h.bf (by decide)
  exact ⟨h.bd.kept hg (fun e => e1 (by injection e)), h.ba.kept hg (fun e => h.n1 (by injection e with e; exact e.symm)), hb, h.bo.kept hg (fun e => h.n2 (by injection e with e; exact e.symm)), h.bc.kept hg (fun e => e2 (by injection e)),
    h.map.same (hg.block _ h.map.lt (fun e => map_ne h.map h.bf (by injection e))), h.n1, h.n2, h.n3⟩
/-- How many are open has turned. -/
theorem AskS.opn {W : World} {mb Bd Ba Bf Bo Bc : Nat} {at_ far : Int} {o : Nat} (h : AskS W mb Bd Ba Bf Bo Bc at_ far o) (o' : Nat) : AskS (W.setCell ⟨Bo, 0, none⟩ (.int .i64 o')) mb Bd Ba Bf Bo Bc at_ far o' := by
  have hg := setCell_grown W Bo 0 (.int .i64 o')
  have e1 := boxed_ne h.bd h.bo (by decide)
  have e2 := boxed_ne h.bc h.bo (by decide)
  exact ⟨h.bd.kept hg (fun e => e1 (by injection e)), h.ba.kept hg (fun e => h.n3 (by injection e with e; exact e.symm)), h.bf.kept hg (fun e => h.n2 (by injection e)), h.bo.set _, h.bc.kept hg (fun e => e2 (by injection e)),
    h.map.same (hg.block _ h.map.lt (fun e => map_ne h.map h.bo (by injection e))), h.n1, h.n2, h.n3⟩
end Go.Proofs.Ytkkefgbmdghklaa
