/- An argument that is an edit: opened, and shut. -/
import Derived.Test.YtbgdphjjepbafaaBase
import Derived.Lib.SmallJoins
import Derived.OpenShut
import Derived.ShutString
import Derived.ChangeOld
namespace Go.Proofs.Ytbgdphjjepbafaa
open Go.Joins Go.ChangeShapes Go.WideShapes Go.RowKit Go.Deep

/-- An edit as a value. -/
def edV (a : Int × Int × ByteArray) : Value := .agg #[.int .i64 a.1, .int .i64 a.2.1, .string a.2.2]
def EdOk (a : Int × Int × ByteArray) : Prop := (Lit.int .i64 a.1).wf = true ∧ (Lit.int .i64 a.2.1).wf = true ∧ a.2.2.size ≤ maxLen
section
variable {H : Type} {enc : TypeId × Value → H} {w : World} {base : Nat} {spare : Nat → Bool} {held : Bool}
def edD (H : Type) (a : Int × Int × ByteArray) : DataW H := .agg [.lit (.int .i64 a.1), .lit (.int .i64 a.2.1), .lit (.string a.2.2.data.toList)]
set_option maxRecDepth 100000 in
theorem open_edit {r : Reach} {b0 : Nat} {v : Value} {d : DataW H} {p : List MemPlace} (hv : Value.okWide Try.prog w r b0 33 v) (h : DataW.Trod enc Try.prog w base spare held 33 v d p) :
    ∃ a : Int × Int × ByteArray, v = edV a ∧ d = edD H a ∧ p = [] ∧ EdOk a := by
  obtain ⟨c0, c1, c2, y0, y1, y2, m, rfl, rfl, rfl, h0, h1, h2⟩ := open_agg3 Try.underlying33 (by kernel_rfl) (by kernel_rfl) hv h
  obtain ⟨n0, e0, rfl, g0⟩ := DataW.trod_int Try.underlying3 h0
  obtain ⟨n1, e1, rfl, g1⟩ := DataW.trod_int Try.underlying3 h1
  obtain ⟨n2, e2, rfl, g2⟩ := DataW.trod_string Try.underlying9 h2
  simp only [List.cons.injEq, and_true] at e0 e1 e2
  subst e0 e1 e2
  exact ⟨(n0, n1, n2), rfl, rfl, rfl, g0, g1, g2⟩
set_option maxRecDepth 100000 in
theorem shut_edit {a : Int × Int × ByteArray} (h : EdOk a) : DataW.Trod enc Try.prog w base spare held 33 (edV a) (edD H a) [] := by
  have := shut_agg3 (enc := enc) (P := Try.prog) (w := w) (base := base) (spare := spare) (held := held) (t := 33) (v0 := .int .i64 a.1) (v1 := .int .i64 a.2.1) (v2 := .string a.2.2)
    (y0 := (.lit (.int .i64 a.1), [])) (y1 := (.lit (.int .i64 a.2.1), [])) (y2 := (.lit (.string a.2.2.data.toList), [])) Try.underlying33 (by kernel_rfl) (by kernel_rfl)
    ⟨1, by simp [DataW.trod, Try.underlying3, h.1]⟩ ⟨1, by simp [DataW.trod, Try.underlying3, h.2.1]⟩ ⟨1, by simp [DataW.trod, Try.underlying9, h.2.2]⟩
  exact this
end
end Go.Proofs.Ytbgdphjjepbafaa
