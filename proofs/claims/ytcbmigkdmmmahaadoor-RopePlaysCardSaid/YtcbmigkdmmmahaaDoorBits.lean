/- What the program's operations on bits come to, in numbers; and what its three tables hold, as the walks ask for it. -/
import Derived.Test.YtcbmigkdmmmahaaDoorMath
import Derived.Test.YtcbmigkdmmmahaaDoorRows
import Derived.WalkKit
import Derived.Laws.BitsAllLaws
import Derived.Lib.LaidTab
import Derived.LaidMore
import Derived.WalkSmall
import Derived.Stop.LaidErr
namespace Go.Proofs.YtcbmigkdmmmahaaDoor
open Go.RowKit

set_option maxRecDepth 100000 in
theorem and192 : ∀ x : Nat, x < 256 → ((x &&& 192 = 128) ↔ (128 ≤ x ∧ x < 192)) := by decide +kernel
set_option maxRecDepth 100000 in
theorem xorLead : ∀ x : Nat, x < 256 → (x ^^^ leadOf (szOf x)) = x - leadOf (szOf x) ∨ szOf x = 0 := by decide +kernel
set_option maxRecDepth 100000 in
theorem szTab : ∀ x : Nat, x < 256 → (([1, 1, 1, 1, 1, 1, 1, 1, 1, 1, 1, 1, 1, 1, 1, 1, 0, 0, 0, 0, 0, 0, 0, 0, 2, 2, 2, 2, 3, 3, 4, 0] : List Int).getD (x / 8) 0) = (szOf x : Int) := by decide +kernel
theorem leadOf_lt (n : Nat) : leadOf n < 256 := by
  unfold leadOf
  repeat' split
  all_goals omega

theorem wcont_yes (x : Nat) (h : x < 256) (h1 : 128 ≤ x ∧ x < 192) : (bits BinOp.and IntKind.u8 (x : Int) 192 != 128) = false := by
  have e := u8_and_nat x 192 h (by omega)
  rw [show ((192 : Nat) : Int) = 192 from rfl] at e
  rw [e, (and192 x h).2 h1]; rfl
theorem wcont_no (x : Nat) (h : x < 256) (h1 : ¬ (128 ≤ x ∧ x < 192)) : (bits BinOp.and IntKind.u8 (x : Int) 192 != 128) = true := by
  have e := u8_and_nat x 192 h (by omega)
  rw [show ((192 : Nat) : Int) = 192 from rfl] at e
  rw [e, bne_iff_ne]
  intro h2
  exact h1 ((and192 x h).1 (by exact_mod_cast h2))
theorem wlow (x : Nat) (h : x < 256) : bits BinOp.and IntKind.u8 (x : Int) 63 = ((x % 64 : Nat) : Int) := by
  have e := u8_and_nat x 63 h (by omega)
  rw [nat_mask6] at e
  exact e
theorem wlead (x : Nat) (h : x < 256) (h0 : szOf x ≠ 0) : wrap32 (bits BinOp.xor IntKind.u8 (x : Int) (leadOf (szOf x) : Nat)) = ((x - leadOf (szOf x) : Nat) : Int) := by
  rw [u8_xor_nat x _ h (leadOf_lt _), (xorLead x h).resolve_right h0]
  unfold wrap32; omega
theorem ofInt_i32 (a : Nat) (ha : a < 2147483648) : (BitVec.ofInt 32 (a : Int)).toNat = a := by
  rw [BitVec.ofInt_natCast, BitVec.toNat_ofNat]; exact Nat.mod_eq_of_lt (by omega)
theorem i32_or_nat (a b : Nat) (ha : a < 2147483648) (hb : b < 2147483648) : bits .or .i32 (a : Int) (b : Int) = ((a ||| b : Nat) : Int) := by
  have hx : a ||| b < 2 ^ 31 := Nat.or_lt_two_pow (by omega) (by omega)
  show IntKind.i32.wrap ((BitVec.ofInt 32 (a : Int) ||| BitVec.ofInt 32 (b : Int)).toNat : Int) = _
  rw [BitVec.toNat_or, ofInt_i32 a ha, ofInt_i32 b hb]
  simp [IntKind.wrap, IntKind.bits, IntKind.signed]
  omega
theorem i32_and_nat (a b : Nat) (ha : a < 2147483648) (hb : b < 2147483648) : bits .and .i32 (a : Int) (b : Int) = ((a &&& b : Nat) : Int) := by
  have hx : a &&& b < 2 ^ 31 := Nat.and_lt_two_pow _ (by omega)
  show IntKind.i32.wrap ((BitVec.ofInt 32 (a : Int) &&& BitVec.ofInt 32 (b : Int)).toNat : Int) = _
  rw [BitVec.toNat_and, ofInt_i32 a ha, ofInt_i32 b hb]
  simp [IntKind.wrap, IntKind.bits, IntKind.signed]
  omega
theorem wstep (c x : Nat) (hc : c < 1048576) (h : x < 256) : bits BinOp.or IntKind.i32 (wrap32 ((c : Int) * 64)) (wrap32 (bits BinOp.and IntKind.u8 (x : Int) 63)) = ((c * 64 + x % 64 : Nat) : Int) := by
  have e1 : wrap32 ((c : Int) * 64) = ((c * 64 : Nat) : Int) := by unfold wrap32; omega
  have e2 : wrap32 ((x % 64 : Nat) : Int) = ((x % 64 : Nat) : Int) := by unfold wrap32; omega
  rw [wlow x h, e1, e2, i32_or_nat _ _ (by omega) (by omega), nat_join 6 (c * 64) (x % 64) (by omega) (by omega)]

/-- The names of the program's three tables. -/
noncomputable def nmSizes : String := ((Tryd.prog.globals[1]?).map (·.name)).getD ""
noncomputable def nmLeads : String := ((Tryd.prog.globals[2]?).map (·.name)).getD ""
noncomputable def nmLeasts : String := ((Tryd.prog.globals[3]?).map (·.name)).getD ""
/-- What the program's three tables hold. -/
structure Tabs (w : World) : Prop where
  sizes : Lib.TabIs Tryd.prog w nmSizes .i64 [1, 1, 1, 1, 1, 1, 1, 1, 1, 1, 1, 1, 1, 1, 1, 1, 0, 0, 0, 0, 0, 0, 0, 0, 2, 2, 2, 2, 3, 3, 4, 0]
  leads : Lib.TabIs Tryd.prog w nmLeads .u8 [0, 0, 192, 224, 240]
  leasts : Lib.TabIs Tryd.prog w nmLeasts .i32 [0, 0, 128, 2048, 65536]
theorem gSizes : Tryd.prog.globalNamed nmSizes = some 1 := by kernel_rfl
theorem gLeads : Tryd.prog.globalNamed nmLeads = some 2 := by kernel_rfl
theorem gLeasts : Tryd.prog.globalNamed nmLeasts = some 3 := by kernel_rfl
theorem tSizes : (Tryd.prog.globals[1]?).map (·.type) = some 112 := by kernel_rfl
theorem tLeads : (Tryd.prog.globals[2]?).map (·.type) = some 113 := by kernel_rfl
theorem tLeasts : (Tryd.prog.globals[3]?).map (·.type) = some 114 := by kernel_rfl

theorem tab_of_mem {P : Program} {W : World} {name : String} {k : IntKind} {zs : List Int} {g : Nat} {t e : TypeId} {n : Nat}
    (hg : P.globalNamed name = some g) (hty : (P.globals[g]?).map (·.type) = some t) (ht : P.underlying t = some (.array n e)) (he : P.underlying e = some (.int k)) (hce : P.cellsOf e = 1) (hct : P.cellsOf t = n) :
    ∀ {l : List (String × DataW Unit)}, (name, Lib.tabData k zs) ∈ l → laidMet P l W → Lib.TabIs P W name k zs := by
  intro l
  induction l with
  | nil => intro h; cases h
  | cons x l ih =>
    intro hm h
    by_cases e : x = (name, Lib.tabData k zs)
    · subst e; exact Lib.tabIs_of_head hg hty ht he hce hct h
    · have hm' : (name, Lib.tabData k zs) ∈ l := by
        rcases List.mem_cons.1 hm with h1 | h1
        · exact absurd h1.symm e
        · exact h1
      exact ih hm' h.tail
theorem tabs_of_laid {W : World} {l : List (String × DataW Unit)} (h1 : ∃ i : Nat, l[i]? = some (nmSizes, Rows.laid_indenture_utf_sizes)) (h2 : ∃ i : Nat, l[i]? = some (nmLeads, Rows.laid_indenture_utf_leads)) (h3 : ∃ i : Nat, l[i]? = some (nmLeasts, Rows.laid_indenture_utf_leasts)) (h : laidMet Tryd.prog l W) : Tabs W where
  sizes := tab_of_mem gSizes tSizes Tryd.underlying112 Tryd.underlying3 (by kernel_rfl) (by kernel_rfl) (h1.elim fun _ e => List.mem_of_getElem? e) h
  leads := tab_of_mem gLeads tLeads Tryd.underlying113 Tryd.underlying5 (by kernel_rfl) (by kernel_rfl) (h2.elim fun _ e => List.mem_of_getElem? e) h
  leasts := tab_of_mem gLeasts tLeasts Tryd.underlying114 Tryd.underlying21 (by kernel_rfl) (by kernel_rfl) (h3.elim fun _ e => List.mem_of_getElem? e) h

theorem Tabs.cSize {w : World} (h : Tabs w) (x : Nat) (hx : x < 256) : w.cell? ⟨1, x / 8, none⟩ = some (.int .i64 (szOf x : Nat)) := by
  rw [h.sizes.cell gSizes (x / 8) (by simp; omega), szTab x hx]
theorem Tabs.cLead {w : World} (h : Tabs w) (n : Nat) (hn : n ≤ 4) : w.cell? ⟨2, n, none⟩ = some (.int .u8 (leadOf n : Nat)) := by
  rw [h.leads.cell gLeads n (by simp; omega)]
  have : n = 0 ∨ n = 1 ∨ n = 2 ∨ n = 3 ∨ n = 4 := by omega
  rcases this with rfl | rfl | rfl | rfl | rfl <;> rfl
theorem Tabs.cLeast {w : World} (h : Tabs w) (n : Nat) (hn : n ≤ 4) : w.cell? ⟨3, n, none⟩ = some (.int .i32 (leastOf n : Nat)) := by
  rw [h.leasts.cell gLeasts n (by simp; omega)]
  have : n = 0 ∨ n = 1 ∨ n = 2 ∨ n = 3 ∨ n = 4 := by omega
  rcases this with rfl | rfl | rfl | rfl | rfl <;> rfl
theorem Tabs.big {w : World} (h : Tabs w) : 3 < w.heap.size := by
  have e1 := h.sizes.cell gSizes 0 (by simp)
  have e2 := h.leads.cell gLeads 0 (by simp)
  have e3 := h.leasts.cell gLeasts 0 (by simp)
  have f : ∀ {b : Nat} {v : Value}, w.cell? ⟨b, 0, none⟩ = some v → b < w.heap.size := by
    intro b v hb
    by_cases hlt : b < w.heap.size
    · exact hlt
    · have : w.heap[b]? = none := by simp; omega
      simp [World.cell?, this] at hb
  have := f e1; have := f e2; have := f e3
  omega
theorem Tabs.of_blocks {w w' : World} (h : Tabs w) (hb : ∀ k, k < 3 + 1 → w'.heap[k]? = w.heap[k]?) : Tabs w' := by
  have f : ∀ {name : String} {g : Nat} {k : IntKind} {zs : List Int}, Tryd.prog.globalNamed name = some g → g < 3 + 1 → Lib.TabIs Tryd.prog w name k zs → Lib.TabIs Tryd.prog w' name k zs := by
    intro name g k zs hg hlt ht
    unfold Lib.TabIs at ht ⊢
    rw [← ht]
    unfold World.var?
    rw [hg]
    simp only [Option.bind_some]
    rw [hb g hlt]
  exact ⟨f gSizes (by omega) h.sizes, f gLeads (by omega) h.leads, f gLeasts (by omega) h.leasts⟩
theorem Tabs.of_below {w w' : World} {n : Nat} (h : Tabs w) (hn : 3 + 1 ≤ n) (hb : Below n w w') : Tabs w' := h.of_blocks fun k hk => hb.block k (by omega)
end Go.Proofs.YtcbmigkdmmmahaaDoor
