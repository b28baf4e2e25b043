/- The document's Blank, outside, parted, Last, behind. -/
import Derived.Test.YtopdbilkpkgccaaDoorMkMath
import Derived.Test.YtopdbilkpkgccaaDoorLnEnd
import Derived.Deep.RegionLaw
import Derived.Laws.Rows
namespace Go.Proofs.YtopdbilkpkgccaaDoor
open Go.RowKit

def DrN (w w' : World) : Prop := ∃ m, w' = w.drewN m
theorem DrN.refl (w : World) : DrN w w := ⟨0, rfl⟩
theorem DrN.drew {w w' : World} (h : DrN w w') : DrN w w'.drew := by obtain ⟨m, rfl⟩ := h; exact ⟨m + 1, rfl⟩
theorem DrN.trans {a b c : World} (h : DrN a b) (k : DrN b c) : DrN a c := by
  obtain ⟨m, rfl⟩ := h
  obtain ⟨j, rfl⟩ := k
  exact ⟨m + j, by rw [World.drewN_drewN]⟩
theorem DrN.up {w w' : World} (h : DrN w w') : Up w w' := by obtain ⟨m, rfl⟩ := h; exact Up.drewN w m
/-- A contract of a function that leaves the world as it was, where a walk is quiet. -/
theorem quietE {f : FuncId} {args : Array Value} {w : World} {n : Nat} {v : Value} (h : Calls Tryd.prog f args (w.drewN n) fun e w' => e = .returned v ∧ w.drewN n = w') : Calls Tryd.prog f args (w.drewN n) fun e w'' => e = .returned v ∧ ∃ m, w'' = w.drewN m :=
  h.mono fun _ _ ⟨he, hm⟩ => ⟨he, n, hm.symm⟩
theorem quietD {f : FuncId} {args : Array Value} {w : World} {n : Nat} {v : Value} (h : Calls Tryd.prog f args (w.drewN n) fun e w' => e = .returned v ∧ DrN (w.drewN n) w') : Calls Tryd.prog f args (w.drewN n) fun e w'' => e = .returned v ∧ ∃ m, w'' = w.drewN m := by
  refine h.mono fun _ _ ⟨he, m, hm⟩ => ⟨he, n + m, ?_⟩
  rw [hm, World.drewN_drewN]
theorem own_size (s : ByteArray) : (ownB s).size = endL (bl s) := by
  have h1 := congrArg List.length (ownB_bl s)
  have h2 := endL_le (bl s)
  rw [bl_len, List.length_take, bl_len] at h1
  rw [bl_len] at h2
  omega
theorem own_le (s : ByteArray) : (ownB s).size ≤ s.size := by
  have h2 := endL_le (bl s)
  rw [bl_len] at h2
  rw [own_size]
  exact h2
theorem own_bt {s : ByteArray} {i : Nat} (h : i < (ownB s).size) : bt s i = bt (ownB s) i := by
  have h1 := own_le s
  rw [own_size] at h h1
  have h2 : i < s.size := by omega
  have := bt_ext_in (s := s) (a := 0) (c := endL (bl s)) (i := i) (by omega) (by omega)
  rw [Nat.zero_add] at this
  exact this.symm
theorem endO_any (s : ByteArray) (w : World) (hs : (s.size : Int) ≤ 1000000) : Calls Tryd.prog 13 #[.string s] w fun e w' => e = .returned (.int .i64 ((ownB s).size : Nat)) ∧ w = w' := by
  rw [own_size]
  exact end_any s w (by omega)
set_option maxRecDepth 100000 in
theorem rbk_any (c : Nat) (w : World) : Calls Tryd.prog 12 #[.int .u8 (c : Nat)] w fun e w' => e = .returned (.bool (bk c)) ∧ w = w' := by
  by_cases h32 : c = 32
  · subst h32
    go_enter Tryd.func12, Tryd.ntmps12
    go_wp2
    go_ret
    exact ⟨rfl, rfl⟩
  have n1 : ((c : Int) == 32) = false := beq_eq_false_iff_ne.2 (by omega)
  by_cases h9 : c = 9
  · subst h9
    clear h32
    go_enter Tryd.func12, Tryd.ntmps12
    go_wp2
    go_ret
    exact ⟨rfl, rfl⟩
  have n2 : ((c : Int) == 9) = false := beq_eq_false_iff_ne.2 (by omega)
  have e : bk c = false := by unfold bk; rw [beq_eq_false_iff_ne.2 h32, beq_eq_false_iff_ne.2 h9]; rfl
  rw [e]
  clear h32 h9 e
  go_enter Tryd.func12, Tryd.ntmps12
  go_wp2
  go_ret
  exact ⟨rfl, rfl⟩
/-- Is a place one of a line's bytes, ahead of its end? -/
def outE (s : ByteArray) (a : Int) : Bool := decide (a < 0 ∨ ((ownB s).size : Int) ≤ a)
theorem blo_drop {s : ByteArray} {p E : Nat} (hE : (ownB s).size = E) (h : p < E) : (bl (ownB s)).drop p = bt s p :: (bl (ownB s)).drop (p + 1) := by
  rw [own_bt (by omega)]
  exact bl_drop (by omega)
theorem tk_snoc {X : List Nat} {p k : Nat} {c : Nat} (hp : p ≤ k) (hc : X[k]? = some c) : (X.take (k + 1)).drop p = (X.take k).drop p ++ [c] := by
  rw [List.take_add_one, hc, Option.toList_some, List.drop_append_of_le_length]
  rw [List.length_take]
  have : k < X.length := (List.getElem?_eq_some_iff.1 hc).1
  omega
theorem tk_len {X : List Nat} {p k : Nat} (hk : k ≤ X.length) : ((X.take k).drop p).length = k - p := by
  rw [List.length_drop, List.length_take]; omega
end Go.Proofs.YtopdbilkpkgccaaDoor
