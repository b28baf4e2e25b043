/- The document's Content and join. -/
import Derived.Test.YtmeipmkiknekjaaDoorHCut
import Derived.Test.YtmeipmkiknekjaaDoorHLawT
import Derived.Test.YtmeipmkiknekjaaDoorHRefOp
namespace Go.Proofs.YtmeipmkiknekjaaDoor
open Go.RowKit
set_option linter.unusedVariables false

set_option maxRecDepth 100000 in
set_option maxHeartbeats 4000000 in
theorem content_any (line : ByteArray) (w : World) (hs : (line.size : Int) ≤ 1000000) : Calls Tryd.prog 18 #[.string line] w fun e w' => e = .returned (.int .i64 ((con (bl line) : Nat) : Int)) ∧ w = w' := by
  by_cases h0 : 0 < line.size
  · obtain ⟨z, hz⟩ : ∃ z, line.size = z + 1 := ⟨line.size - 1, by omega⟩
    have hzl : z < line.size := by omega
    have hzi : (z : Int) < line.size := by omega
    have hz0 : (0 : Int) ≤ (z : Int) := by omega
    have hp0 : (0 : Int) < line.size := by omega
    have hez : IntKind.i64.wrap ((line.size : Int) - 1) = (z : Nat) := (IntWalk.i64_in _ (by omega)).trans (by omega)
    obtain ⟨y, hy⟩ : ∃ y, bt line z = y := ⟨_, rfl⟩
    have hx : line[z].toNat = y := by rw [bt_eq hzl]; exact hy
    have hzz : line.size - 1 = z := by omega
    by_cases h1 : y = 10
    · subst h1
      have hcon := con_lf h0 (by rw [hzz]; exact hy)
      rw [hcon, hzz]
      clear hz hs h0 hcon hzz hy
      go_enter Tryd.func18, Tryd.ntmps18
      go_wp2
      go_ret
      exact ⟨rfl, rfl⟩
    · have hcon := con_no (.inr (by rw [hzz, hy]; exact h1))
      have hyn : ((y : Int) == 10) = false := beq_eq_false_iff_ne.2 (by omega)
      rw [hcon]
      clear hz hs h0 hcon hzz hy h1
      go_enter Tryd.func18, Tryd.ntmps18
      go_wp2
      go_ret
      exact ⟨rfl, rfl⟩
  · have hcon := con_no (s := line) (.inl (by omega))
    rw [hcon]
    have hp0 : ¬ ((0 : Int) < line.size) := by omega
    have hp1 : decide ((0 : Int) < line.size) = false := decide_eq_false hp0
    have hp2 : decide (0 < line.size) = false := decide_eq_false h0
    clear h0 hcon hs
    go_enter Tryd.func18, Tryd.ntmps18
    go_wp2
    go_ret
    exact ⟨rfl, rfl⟩
/-- A join stands at q. -/
theorem join_iff {L : List Nat} {q : Nat} (hq : q < con L) : (L.drop q == [92, 10]) = (decide (q + 1 = con L) && (L[q]? == some 92) && decide (con L < L.length)) := by
  have hcl := con_le L
  have hql : q < L.length := by omega
  have hcd := con_drop q L (by omega)
  rw [Bool.eq_iff_iff]
  simp only [beq_iff_eq, Bool.and_eq_true, decide_eq_true_eq]
  constructor
  · intro h
    rw [h] at hcd
    have e : con [92, 10] = 1 := rfl
    have h2 := congrArg List.length h
    rw [List.length_drop] at h2
    simp only [List.length_cons, List.length_nil] at h2
    refine ⟨⟨by omega, ?_⟩, by omega⟩
    have := congrArg (fun l => l[0]?) h
    simpa [List.getElem?_drop] using this
  · intro ⟨⟨h1, h2⟩, h3⟩
    rw [List.drop_eq_getElem_cons hql]
    have h4 : L[q] = 92 := by rw [List.getElem?_eq_getElem hql] at h2; exact Option.some.inj h2
    rw [h4, h1]
    rcases con_rest L with h | h
    · have := congrArg List.length h
      rw [List.length_drop] at this
      simp only [List.length_nil] at this
      omega
    · rw [h]
set_option maxRecDepth 100000 in
set_option maxHeartbeats 4000000 in
theorem join_any (line : ByteArray) (q : Nat) (w : World) (hs : (line.size : Int) ≤ 1000000) (hq : q < con (bl line)) : Calls Tryd.prog 20 #[.string line, .int .i64 (q : Nat)] w fun e w' => e = .returned (.bool ((bl line).drop q == [92, 10])) ∧ w = w' := by
  have HC := Lib.hid (fun w => content_any line w hs)
  have hj := join_iff hq
  have hcl := (con_le (bl line)).1
  rw [bl_len] at hcl hj
  have hql : q < line.size := by omega
  rw [bl_at hql] at hj
  rw [hj]
  clear hj
  generalize con (bl line) = n at HC hq hcl
  obtain ⟨c, hc⟩ : ∃ c, bt line q = c := ⟨_, rfl⟩
  rw [hc]
  have hx : line[q].toNat = c := by rw [bt_eq hql]; exact hc
  have p0 : (0 : Int) ≤ (q : Int) := by omega
  have p1 : (q : Int) < line.size := by omega
  have e1 : IntKind.i64.wrap ((q : Int) + 1) = (q : Int) + 1 := IntWalk.i64_in _ (by omega)
  have hcase : (q + 1 ≠ n) ∨ (q + 1 = n ∧ c ≠ 92) ∨ (q + 1 = n ∧ c = 92 ∧ n < line.size) ∨ (q + 1 = n ∧ c = 92 ∧ ¬ n < line.size) := by omega
  have HQ := Lib.hid hcase
  clear hs hcl hq hcase hc
  rcases HQ.out with h1 | ⟨h1, h2⟩ | ⟨h1, rfl, h3⟩ | ⟨h1, rfl, h3⟩
  · have n1 : (((q : Int) + 1) == (n : Int)) = false := beq_eq_false_iff_ne.2 (by omega)
    rw [decide_eq_false h1]
    clear h1 HQ
    go_enter Tryd.func20, Tryd.ntmps20
    go_wp2_with (go_at_call 18; ((with_reducible refine (HC.out _).mono ?_); rintro e w1 ⟨rfl, rfl⟩))
    go_ret
    exact ⟨rfl, rfl⟩
  · have n1 : (((q : Int) + 1) == (n : Int)) = true := beq_iff_eq.2 (by omega)
    have n2 : ((c : Int) == 92) = false := beq_eq_false_iff_ne.2 (by omega)
    rw [decide_eq_true h1, show (some c == some 92) = false from by simpa using h2]
    clear h1 h2 HQ
    go_enter Tryd.func20, Tryd.ntmps20
    go_wp2_with (go_at_call 18; ((with_reducible refine (HC.out _).mono ?_); rintro e w1 ⟨rfl, rfl⟩))
    go_ret
    exact ⟨rfl, rfl⟩
  · have n1 : (((q : Int) + 1) == (n : Int)) = true := beq_iff_eq.2 (by omega)
    have n3 : (n : Int) < line.size := by omega
    rw [decide_eq_true h1, decide_eq_true h3]
    clear h1 h3 HQ
    go_enter Tryd.func20, Tryd.ntmps20
    go_wp2_with (go_at_call 18; ((with_reducible refine (HC.out _).mono ?_); rintro e w1 ⟨rfl, rfl⟩))
    go_ret
    exact ⟨rfl, rfl⟩
  · have n1 : (((q : Int) + 1) == (n : Int)) = true := beq_iff_eq.2 (by omega)
    have n3 : ¬ ((n : Int) < line.size) := by omega
    have n4 : decide ((n : Int) < line.size) = false := decide_eq_false n3
    have n5 : decide (n < line.size) = false := decide_eq_false h3
    rw [decide_eq_true h1, n5]
    clear h1 h3 HQ
    go_enter Tryd.func20, Tryd.ntmps20
    go_wp2_with (go_at_call 18; ((with_reducible refine (HC.out _).mono ?_); rintro e w1 ⟨rfl, rfl⟩))
    go_ret
    exact ⟨rfl, rfl⟩
/-- An operator of the content is one of the line. -/
theorem opL_con_take (L : List Nat) (q : Nat) (hq : q ≤ con L) : opL ((L.take (con L)).drop q) = opL (L.drop q) := by
  rw [take_drop']
  have hd := con_drop q L hq
  rcases con_rest (L.drop q) with h | h
  · rw [hd] at h
    rw [List.take_of_length_le]
    have := congrArg List.length h
    rw [List.length_drop] at this
    simp only [List.length_nil] at this
    omega
  · rw [hd] at h
    have hat : (L.drop q)[con L - q]? = some 10 := by
      have := congrArg (fun l => l[0]?) h
      simpa [List.getElem?_drop] using this
    unfold opL
    exact opF_take 10 (L.drop q) (con L - q) hat opsL ops_no10
theorem refOpC_any (w : World) (line : ByteArray) (q : Nat) (hq : q ≤ con (bl line)) (hs : (line.size : Int) ≤ 1000000) :
    Calls Tryd.prog 13 #[.string (line.extract 0 (con (bl line))), .int .i64 (q : Nat)] w fun e w' => e = .returned (.int .i64 ((opL ((bl line).drop q) : Nat) : Int)) ∧ Up w w' := by
  have hcl := (con_le (bl line)).1
  rw [bl_len] at hcl
  have hz : (line.extract 0 (con (bl line))).size = con (bl line) := by rw [ByteArray.size_extract]; omega
  have h := refOp_in w (line.extract 0 (con (bl line))) q (by rw [hz]; exact hq) (by rw [hz]; omega)
  rw [bl_extract, List.drop_zero, opL_con_take _ _ hq] at h
  exact h
end Go.Proofs.YtmeipmkiknekjaaDoor
