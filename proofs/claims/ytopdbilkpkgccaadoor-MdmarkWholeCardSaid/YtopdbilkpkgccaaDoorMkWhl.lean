/- A heading that is laid: plain mathematics. -/
import Derived.Test.YtopdbilkpkgccaaDoorMkMath2
namespace Go.Proofs.YtopdbilkpkgccaaDoor

def clsL (q : Nat) : List Nat := if q = 0 then [] else 32 :: 9 :: List.replicate q 35
def hdL (A : List Nat) (n : Nat) (t : List Nat) (q : Nat) : List Nat := A ++ (List.replicate n 35 ++ (32 :: 32 :: (t ++ clsL q)))
theorem laL_app : ∀ (u v : List Nat), 0 < laL v → laL (u ++ v) = u.length + laL v
  | [], v, _ => by simp
  | c :: u, v, h => by
    have ih := laL_app u v h
    rw [List.cons_append]
    show (if laL (u ++ v) = 0 ∧ bk c = true then 0 else laL (u ++ v) + 1) = _
    rw [if_neg (by omega), ih, List.length_cons]
    omega
theorem laL_rep {q : Nat} : laL (List.replicate q 35) = q := by
  refine laL_at _ q (by simp) (fun i c hi hc => ?_) (fun c h0 hc => ?_)
  · have := (List.getElem?_eq_some_iff.1 hc).1
    rw [List.length_replicate] at this
    omega
  · have := List.mem_of_getElem? hc
    rw [(List.mem_replicate.1 this).2]
    rfl
theorem cls_no10 (q : Nat) : 10 ∉ clsL q := by
  unfold clsL
  split
  · simp
  · simp
theorem rw35_rep (n : Nat) (v : List Nat) (h : rwL (· == 35) v = 0) : rwL (· == 35) (List.replicate n 35 ++ v) = n := by
  rw [rwL_app _ _ v (fun x hx => by rw [(List.mem_replicate.1 hx).2]; rfl), h, List.length_replicate, Nat.add_zero]
section
variable {A t : List Nat} {n q : Nat}
theorem hd_rest (hA : 10 ∉ A) (ht : 10 ∉ t) : restL (hdL A n t q ++ [32, 13, 10]) (A.length : Int) = List.replicate n 35 ++ ((32 :: 32 :: (t ++ clsL q)) ++ [32]) := by
  have hno : 10 ∉ hdL A n t q ++ [32, 13] := by
    unfold hdL
    have := cls_no10 q
    simp only [List.mem_append, List.mem_cons, List.mem_replicate]
    rintro (h | h)
    · rcases h with h | h | h | h | h | h
      · exact hA h
      · omega
      · omega
      · omega
      · exact ht h
      · exact this h
    · rcases h with h | h | h
      · omega
      · omega
      · cases h
  have e1 : hdL A n t q ++ [32, 13, 10] = (hdL A n t q ++ [32, 13]) ++ 10 :: [] := by simp
  have hl : lastB false (hdL A n t q ++ [32, 13]) = true := by
    have : hdL A n t q ++ [32, 13] = (hdL A n t q ++ [32]) ++ [13] := by simp
    rw [this, lastB_snoc]
    rfl
  unfold restL
  rw [if_neg (by omega), e1, endL_at hno, if_pos hl]
  have e2 : (hdL A n t q ++ [32, 13]).length - 1 = (hdL A n t q ++ [32]).length := by simp
  rw [e2]
  have e3 : (hdL A n t q ++ [32, 13]) ++ 10 :: [] = (hdL A n t q ++ [32]) ++ [13, 10] := by simp
  rw [e3, List.take_left', Int.toNat_natCast]
  · unfold hdL
    rw [List.append_assoc A, List.drop_left']
    · simp
    · rfl
  · rfl
theorem head_laid (hA : 10 ∉ A) (ht : 10 ∉ t) (hn : 0 < n) (hn6 : n ≤ 6) (h0 : laL t = t.length) (hpos : 0 < t.length) (hrow : tlL 35 t = 0 ∨ (tlL 35 t < t.length ∧ bk (t.getD (t.length - tlL 35 t - 1) 0) = false)) :
    headL A.length (restL (hdL A n t q ++ [32, 13, 10]) (A.length : Int)) = (⟨0, n, A.length + n, A.length + n + (2 + skL t), A.length + n + (2 + t.length), (hdL A n t q).length⟩, true) := by
  rw [hd_rest hA ht]
  obtain ⟨H, hH⟩ : ∃ H, 32 :: 32 :: (t ++ clsL q) = H := ⟨_, rfl⟩
  have hHl : H.length = 2 + t.length + (clsL q).length := by rw [← hH]; simp; omega
  have hrw : rwL (· == 35) (List.replicate n 35 ++ (H ++ [32])) = n := rw35_rep n _ (by rw [← hH]; rfl)
  have hsk : skL t < t.length := by have := skL_lt (l := t) (by omega); omega
  have hskH : skL H = 2 + skL t := by
    rw [← hH]
    have e1 : skL (32 :: 32 :: (t ++ clsL q)) = skL (t ++ clsL q) + 1 + 1 := rfl
    have e2 : skL (t ++ clsL q) = skL t := by
      rw [skL_rw, skL_rw]
      exact rwL_app_lt bk t _ (by rw [← skL_rw]; exact hsk)
    rw [e1, e2]
    omega
  have hlaH : laL H = H.length := by
    rw [← hH]
    by_cases hq : q = 0
    · have : clsL q = [] := by unfold clsL; rw [if_pos hq]
      rw [this, List.append_nil]
      have := laL_app [32, 32] t (by omega)
      rw [show 32 :: 32 :: t = [32, 32] ++ t from rfl, this, h0]
      simp
      omega
    · have : clsL q = [32, 9] ++ List.replicate q 35 := by unfold clsL; rw [if_neg hq]; rfl
      rw [this]
      have h1 := laL_app (32 :: 32 :: (t ++ [32, 9])) (List.replicate q 35) (by rw [laL_rep]; omega)
      have e : 32 :: 32 :: (t ++ ([32, 9] ++ List.replicate q 35)) = (32 :: 32 :: (t ++ [32, 9])) ++ List.replicate q 35 := by simp
      rw [e, h1, laL_rep]
      simp
      omega
  have hdr : (List.replicate n 35 ++ (H ++ [32])).drop n = H ++ [32] := by rw [List.drop_left']; simp
  have hla : laL (H ++ [32]) = H.length := by rw [laL_snoc, if_pos (show bk 32 = true from rfl), hlaH]
  have htk : (H ++ [32]).take H.length = H := by rw [List.take_left']; rfl
  have hpt : ptL (H ++ [32]) = true := by rw [← hH]; rfl
  have hcn : cnL H = (2 + skL t, 2 + t.length) := by
    by_cases hq : q = 0
    · have hc : clsL q = [] := by unfold clsL; rw [if_pos hq]
      have hHt : H = [32, 32] ++ t := by rw [← hH, hc]; simp
      have htl : tlL 35 H = tlL 35 t := by
        unfold tlL
        rw [hHt, List.reverse_append]
        refine rwL_app_lt _ _ _ ?_
        rw [List.length_reverse]
        have := hrow
        unfold tlL at this
        omega
      have hgd : ∀ i, i < t.length → H.getD (2 + i) 0 = t.getD i 0 := fun i hi => by
        rw [hHt, List.getD_eq_getElem?_getD, List.getD_eq_getElem?_getD, List.getElem?_append_right (by simp)]
        simp
      have hcc : ccL H = H.length := by
        unfold ccL
        rw [htl]
        have hl2 : H.length = 2 + t.length := by rw [hHt]; simp; omega
        refine if_pos ⟨?_, ?_⟩
        · rcases hrow with h | h <;> omega
        · rcases hrow with h | h
          · rw [h]
            have e : H.length - 0 - 1 = 2 + (t.length - 1) := by omega
            rw [e, hgd _ (by omega)]
            obtain ⟨c, hc1, hc2⟩ := laL_last t (by omega)
            rw [h0] at hc1
            rw [List.getD_eq_getElem?_getD, hc1]
            exact hc2
          · have e : H.length - tlL 35 t - 1 = 2 + (t.length - tlL 35 t - 1) := by omega
            rw [e, hgd _ (by omega)]
            exact h.2
      have htkH : H.take (ccL H) = H := by rw [hcc, List.take_length]
      unfold cnL
      rw [htkH, if_neg (by omega), hskH, hlaH, hHt]
      simp
      omega
    · have hc : clsL q = [32, 9] ++ List.replicate q 35 := by unfold clsL; rw [if_neg hq]; rfl
      have hHt : H = (([32, 32] ++ t) ++ [32, 9]) ++ List.replicate q 35 := by rw [← hH, hc]; simp
      have htl : tlL 35 H = q := by
        unfold tlL
        rw [hHt, List.reverse_append, List.reverse_replicate]
        refine rw35_rep q _ ?_
        rw [List.reverse_append]
        rfl
      have hHl2 : H.length = t.length + 4 + q := by rw [hHt]; simp; omega
      have hcc : ccL H = t.length + 4 := by
        unfold ccL
        rw [htl]
        have e : H.length - q = t.length + 4 := by omega
        rw [e]
        refine if_neg (fun k => ?_)
        have h9 : H.getD (t.length + 4 - 1) 0 = 9 := by
          rw [hHt, List.getD_eq_getElem?_getD, List.getElem?_append_left (by simp), List.getElem?_append_right (by simp)]
          have : t.length + 4 - 1 - ([32, 32] ++ t).length = 1 := by simp
          rw [this]
          rfl
        rw [h9] at k
        exact absurd k.2 (by decide)
      have htkH : H.take (ccL H) = ([32, 32] ++ t) ++ [32, 9] := by
        rw [hcc, hHt, List.take_left']
        simp
      have hla2 : laL (([32, 32] ++ t) ++ [32, 9]) = 2 + t.length := by
        rw [show ([32, 32] ++ t) ++ [32, 9] = ((([32, 32] ++ t) ++ [32]) ++ [9]) by simp, laL_snoc, if_pos (show bk 9 = true from rfl), laL_snoc, if_pos (show bk 32 = true from rfl), laL_app [32, 32] t (by omega), h0]
        rfl
      unfold cnL
      rw [htkH, if_neg (by omega), hskH, hla2]
  rw [hH, headL_eq hrw, hdr, hla, htk, hcn, if_neg (by rw [hpt]; simp; omega)]
  have hL : (hdL A n t q).length = A.length + n + H.length := by
    unfold hdL
    rw [hH]
    simp
    omega
  rw [hL]
end
end Go.Proofs.YtopdbilkpkgccaaDoor
