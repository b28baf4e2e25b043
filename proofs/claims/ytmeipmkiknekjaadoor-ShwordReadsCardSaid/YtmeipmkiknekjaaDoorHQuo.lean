/- A text in quotes is one word: in plain mathematics. -/
import Derived.Test.YtmeipmkiknekjaaDoorHRead
namespace Go.Proofs.YtmeipmkiknekjaaDoor

theorem rd_blanks {L : List Nat} {mk : Nat} : ∀ (n p : Nat), p + n ≤ con L → (∀ j, p ≤ j → j < p + n → hdW (L.drop j) = true) → rd L mk p = rd L mk (p + n)
  | 0, p, _, _ => rfl
  | n + 1, p, h, hw => by
    obtain ⟨h1, h2⟩ := rd_step (mk := mk) [] (by omega : p < con L)
    have e : nxH L p mk [] = (p + 1, mk, []) := by unfold nxH; rw [if_pos (hw p (Nat.le_refl _) (by omega))]
    rw [e] at h1 h2
    have h1 : (rd L mk p).1 = (rd L mk (p + 1)).1 := h1
    have h2 : (rd L mk p).2 = (rd L mk (p + 1)).2 := h2
    have ih := rd_blanks (mk := mk) n (p + 1) (by omega) (fun j a b => hw j (by omega) (by omega))
    rw [show p + (n + 1) = p + 1 + n from by omega, ← ih]
    exact Prod.ext h1 h2
theorem con_app : ∀ (A : List Nat) {R : List Nat}, R ≠ [] → con (A ++ R) = A.length + con R
  | [], R, _ => by simp
  | [a], R, h => by
    cases R with
    | nil => exact absurd rfl h
    | cons d r => show con (a :: d :: r) = 1 + con (d :: r); rw [con]; omega
  | a :: d :: A, R, h => by
    have ih := con_app (d :: A) h
    show con (a :: d :: (A ++ R)) = _
    rw [con]
    rw [List.cons_append] at ih
    rw [ih]
    simp only [List.length_cons]
    omega
theorem wd_tail (b : Nat) : wd 0 (List.replicate b 9 ++ [10]) = (0, [], 0) := by
  refine wd_stop ?_
  cases b with
  | zero => rfl
  | succ b =>
    rw [List.replicate_succ, List.cons_append, stp_cons]
    by_cases h0 : con (9 :: (List.replicate b 9 ++ [10])) = 0
    · rw [if_pos h0]
    · rw [if_neg h0, if_neg (by decide), if_neg (by decide), if_pos (by unfold bhd; simp [hdW, isW])]
theorem wd_quote : ∀ (T R : List Nat), 39 ∉ T → R ≠ [] → wd 0 R = (0, [], 0) → wd 39 (T ++ 39 :: R) = (T.length + 1, T, 0)
  | [], R, _, hR, hw => by
    have hc := con_app [39] hR
    have hs : stp 39 (39 :: R) = some (1, [], 0) := by
      rw [stp_cons, if_neg (by show con ([39] ++ R) ≠ 0; rw [hc]; simp), if_pos rfl, if_pos rfl]
    rw [List.nil_append, wd_step hs]
    show (1 + (wd 0 R).1, [] ++ (wd 0 R).2.1, (wd 0 R).2.2) = _
    rw [hw]
    rfl
  | c :: T, R, h39, hR, hw => by
    have hc := con_app (c :: T) (show 39 :: R ≠ [] by simp)
    have hne : c ≠ 39 := fun e => h39 (by simp [e])
    have hs : stp 39 (c :: (T ++ 39 :: R)) = some (1, [c], 39) := by
      rw [stp_cons, if_neg (by show con (c :: T ++ 39 :: R) ≠ 0; rw [hc]; simp), if_pos rfl, if_neg hne]
    have ih := wd_quote T R (fun h => h39 (by simp [h])) hR hw
    rw [List.cons_append, wd_step hs]
    show (1 + (wd 39 (T ++ 39 :: R)).1, [c] ++ (wd 39 (T ++ 39 :: R)).2.1, (wd 39 (T ++ 39 :: R)).2.2) = _
    rw [ih]
    simp only [List.length_cons, List.singleton_append]
    rw [show 1 + (T.length + 1) = T.length + 1 + 1 from by omega]
theorem rdE_quote (a b : Nat) (T : List Nat) (h39 : 39 ∉ T) (L : List Nat) (hL : L = List.replicate a 32 ++ (39 :: (T ++ 39 :: (List.replicate b 9 ++ [10])))) :
    rdE L 0 0 = ([⟨51, a, a + T.length + 2, T, true, true⟩], 0) := by
  have hRn : List.replicate b 9 ++ [10] ≠ [] := by simp
  have hcR : con (List.replicate b 9 ++ [10]) = b := by rw [con_app _ (by simp), List.length_replicate]; rfl
  have hc : con L = a + T.length + 2 + b := by
    rw [hL, con_app _ (by simp), List.length_replicate, show (39 :: (T ++ 39 :: (List.replicate b 9 ++ [10]))) = (39 :: (T ++ [39])) ++ (List.replicate b 9 ++ [10]) from by simp, con_app _ hRn, hcR]
    simp
    omega
  have hda : L.drop a = 39 :: (T ++ 39 :: (List.replicate b 9 ++ [10])) := by
    rw [hL, List.drop_append_of_le_length (by simp), List.drop_of_length_le (by simp), List.nil_append]
  have hdj : ∀ j, j < a → hdW (L.drop j) = true := fun j hj => by
    rw [hL, List.drop_append_of_le_length (by simp; omega), List.drop_replicate, show a - j = (a - j - 1) + 1 from by omega, List.replicate_succ]
    rfl
  have hdb : L.drop (a + T.length + 2) = List.replicate b 9 ++ [10] := by
    rw [show a + T.length + 2 = a + (T.length + 2) from by omega, ← List.drop_drop, hda, show (39 :: (T ++ 39 :: (List.replicate b 9 ++ [10]))) = (39 :: (T ++ [39])) ++ (List.replicate b 9 ++ [10]) from by simp, List.drop_append_of_le_length (by simp), List.drop_of_length_le (by simp), List.nil_append]
  have hdk : ∀ j, a + T.length + 2 ≤ j → j < a + T.length + 2 + b → hdW (L.drop j) = true := fun j h1 h2 => by
    rw [show j = a + T.length + 2 + (j - (a + T.length + 2)) from by omega, ← List.drop_drop, hdb, List.drop_append_of_le_length (by simp; omega), List.drop_replicate, show b - (j - (a + T.length + 2)) = (b - (j - (a + T.length + 2)) - 1) + 1 from by omega, List.replicate_succ]
    rfl
  have e0 : rdE L 0 0 = rd L 0 0 := by
    unfold rdE
    rw [if_neg (by omega), if_neg (by decide)]
    rfl
  have hbhd : bhd (39 :: (T ++ 39 :: (List.replicate b 9 ++ [10]))) = false := by
    have h0 : con (39 :: (T ++ 39 :: (List.replicate b 9 ++ [10]))) ≠ 0 := by
      have := con_drop a L (by omega)
      rw [hda] at this
      omega
    have ho : opL (39 :: (T ++ 39 :: (List.replicate b 9 ++ [10]))) = 0 := rfl
    unfold bhd
    rw [decide_eq_false h0, ho]
    rfl
  have hst : stp 0 (L.drop a) = some (1, [], 39) := by
    have h0 : con (39 :: (T ++ 39 :: (List.replicate b 9 ++ [10]))) ≠ 0 := by
      have := con_drop a L (by omega)
      rw [hda] at this
      omega
    rw [hda, stp_cons, if_neg h0, if_neg (by decide), if_neg (by decide), if_neg (by rw [hbhd]; decide), if_pos rfl]
  have hwd : wd 0 (L.drop a) = (T.length + 2, T, 0) := by
    rw [wd_step hst]
    show (1 + (wd 39 ((L.drop a).drop 1)).1, [] ++ (wd 39 ((L.drop a).drop 1)).2.1, (wd 39 ((L.drop a).drop 1)).2.2) = _
    rw [hda]
    show (1 + (wd 39 (T ++ 39 :: (List.replicate b 9 ++ [10]))).1, [] ++ (wd 39 (T ++ 39 :: (List.replicate b 9 ++ [10]))).2.1, (wd 39 (T ++ 39 :: (List.replicate b 9 ++ [10]))).2.2) = _
    rw [wd_quote T _ h39 hRn (wd_tail b)]
    simp only [List.nil_append]
    rw [show 1 + (T.length + 1) = T.length + 2 from by omega]
  have hpc : wpc L a 0 = ⟨51, a, a + T.length + 2, T, true, true⟩ := by
    unfold wpc
    rw [hwd]
    simp only [if_true, List.append_nil]
    congr 1
    · rw [hda]; rfl
  have htk : tk L a 0 = (⟨51, a, a + T.length + 2, T, true, true⟩, 0) := by
    unfold tk
    rw [if_neg (by rw [hda]; simp), if_neg (by rw [hda]; exact Nat.lt_irrefl 0), if_neg (by rw [hda]; simp), hpc, hwd]
  rw [e0, rd_blanks a 0 (by omega) (fun j _ h => hdj j (by omega)), Nat.zero_add]
  obtain ⟨h1, h2⟩ := rd_step (mk := 0) [] (by omega : a < con L)
  have e : nxH L a 0 [] = (a + T.length + 2, 0, [⟨51, a, a + T.length + 2, T, true, true⟩]) := by
    unfold nxH
    rw [if_neg (by rw [hda]; simp [hdW, isW]), htk]
    rfl
  rw [e] at h1 h2
  have hend : rd L 0 (a + T.length + 2) = ([], 0) := by rw [rd_blanks b _ (by omega) hdk, rd_end (by omega)]
  have h1 : (rd L 0 a).1 = [⟨51, a, a + T.length + 2, T, true, true⟩] ++ (rd L 0 (a + T.length + 2)).1 := h1
  have h2 : (rd L 0 a).2 = (rd L 0 (a + T.length + 2)).2 := h2
  rw [hend] at h1 h2
  exact Prod.ext h1 h2
end Go.Proofs.YtmeipmkiknekjaaDoor
