/- P11.4 whole, in plain mathematics. -/
import Derived.Test.YtilpfngjiolmaaaDoorYEnds
namespace Go.Proofs.YtilpfngjiolmaaaDoor

theorem tok_nojoin {m : Nat} {d : Int} {l : List Nat} {t : Tok} (h : tokL m d l = some t) (hk : goodK t.kind) : t.join = false := by
  cases l with
  | nil => cases h
  | cons c r =>
    rw [tokL] at h
    split at h
    · injection h with h
      subst h
      unfold textL
      dsimp only
      (repeat' split) <;> rfl
    · split at h
      · cases h
      · (repeat' split at h)
        all_goals (injection h with h; subst h)
        all_goals first
          | rfl
          | (unfold opTok; (repeat' split) <;> rfl)
          | (exfalso; unfold goodK at hk; simp at hk)
theorem scan_nojoin : ∀ (n p : Nat) (l : List Nat) (st : PSt), l.length ≤ n → StOk st → st.j = false → (∀ e ∈ (scanC p l st).1, goodK e.kind) → (scanC p l st).2.j = false
  | _, p, [], st, _, _, hj, _ => hj
  | 0, p, c :: r, st, hn, _, _, _ => absurd hn (by simp)
  | n + 1, p, c :: r, st, hn, hs, hj, hk => by
    cases hq : tokL st.mark st.depth (c :: r) with
    | none =>
      rw [scanC_blank hq] at hk ⊢
      exact scan_nojoin n (p + 1) r st (by simpa using hn) hs hj hk
    | some t =>
      have e := scanC_tok (p := p) hs hq
      rw [e] at hk ⊢
      have hkt := hk ⟨t.kind, p, p + t.len⟩ (by simp)
      have hpos := (tokL_ok hq hs.mark hs.d0 hs.d1).pos
      refine scan_nojoin n (p + t.len) _ _ (by rw [List.length_drop]; simp at hn ⊢; omega) (aft_ok hs hq) ?_ (fun e he => hk e (by simp [he]))
      show (st.j || t.join) = false
      rw [hj, tok_nojoin hq hkt]
      rfl
theorem scanE_zero (l : List Nat) (m : Nat) (d : Int) : scanE l 0 m d = scanC 0 (l.take (endL l)) (st0 m d) := by
  unfold scanE
  rw [scanL_eq]
  rfl
theorem endL_sp (a : List Nat) (h : 10 ∉ a) : endL (a ++ [32]) = a.length + 1 := by
  have := endL_split a [] h
  rw [this]
  simp [endL, endF]
/-- What stands behind a blank is read by itself. -/
theorem split_all (a b : List Nat) (d : Int) (h10 : 10 ∉ a) (hk : ∀ e ∈ (scanE (a ++ [32]) 0 0 d).1, goodK e.kind) :
    scanE (a ++ 32 :: b) 0 0 d = ((scanE (a ++ [32]) 0 0 d).1 ++ (scanE b 0 0 (scanE (a ++ [32]) 0 0 d).2.depth).1.map (shE (a.length + 1)),
        withF false (scanE (a ++ [32]) 0 0 d).2.s (scanE (a ++ [32]) 0 0 d).2.c (scanE b 0 0 (scanE (a ++ [32]) 0 0 d).2.depth).2) := by
  have ex : scanE (a ++ [32]) 0 0 d = scanC 0 (a ++ [32]) (st0 0 d) := by
    rw [scanE_zero, endL_sp a h10, List.take_of_length_le (by simp)]
  have ev : scanE (a ++ 32 :: b) 0 0 d = scanC 0 (a ++ 32 :: b.take (endL b)) (st0 0 d) := by
    rw [scanE_zero, endL_split a b h10]
    congr 1
    rw [List.take_append, List.take_of_length_le (by omega), show endL b + (a.length + 1) - a.length = endL b + 1 from by omega, List.take_succ_cons]
  rw [ex] at hk ⊢
  rw [ev]
  obtain ⟨h1, h2⟩ := scan_split (b.take (endL b)) a.length 0 a (st0 0 d) (Nat.le_refl _) (st0_ok 0 d) rfl hk
  rw [h1]
  have hj := scan_nojoin (a ++ [32]).length 0 (a ++ [32]) (st0 0 d) (Nat.le_refl _) (st0_ok 0 d) rfl hk
  have hok := (scan_cov (a ++ [32]) (a ++ [32]).length 0 (a ++ [32]) (st0 0 d) (st0_ok 0 d) rfl (Nat.zero_le _) (Nat.le_refl _)).2
  have hok' : StOk (scanC 0 (a ++ [32]) (st0 0 d)).2 := hok
  generalize scanC 0 (a ++ [32]) (st0 0 d) = X at h2 hj hok' ⊢
  obtain ⟨xs, xm, xd, xj, xss, xc⟩ := X
  dsimp only at h2 hj hok' ⊢
  subst h2 hj
  have h0 : 0 ≤ xd := hok'.d0
  have h1' : xd ≤ 1048576 := hok'.d1
  have est : (⟨0, xd, false, xss, xc⟩ : PSt) = withF false xss xc (st0 0 xd) := by
    unfold withF st0 markE depE
    simp only [if_neg (show ¬ xd < 0 by omega), if_neg (show ¬ (1048576 : Int) < xd by omega)]
    simp
  have ey : scanE b 0 0 xd = scanC 0 (b.take (endL b)) (st0 0 xd) := scanE_zero b 0 xd
  rw [est, ey]
  have e3 : scanC (0 + a.length + 1) (b.take (endL b)) (withF false xss xc (st0 0 xd)) = ((scanC 0 (b.take (endL b)) (st0 0 xd)).1.map (shE (a.length + 1)), withF false xss xc (scanC 0 (b.take (endL b)) (st0 0 xd)).2) := by
    have s1 := scan_shift (a.length + 1) (b.take (endL b)).length 0 (b.take (endL b)) (withF false xss xc (st0 0 xd))
    have s2 := scan_flags false xss xc (b.take (endL b)).length 0 (b.take (endL b)) (st0 0 xd)
    rw [s2] at s1
    rw [show 0 + a.length + 1 = 0 + (a.length + 1) from by omega]
    exact s1
  rw [e3]
end Go.Proofs.YtilpfngjiolmaaaDoor
