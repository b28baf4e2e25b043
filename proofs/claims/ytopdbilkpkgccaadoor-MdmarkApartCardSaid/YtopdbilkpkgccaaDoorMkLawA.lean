/- MdmarkApart, put together. -/
import Derived.Test.YtopdbilkpkgccaaDoorMkLawA1
import Derived.Test.YtopdbilkpkgccaaDoorMkLawA2
import Derived.Test.YtopdbilkpkgccaaDoorMkLawA3
import Derived.Test.YtopdbilkpkgccaaDoorMkLawA4
import Derived.Test.YtopdbilkpkgccaaDoorMkP5U
import Derived.Test.YtopdbilkpkgccaaDoorMkP5F
import Derived.Test.YtopdbilkpkgccaaDoorMkP5R
import Derived.Test.YtopdbilkpkgccaaDoorMkP5I
namespace Go.Proofs.YtopdbilkpkgccaaDoor
open Go.RowKit

theorem pt_at {r : List Nat} (h : ptL r = true) (hr : r ≠ []) : ∃ y, r[0]? = some y ∧ bk y = true := by
  cases r with
  | nil => exact absurd rfl hr
  | cons y v => exact ⟨y, rfl, h⟩
theorem noM_inj {a b c d e f : Nat} (h : (⟨a, b, c, d, e, f⟩ : Mk) = noM) : a = 0 ∧ b = 0 ∧ c = 0 ∧ d = 0 ∧ e = 0 ∧ f = 0 := by
  unfold noM at h
  injection h with h1 h2 h3 h4 h5 h6
  exact ⟨h1, h2, h3, h4, h5, h6⟩
theorem good5 {LA : Nat} {a b c d e : Mk} (ha : a = noM ∨ GoodM LA a) (hb : b = noM ∨ GoodM LA b) (hc : c = noM ∨ GoodM LA c) (hd : d = noM ∨ GoodM LA d) (he : e = noM ∨ GoodM LA e) : ∀ m ∈ [a, b, c, d, e], m = noM ∨ GoodM LA m := by
  intro m hm
  simp only [List.mem_cons, List.not_mem_nil, or_false] at hm
  rcases hm with rfl | rfl | rfl | rfl | rfl <;> assumption
set_option maxRecDepth 100000 in
set_option maxHeartbeats 4000000 in
theorem mdmarkapart_walk (w : World) (s : ByteArray) (a : Int) (hE : ErrT w) : Calls Tryd.prog 3 #[.string s, .int .i64 a] w fun e w' => e = .returned (.bool true) ∧ Up w w' := by
  by_cases hs : (s.size : Int) ≤ 20000
  case neg =>
    have hU := Up.refl w
    obtain ⟨Z, hZ⟩ : ∃ Z : Int, (s.size : Int) = Z := ⟨_, rfl⟩
    have hz : 20000 < Z := by omega
    clear hs
    go_enter Tryd.func3, Tryd.ntmps3
    go_wp2
    go_ret
    exact ⟨rfl, hU⟩
  have h1 := (fun (W : World) (hu : Up w W) => pRule_any s a W (by omega))
  have h2 := (fun (W : World) (hu : Up w W) => pHead_any s a W (by omega))
  have h3 := (fun (W : World) (hu : Up w W) => pUnder_any s a W (by omega))
  have h4 := (fun (W : World) (hu : Up w W) => pFence_any s a W (by omega))
  have h5 := (fun (W : World) (hu : Up w W) => pItem_any s a W (by omega) (hE.up hu))
  cases hl : restL (bl s) a with
  | nil =>
    rw [hl] at h1 h2 h3 h4 h5
    exact apart_none w s a hs h1 h2 h3 h4 h5
  | cons c r =>
    have ha : 0 ≤ a := by
      refine Int.not_lt.1 fun k => ?_
      unfold restL at hl
      rw [if_pos k] at hl
      cases hl
    obtain ⟨p, rfl⟩ := Int.eq_ofNat_of_zero_le ha
    have hr : restL (bl s) (p : Int) = ((bl s).take (endL (bl s))).drop p := by
      unfold restL
      rw [if_neg (by omega)]
      rfl
    rw [hl] at hr h1 h2 h3 h4 h5
    have hel := endL_le (bl s)
    have hll : (c :: r).length = endL (bl s) - p := by rw [hr, List.length_drop, List.length_take]; omega
    have hat : ∀ i y, (c :: r)[i]? = some y → (bl s)[p + i]? = some y := fun i y hy => by
      rw [hr, List.getElem?_drop, List.getElem?_take] at hy
      split at hy
      · exact hy
      · cases hy
    have hpE : p < endL (bl s) := by simp only [List.length_cons] at hll; omega
    obtain ⟨L, hL⟩ : ∃ L, laL (c :: r) = L := ⟨_, rfl⟩
    have hLl : L ≤ (c :: r).length := by rw [← hL]; exact laL_le _
    have hpn : (p : Int).toNat = p := rfl
    rw [hpn] at h1 h2 h3 h4 h5
    -- whatever stands there ends where the words end
    have key : 0 < L → (p < p + L ∧ p + L ≤ endL (bl s)) ∧ (∃ y, (bl s)[p + L - 1]? = some y ∧ bk y = false) ∧ (∀ j, p + L ≤ j → j < endL (bl s) → ∃ y, (bl s)[j]? = some y ∧ bk y = true) := fun h0 => by
      refine ⟨⟨by omega, by omega⟩, ?_, fun j hj1 hj2 => ?_⟩
      · obtain ⟨y, hy, hb⟩ := laL_last (c :: r) (by omega)
        rw [hL] at hy
        refine ⟨y, ?_, hb⟩
        have := hat _ _ hy
        rwa [show p + (L - 1) = p + L - 1 by omega] at this
      · have hjl : j - p < (c :: r).length := by omega
        refine ⟨(c :: r)[j - p], ?_, laL_rest (c :: r) (j - p) _ (by omega) (List.getElem?_eq_getElem hjl)⟩
        have := hat (j - p) _ (List.getElem?_eq_getElem hjl)
        rwa [show p + (j - p) = j by omega] at this
    have hpos : bk c = false → 0 < L := fun hb => by rw [← hL]; exact laL_pos hb
    have n1 := @rule_no p (c :: r)
    have n2 := @head_no p (c :: r)
    have n3 := @under_no p (c :: r)
    have n4 := @fence_no p (c :: r)
    have n5 := @item_no p (c :: r)
    have g1 := @good_rule p c r
    have g2 := @good_head p c r
    have g3 := @good_under p c r
    have g4 := @good_fence p c r
    have g5 := @good_item p c r
    have ru := @rule_under p c r
    have y1 : (ruleL p (c :: r)).2 = true → okR c = true ∧ 3 ≤ (c :: r).count c ∧ (ruleL p (c :: r)).1.ch = c := fun h => by obtain ⟨k1, -, k2, e⟩ := rule_yes h; exact ⟨k1, k2, by rw [e]⟩
    have y3 : (underL p (c :: r)).2 = true → (c = 61 ∨ c = 45) ∧ (underL p (c :: r)).1.ch = c ∧ (underL p (c :: r)).1.ct = rwL (· == c) (c :: r) := fun h => by obtain ⟨k1, -, e⟩ := under_yes h; exact ⟨k1, by rw [e], by rw [e]⟩
    have y4 : (fenceL p (c :: r)).2 = true → (c = 126 ∨ c = 96) := fun h => (fence_yes h).1
    rw [hL] at g1 g2 g3 g4 g5
    obtain ⟨R, hR⟩ : ∃ R, ruleL p (c :: r) = R := ⟨_, rfl⟩
    obtain ⟨H, hH⟩ : ∃ R, headL p (c :: r) = R := ⟨_, rfl⟩
    obtain ⟨U, hU⟩ : ∃ R, underL p (c :: r) = R := ⟨_, rfl⟩
    obtain ⟨F, hF⟩ : ∃ R, fenceL p (c :: r) = R := ⟨_, rfl⟩
    obtain ⟨I, hI⟩ : ∃ R, itemL p (c :: r) = R := ⟨_, rfl⟩
    rw [hR] at h1 n1 g1 ru y1
    rw [hH] at h2 n2 g2
    rw [hU] at h3 n3 g3 ru y3
    rw [hF] at h4 n4 g4 y4
    rw [hI] at h5 n5 g5
    obtain ⟨⟨r0, r1, r2, r3, r4, r5⟩, rb⟩ := R
    obtain ⟨⟨q0, q1, q2, q3, q4, q5⟩, hb⟩ := H
    obtain ⟨⟨u0, u1, u2, u3, u4, u5⟩, ub⟩ := U
    obtain ⟨⟨f0, f1, f2, f3, f4, f5⟩, fb⟩ := F
    obtain ⟨⟨i0, i1, i2, i3, i4, i5⟩, ib⟩ := I
    dsimp only at n1 n2 n3 n4 n5 g1 g2 g3 g4 g5 ru y1 y3 y4
    clear hR hH hU hF hI
    have hokR : okR c = true → c = 42 ∨ c = 45 ∨ c = 95 := fun h => by
      unfold okR at h
      simp at h
      omega
    have hdg : dgL c = true → 48 ≤ c ∧ c ≤ 57 := fun h => of_decide_eq_true h
    cases hb with
    | true =>
      obtain ⟨G, h35⟩ := g2 rfl
      obtain ⟨k1, k2, k3⟩ := key (hpos (by rw [h35]; rfl))
      cases rb with
      | true => have := hokR (y1 rfl).1; omega
      | false =>
      cases ub with
      | true => have := (y3 rfl).1; omega
      | false =>
      cases fb with
      | true => have := y4 rfl; omega
      | false =>
      cases ib with
      | true => rcases (g5 rfl).2 with h | h
                · have := hdg h; omega
                · have := h.1; omega
      | false =>
      obtain ⟨rfl, rfl, rfl, rfl, rfl, rfl⟩ := noM_inj (n1 rfl)
      obtain ⟨rfl, rfl, rfl, rfl, rfl, rfl⟩ := noM_inj (n3 rfl)
      obtain ⟨rfl, rfl, rfl, rfl, rfl, rfl⟩ := noM_inj (n4 rfl)
      obtain ⟨rfl, rfl, rfl, rfl, rfl, rfl⟩ := noM_inj (n5 rfl)
      have hla : q5 = p + L := G.la
      subst hla
      exact apart_h w s p (p + L) q0 q1 q2 q3 q4 hs h1 h2 h3 h4 h5 k1.1 k1.2 k2 k3 (good5 (.inl rfl) (.inr G) (.inl rfl) (.inl rfl) (.inl rfl))
    | false =>
    obtain ⟨rfl, rfl, rfl, rfl, rfl, rfl⟩ := noM_inj (n2 rfl)
    cases fb with
    | true =>
      have G := g4 rfl
      have hc := y4 rfl
      obtain ⟨k1, k2, k3⟩ := key (hpos (by rcases hc with h | h <;> rw [h] <;> rfl))
      cases rb with
      | true => have := hokR (y1 rfl).1; omega
      | false =>
      cases ub with
      | true => have := (y3 rfl).1; omega
      | false =>
      cases ib with
      | true => rcases (g5 rfl).2 with h | h
                · have := hdg h; omega
                · have := h.1; omega
      | false =>
      obtain ⟨rfl, rfl, rfl, rfl, rfl, rfl⟩ := noM_inj (n1 rfl)
      obtain ⟨rfl, rfl, rfl, rfl, rfl, rfl⟩ := noM_inj (n3 rfl)
      obtain ⟨rfl, rfl, rfl, rfl, rfl, rfl⟩ := noM_inj (n5 rfl)
      have hla : f5 = p + L := G.la
      subst hla
      exact apart_f w s p (p + L) f0 f1 f2 f3 f4 hs h1 h2 h3 h4 h5 k1.1 k1.2 k2 k3 (good5 (.inl rfl) (.inl rfl) (.inl rfl) (.inr G) (.inl rfl))
    | false =>
    obtain ⟨rfl, rfl, rfl, rfl, rfl, rfl⟩ := noM_inj (n4 rfl)
    cases rb with
    | true =>
      have G := g1 rfl
      obtain ⟨o1, o2, o3⟩ := y1 rfl
      have hc := hokR o1
      obtain ⟨k1, k2, k3⟩ := key (hpos (by rcases hc with h | h | h <;> rw [h] <;> rfl))
      have hla : r5 = p + L := G.la
      subst hla
      have o3 : r0 = c := o3
      cases ub with
      | true =>
        obtain ⟨e, c45, u3'⟩ := ru rfl rfl
        cases ib with
        | true =>
          exfalso
          rcases (g5 rfl).2 with h | h
          · have := hdg h; omega
          · have hct : u1 = rwL (· == c) (c :: r) := (y3 rfl).2.2
            have u3'' : 3 ≤ u1 := u3'
            obtain ⟨d, hd, hq⟩ := rwL_mem (· == c) (c :: r) 1 (by omega)
            have hdc : d = c := by simpa using hq
            obtain ⟨y, hy, hyb⟩ := pt_at h.2.2 (fun k => by rw [k] at hd; simp at hd)
            have : d = y := by
              have h2 : r[0]? = some d := by simpa using hd
              rw [hy] at h2
              injection h2 with h2
              exact h2.symm
            rw [← this, hdc, c45] at hyb
            cases hyb
        | false =>
          obtain ⟨rfl, rfl, rfl, rfl, rfl, rfl⟩ := noM_inj (n5 rfl)
          injection e with e0 e1 e2 e3 e4 e5
          subst e0 e1 e2 e3 e4 e5
          have r45 : r0 = 45 := by omega
          subst r45
          exact apart_ru w s p (p + L) r1 r2 r3 r4 hs h1 h2 h3 h4 h5 k1.1 k1.2 k2 k3 (good5 (.inr G) (.inl rfl) (.inr G) (.inl rfl) (.inl rfl)) u3'
      | false =>
        obtain ⟨rfl, rfl, rfl, rfl, rfl, rfl⟩ := noM_inj (n3 rfl)
        cases ib with
        | true =>
          obtain ⟨GI, h⟩ := g5 rfl
          have hlb : i5 = p + L := GI.la
          subst hlb
          rcases h with h | h
          · have := hdg h; omega
          · have hi0 : i0 = c := h.2.1
            have e0 : i0 = r0 := by omega
            subst e0
            have hrn : r ≠ [] := fun k => by
              rw [k] at o2
              simp at o2
            obtain ⟨y, hy, hyb⟩ := pt_at h.2.2 hrn
            exact apart_ri w s p (p + L) i0 r1 r2 r3 r4 i1 i2 i3 i4 hs h1 h2 h3 h4 h5 k1.1 k1.2 k2 k3 (good5 (.inr G) (.inl rfl) (.inl rfl) (.inl rfl) (.inr GI)) (by have := h.1; omega) ⟨y, hat 1 y (by simpa using hy), hyb⟩
        | false =>
          obtain ⟨rfl, rfl, rfl, rfl, rfl, rfl⟩ := noM_inj (n5 rfl)
          exact apart_r w s p (p + L) r0 r1 r2 r3 r4 hs h1 h2 h3 h4 h5 k1.1 k1.2 k2 k3 (good5 (.inr G) (.inl rfl) (.inl rfl) (.inl rfl) (.inl rfl))
    | false =>
    obtain ⟨rfl, rfl, rfl, rfl, rfl, rfl⟩ := noM_inj (n1 rfl)
    cases ub with
    | true =>
      have G := (g3 rfl).1
      have hc := (y3 rfl).1
      obtain ⟨k1, k2, k3⟩ := key (hpos (by rcases hc with h | h <;> rw [h] <;> rfl))
      have hla : u5 = p + L := G.la
      subst hla
      cases ib with
      | true =>
        obtain ⟨GI, h⟩ := g5 rfl
        have hlb : i5 = p + L := GI.la
        subst hlb
        exact apart_ui w s p (p + L) u0 u1 u2 u3 u4 i0 i1 i2 i3 i4 hs h1 h2 h3 h4 h5 k1.1 k1.2 k2 k3 (good5 (.inl rfl) (.inl rfl) (.inr G) (.inl rfl) (.inr GI))
      | false =>
        obtain ⟨rfl, rfl, rfl, rfl, rfl, rfl⟩ := noM_inj (n5 rfl)
        exact apart_u w s p (p + L) u0 u1 u2 u3 u4 hs h1 h2 h3 h4 h5 k1.1 k1.2 k2 k3 (good5 (.inl rfl) (.inl rfl) (.inr G) (.inl rfl) (.inl rfl))
    | false =>
    obtain ⟨rfl, rfl, rfl, rfl, rfl, rfl⟩ := noM_inj (n3 rfl)
    cases ib with
    | true =>
      obtain ⟨GI, h⟩ := g5 rfl
      have hb : bk c = false := by
        cases hq : bk c with
        | false => rfl
        | true =>
          exfalso
          unfold bk at hq
          simp at hq
          rcases h with h | h
          · have := hdg h; omega
          · have := h.1; omega
      obtain ⟨k1, k2, k3⟩ := key (hpos hb)
      have hlb : i5 = p + L := GI.la
      subst hlb
      exact apart_i w s p (p + L) i0 i1 i2 i3 i4 hs h1 h2 h3 h4 h5 k1.1 k1.2 k2 k3 (good5 (.inl rfl) (.inl rfl) (.inl rfl) (.inl rfl) (.inr GI))
    | false =>
      obtain ⟨rfl, rfl, rfl, rfl, rfl, rfl⟩ := noM_inj (n5 rfl)
      exact apart_none w s p hs h1 h2 h3 h4 h5
end Go.Proofs.YtopdbilkpkgccaaDoor
