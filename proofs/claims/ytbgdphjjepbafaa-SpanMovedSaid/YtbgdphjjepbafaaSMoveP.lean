/- The program's Move: where the places of a list go; its inner function, which puts one piece behind the others. -/
import Derived.Test.YtbgdphjjepbafaaSSets
namespace Go.Proofs.Ytbgdphjjepbafaa
open Go.RowKit

/-- A piece gone where the edit moves it. -/
def one1 (a : Int × Int × ByteArray) (r : Rng) : Rng := (mvP a r.1, mvP a (r.2 - 1) + 1)
def opt1 (a : Int × Int × ByteArray) (r : Rng) : List Rng := if r.1 < r.2 then [one1 a r] else []
/-- The pieces of a range that are left: ahead of what is taken away, and behind it. -/
def pc (a : Int × Int × ByteArray) (r : Rng) : List Rng := opt1 a (r.1, min r.2 a.1) ++ opt1 a (max r.1 (a.1 + a.2.1), r.2)
def pcsL (a : Int × Int × ByteArray) (F : List Rng) : List Rng := F.flatMap (pc a)
theorem opt1_len (a : Int × Int × ByteArray) (r : Rng) : (opt1 a r).length ≤ 1 := by unfold opt1; split <;> simp
theorem pcsL_len (a : Int × Int × ByteArray) : ∀ F : List Rng, (pcsL a F).length ≤ 2 * F.length
  | [] => Nat.le_refl _
  | r :: t => by
    have h1 := pcsL_len a t
    have h2 := opt1_len a (r.1, min r.2 a.1)
    have h3 := opt1_len a (max r.1 (a.1 + a.2.1), r.2)
    have e : pcsL a (r :: t) = (opt1 a (r.1, min r.2 a.1) ++ opt1 a (max r.1 (a.1 + a.2.1), r.2)) ++ pcsL a t := rfl
    rw [e, List.length_append, List.length_append, List.length_cons]
    omega
theorem pcsL_snoc (a : Int × Int × ByteArray) (F : List Rng) (r : Rng) : pcsL a (F ++ [r]) = pcsL a F ++ opt1 a (r.1, min r.2 a.1) ++ opt1 a (max r.1 (a.1 + a.2.1), r.2) := by
  unfold pcsL
  rw [List.flatMap_append]
  simp [pc]
theorem opt1_has {a : Int × Int × ByteArray} (h : EdIn a) {r : Rng} (h1 : 0 ≤ r.1) (h3 : r.2 ≤ 1099511627776) (hs : r.2 ≤ a.1 ∨ a.1 + a.2.1 ≤ r.1) (q : Int) : has (opt1 a r) q = true ↔ q < 1099511627776 ∧ ∃ x, r.1 ≤ x ∧ x < r.2 ∧ mvP a x = q := by
  have h' := h
  obtain ⟨g1, g2, g3, g4, g5⟩ := h'
  unfold opt1
  by_cases hlt : r.1 < r.2
  · rw [if_pos hlt]
    have hst : strad a r = false := by
      unfold strad
      rcases hs with hs | hs
      · rw [decide_eq_false (show ¬ a.1 < r.2 by omega), Bool.and_false]
      · rw [decide_eq_false (show ¬ r.1 < a.1 by omega), Bool.false_and]
    have e : mvR a r = [one1 a r] := by
      unfold mvR mvF
      simp only [hst, Bool.false_eq_true, if_false, List.nil_append]
      rfl
    rw [← e]
    exact mvR_has h h1 hlt h3 (fun x e1 e2 => by omega) q
  · rw [if_neg hlt, has_nil]
    constructor
    · intro e; cases e
    · rintro ⟨-, x, e1, e2, -⟩; omega
theorem pc_has {a : Int × Int × ByteArray} (h : EdIn a) {r : Rng} (h1 : 0 ≤ r.1) (_ : r.1 < r.2) (h3 : r.2 ≤ 1099511627776) (q : Int) : has (pc a r) q = true ↔ q < 1099511627776 ∧ ∃ x, r.1 ≤ x ∧ x < r.2 ∧ ¬ (a.1 ≤ x ∧ x < a.1 + a.2.1) ∧ mvP a x = q := by
  have h' := h
  obtain ⟨g1, g2, g3, g4, g5⟩ := h'
  unfold pc
  rw [has_append, Bool.or_eq_true, opt1_has h (r := (r.1, min r.2 a.1)) h1 (by show min r.2 a.1 ≤ _; omega) (.inl (by show min r.2 a.1 ≤ _; omega)), opt1_has h (r := (max r.1 (a.1 + a.2.1), r.2)) (by show 0 ≤ max _ _; omega) h3 (.inr (by show _ ≤ max _ _; omega))]
  simp only
  constructor
  · rintro (⟨e, x, e1, e2, e3⟩ | ⟨e, x, e1, e2, e3⟩)
    · exact ⟨e, x, e1, by omega, by omega, e3⟩
    · exact ⟨e, x, by omega, e2, by omega, e3⟩
  · rintro ⟨e, x, e1, e2, e3, e4⟩
    by_cases hx : x < a.1
    · exact .inl ⟨e, x, e1, by omega, e4⟩
    · exact .inr ⟨e, x, by omega, e2, e4⟩
theorem pcs_has {L F : List Rng} {a : Int × Int × ByteArray} (h : EdIn a) (hf : Form F) (hF : ∀ x, has F x = has L x) (q : Int) : has (pcsL a F ++ gap L a) q = true ↔ MvIn L a q := by
  have h' := h
  obtain ⟨g1, g2, g3, g4, g5⟩ := h'
  have hz : 0 ≤ (a.2.2.size : Int) := Int.natCast_nonneg _
  have hin : ∀ r ∈ F, ∀ x, r.1 ≤ x → x < r.2 → has F x = true := by
    intro r hr x e1 e2
    obtain ⟨b1, b2, b3⟩ := formA_mem (by omega) hf r hr
    unfold has
    rw [List.any_eq_true]
    exact ⟨r, hr, inR_iff.2 (by rw [clp_id b1 (by omega), clp_id (by omega) b3]; exact ⟨e1, e2⟩)⟩
  have hp : has (pcsL a F) q = true ↔ q < 1099511627776 ∧ ∃ x, has F x = true ∧ ¬ (a.1 ≤ x ∧ x < a.1 + a.2.1) ∧ mvP a x = q := by
    unfold pcsL has
    rw [List.any_eq_true]
    constructor
    · rintro ⟨s, hs, h2⟩
      obtain ⟨r, hr, hsr⟩ := List.mem_flatMap.1 hs
      obtain ⟨b1, b2, b3⟩ := formA_mem (by omega) hf r hr
      have : has (pc a r) q = true := by
        unfold has
        rw [List.any_eq_true]
        exact ⟨s, hsr, h2⟩
      obtain ⟨e1, x, e2, e3, e4, e5⟩ := (pc_has h b1 b2 b3 q).1 this
      exact ⟨e1, x, hin r hr x e2 e3, e4, e5⟩
    · rintro ⟨e1, x, e2, e3, e4⟩
      have e2' := e2
      rw [List.any_eq_true] at e2'
      obtain ⟨r, hr, h2⟩ := e2'
      obtain ⟨b1, b2, b3⟩ := formA_mem (by omega) hf r hr
      rw [inR_iff, clp_id b1 (by omega), clp_id (by omega) b3] at h2
      have := (pc_has h b1 b2 b3 q).2 ⟨e1, x, h2.1, h2.2, e3, e4⟩
      unfold has at this
      rw [List.any_eq_true] at this
      obtain ⟨s, hs, h4⟩ := this
      exact ⟨s, List.mem_flatMap.2 ⟨r, hr, hs⟩, h4⟩
  have hgap : has (gap L a) q = true ↔ has L (a.1 - 1) = true ∧ has L (a.1 + a.2.1) = true ∧ a.1 ≤ q ∧ q < a.1 + a.2.2.size := by
    unfold gap
    by_cases e : (has L (a.1 - 1) && has L (a.1 + a.2.1)) = true
    · rw [if_pos e, has_cons, has_nil, Bool.or_false, inR_iff, clp_id (by omega) (by omega), clp_id (by show 0 ≤ a.1 + (a.2.2.size : Int); omega) (by show a.1 + (a.2.2.size : Int) ≤ _; omega)]
      rw [Bool.and_eq_true] at e
      exact ⟨fun x => ⟨e.1, e.2, x.1, x.2⟩, fun x => ⟨x.2.2.1, x.2.2.2⟩⟩
    · rw [if_neg e, has_nil]
      constructor
      · intro x; cases x
      · rintro ⟨x1, x2, -⟩
        exact absurd (by rw [x1, x2]; rfl) e
  rw [has_append, Bool.or_eq_true, hp, hgap]
  unfold MvIn
  constructor
  · rintro (⟨e1, x, e2, e3, e4⟩ | e)
    · exact .inl ⟨e1, x, by rw [← hF]; exact e2, e3, e4⟩
    · exact .inr e
  · rintro (⟨e1, x, e2, e3, e4⟩ | e)
    · exact .inl ⟨e1, x, by rw [hF]; exact e2, e3, e4⟩
    · exact .inr e
/-- The cells of an edit in a block. -/
structure EdAt (W : World) (N : Nat) (a : Int × Int × ByteArray) : Prop where
  c0 : W.cell? ⟨N, 0, none⟩ = some (.int .i64 a.1)
  c1 : W.cell? ⟨N, 1, none⟩ = some (.int .i64 a.2.1)
  c2 : W.cell? ⟨N, 2, none⟩ = some (.string a.2.2)
theorem EdAt.keep {W W' : World} {N B : Nat} {a : Int × Int × ByteArray} (h : EdAt W N a) (hu : Below B W W') (hN : N < B) : EdAt W' N a :=
  ⟨(Below.cell hu (p := ⟨N, 0, none⟩) hN).trans h.c0, (Below.cell hu (p := ⟨N, 1, none⟩) hN).trans h.c1, (Below.cell hu (p := ⟨N, 2, none⟩) hN).trans h.c2⟩
set_option maxRecDepth 100000 in
set_option maxHeartbeats 4000000 in
theorem mvc_any (base : Nat) (a : Int × Int × ByteArray) (hE : EdIn a) (f t : Int) (hf : 0 ≤ f ∧ f ≤ 1099511627776) (ht : 0 ≤ t ∧ t ≤ 1099511627776) (Bn N : Nat) (v : Value) (O : List Rng) (W : World)
    (hb : Boxed W Bn 22 v) (hr : W.ownsRow base 29 2 v O.length (rgCells O)) (hl : O.length ≤ 100000) (he : EdAt W N a) (hBn : base ≤ Bn) (hW : base ≤ W.heap.size) :
    Calls Try.prog 36 #[.int .i64 f, .int .i64 t, .pointer (some ⟨Bn, 0, none⟩), .pointer (some ⟨N, 0, none⟩)] W fun e W' => e = .returned (.tuple #[]) ∧
      ∃ v', Boxed W' Bn 22 v' ∧ W'.ownsRow base 29 2 v' (O ++ opt1 a (f, t)).length (rgCells (O ++ opt1 a (f, t))) ∧ Below base W W' ∧ (∀ b, b < W.heap.size → b ≠ Bn → v.ownBlock ≠ some b → W'.heap[b]? = W.heap[b]?) := by
  unfold opt1
  simp only
  by_cases hlt : f < t
  · rw [if_pos hlt]
    obtain ⟨y1, hy1⟩ : ∃ y1, mvP a f = y1 := ⟨_, rfl⟩
    obtain ⟨y2, hy2⟩ : ∃ y2, mvP a (t - 1) = y2 := ⟨_, rfl⟩
    have hyb := mv_bound hE (x := t - 1) (by omega) (by omega)
    have HM1 := Lib.hid (fun W => hy1 ▸ move_any a f (by omega) W)
    have HM2 := Lib.hid (fun W => hy2 ▸ move_any a (t - 1) (by omega) W)
    have HO1 := Lib.hid (show one1 a (f, t) = (y1, y2 + 1) by unfold one1; rw [← hy1, ← hy2])
    rw [hy2] at hyb
    have q1 : IntKind.i64.wrap (t - 1) = t - 1 := IntWalk.i64_in _ (by omega)
    have q2 : IntKind.i64.wrap (y2 + 1) = y2 + 1 := IntWalk.i64_in _ (by omega)
    obtain ⟨p, d, x⟩ := a
    unfold edV at HM1 HM2
    obtain ⟨e0, e1, e2⟩ := he
    dsimp only at HM1 HM2 e0 e1 e2
    have b0 := hb.cell
    have b1 := hb.frozen
    clear hy1 hy2 hyb hE
    obtain ⟨i0, hi0, hz0, hz1, hz2⟩ := info_parts infoRange
    have HOWN := hr.drew
    have HBX : Boxed W.drew Bn 22 v := hb
    have HB3 : base ≤ W.drew.heap.size := hW
    have HUW : Up W W.drew := Up.drew W
    clear b1 hr hb
    go_enter Try.func36, Try.ntmps36
    go_wp2_with fail
    go_region_law (first
      | (refine step_append_lies _ (by rfl) _ _ _ (by rfl) base 29 i0 _ 2 16 Try.underlying22 hi0 hz0 hz1 hz2 rfl (by omega) _ O.length (rgCells O) (by rfl) (HOWN.alloc _)
          ⟨w3.heap.size, 0, none⟩ 1 1 [.int .i64 y1, .int .i64 (y2 + 1)] (by rfl) (by rfl) (World.news_of_block (cs := #[.int .i64 y1, .int .i64 (y2 + 1)]) (t := 29) (fr := (0, 0)) (heap_alloc_new w3 _)) (by simp [Value.oneCell'])
          (by omega) (by unfold maxLen; omega) (by omega) (by have := HB3; simp; omega) (w3.heap.size + 1) (by simp) ?_; intro g5 cap5 w5 hown5 hgrow _ _; obtain ⟨hv1, hv2, hr2, -, hb2⟩ := HBX.appended (by decide) HOWN HB3 hBn hown5 hgrow; have hc1 := hv1.cell; have hf1 := hv1.frozen)
      | (go_simp; go_at_call 24; ((with_reducible refine (HM1.out _).mono ?_); rintro e w3 ⟨rfl, hu3⟩; have e0 := cell_up hu3 e0; have e1 := cell_up hu3 e1; have e2 := cell_up hu3 e2; have b0 := cell_up hu3 b0; have HOWN := World.ownsRow.kept HOWN (Up.grownBy hu3) (by cases hv : Value.ownBlock _ <;> simp); have HBX := Boxed.kept HBX (Up.grownBy hu3) (fun e => by cases e); have HUW := Up.trans HUW hu3; have HB3 := Nat.le_trans HB3 (Below.size hu3); have b9 := (HBX.alloc (.cells #[.int .i64 y1, .int .i64 (y2 + 1)] 29)).cell))
      | (go_simp; go_at_call 24; ((with_reducible refine (HM2.out _).mono ?_); rintro e w3 ⟨rfl, hu3⟩; have e0 := cell_up hu3 e0; have e1 := cell_up hu3 e1; have e2 := cell_up hu3 e2; have b0 := cell_up hu3 b0; have HOWN := World.ownsRow.kept HOWN (Up.grownBy hu3) (by cases hv : Value.ownBlock _ <;> simp); have HBX := Boxed.kept HBX (Up.grownBy hu3) (fun e => by cases e); have HUW := Up.trans HUW hu3; have HB3 := Nat.le_trans HB3 (Below.size hu3); have b9 := (HBX.alloc (.cells #[.int .i64 y1, .int .i64 (y2 + 1)] 29)).cell)))
    all_goals
      go_wp2
      go_end0
      refine ⟨rfl, .slice (some ⟨g5, 0, none⟩) (O.length + 1) cap5, hv2, ?_, Below.trans (Below.mono HUW hW) hb2, fun b hb1 hb3 hb4 => ?_⟩
      · rw [HO1.out, rgCells_append, List.length_append]
        exact hr2
      · have k1 := Below.block HUW b hb1
        have k2 : b < w3.heap.size := Nat.lt_of_lt_of_le hb1 (Below.size HUW)
        refine (Below.heap_setCell _ _ _ b (fun e => hb3 e)).trans ((hgrow.block b (by simp; omega) (fun e => hb4 e.symm)).trans ((Below.heap_alloc _ _ b k2).trans k1))
  · rw [if_neg hlt, List.append_nil]
    have f0 : decide (f < t) = false := decide_eq_false hlt
    have HR := Lib.hid hr
    have HBx := Lib.hid hb
    clear hlt hr hb
    go_enter Try.func36, Try.ntmps36
    go_wp2
    go_end0
    exact ⟨rfl, v, HBx.out, HR.out, Below.refl _ _, fun _ _ _ _ => rfl⟩
end Go.Proofs.Ytbgdphjjepbafaa
