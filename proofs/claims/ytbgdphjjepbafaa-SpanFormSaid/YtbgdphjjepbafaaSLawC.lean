/- SpanSets walked for any program that answers so. -/
import Derived.Test.YtbgdphjjepbafaaSLawB
namespace Go.Proofs.Ytbgdphjjepbafaa
open Go.RowKit

/-- All lists that are known, in one world. -/
structure AllArg (w W : World) (l : List (Option Addr × Nat × List Rng)) : Prop where
  all : ∀ t ∈ l, Arg W t.1 t.2.1 t.2.2
  u : Up w W
theorem AllArg.up {w W W' : World} {l : List (Option Addr × Nat × List Rng)} (h : AllArg w W l) (hu : Up W W') : AllArg w W' l := ⟨fun t ht => (h.all t ht).up hu, h.u.trans hu⟩
theorem AllArg.keep {w W W' : World} {l : List (Option Addr × Nat × List Rng)} (h : AllArg w W l) (hu : Below W.heap.size W W') : AllArg w W' l :=
  ⟨fun t ht => ⟨(h.all t ht).rgs.keep hu (h.all t ht).lt, fun b e => Nat.lt_of_lt_of_le ((h.all t ht).lt b e) (Below.size hu), (h.all t ht).ok⟩, h.u.trans hu⟩
theorem AllArg.add {w W : World} {l : List (Option Addr × Nat × List Rng)} {A : Option Addr} {n : Nat} {L : List Rng} (h : AllArg w W l) (g : Arg W A n L) : AllArg w W ((A, n, L) :: l) :=
  ⟨fun t ht => by
    rcases List.mem_cons.1 ht with e | e
    · subst e; exact g
    · exact h.all t e, h.u⟩
theorem rgCells_put : ∀ (G : List Rng) (i : Nat) (x y : Int), i < G.length → ((rgCells G).set (i * 2) (.int .i64 x)).set (i * 2 + 1) (.int .i64 y) = rgCells (G.set i (x, y))
  | r :: t, 0, x, y, _ => rfl
  | r :: t, i + 1, x, y, h => by
    have := rgCells_put t i x y (by simpa using h)
    rw [show (i + 1) * 2 = i * 2 + 1 + 1 from by omega]
    show Value.int .i64 r.1 :: .int .i64 r.2 :: ((rgCells t).set (i * 2) (.int .i64 x)).set (i * 2 + 1) (.int .i64 y) = _
    rw [this]
    rfl
/-- A list in form that an answer holds, in the answer's world. -/
theorem fp_arg {K : Int → Bool} {B : Nat} {w : World} {e : Ending} {w' : World} (h : FP K B w e w') : ∃ A c F, e = .returned (.slice A F.length c) ∧ RowR w' w.heap.size (.slice A F.length c) F ∧ Arg w' A F.length F ∧ Form F ∧ (∀ p, has F p = K p) ∧ F.length ≤ B ∧ Up w w' := by
  obtain ⟨v, F, rfl, h1, h2, h3, h4, h5⟩ := h
  obtain ⟨A, c, e, ha⟩ := rowR_arg h1 (form_ok h2)
  subst e
  exact ⟨A, c, F, rfl, h1, ha, h2, h3, h4, h5⟩
theorem own_arg (W : World) (A : Option Addr) (n c : Nat) (L : List Rng) (ha : Arg W A n L) (hA : A = none → n = 0 ∧ c = 0) (hn : n ≤ 1000000) :
    Calls Try.prog 9 #[.slice A n c] W fun e w' => ∃ A' c', e = .returned (.slice A' n c') ∧ Arg w' A' n L ∧ Up W w' := by
  refine (own_any W A n c L ha.rgs hA hn).mono ?_
  rintro e w' ⟨v, rfl, ho, hu⟩
  obtain ⟨A', c', e, h⟩ := rowR_arg ho ha.ok
  rw [ha.rgs.len] at e h
  exact ⟨A', c', by rw [e], h, hu⟩
/-- The document's own list of two lists' places. -/
theorem of_arg (W : World) (A A' : Option Addr) (n n' c c' : Nat) (L M : List Rng) (how : Int) (ha : Arg W A n L) (hb : Rgs W A' n' M) (hb2 : ∀ b, A' = some b → b.block < W.heap.size) (hn : n + n' ≤ 10000) (F : List Rng) (hf : Form F) (hh : ∀ p, has F p = hasB how L M p) :
    Calls Try.prog 15 #[.slice A n c, .slice A' n' c', .int .i64 how] W fun e w' => ∃ A5 c5, e = .returned (.slice A5 F.length c5) ∧ Arg w' A5 F.length F ∧ Up W w' := by
  refine (of_any W A A' n n' c c' L M how ha.rgs hb ha.lt hb2 hn).mono ?_
  rintro e w' ⟨v, G, rfl, h1, h2, h3, -, h5⟩
  obtain rfl : G = F := h2.one hf (fun p => (h3 p).trans (hh p).symm)
  obtain ⟨A5, c5, e, h⟩ := rowR_arg h1 (form_ok h2)
  exact ⟨A5, c5, by rw [e], h, h5⟩
set_option maxRecDepth 100000 in
set_option maxHeartbeats 1000000 in
theorem sets_big (hC : SpanC) (w : World) (A A' : Option Addr) (n n' c c' : Nat) (hb : 200 < n ∨ 200 < n') :
    Calls Try.prog 3 #[.slice A n c, .slice A' n' c'] w fun e w' => e = .returned (.bool true) ∧ Up w w' := by
  have HK := Lib.hid (fun W => swakes_any hC W)
  clear hC
  by_cases h1 : 200 < (n : Int)
  · clear hb
    go_enter Try.func3, Try.ntmps3
    go_wp2_with (go_at_call 8; ((with_reducible refine (HK.out _).mono ?_); rintro e w1 ⟨rfl, hu⟩))
    go_ret
    exact ⟨rfl, hu⟩
  · have f1 : decide ((200 : Int) < (n : Nat)) = false := decide_eq_false h1
    have h2 : 200 < (n' : Int) := by omega
    clear hb h1
    go_enter Try.func3, Try.ntmps3
    go_wp2_with (go_at_call 8; ((with_reducible refine (HK.out _).mono ?_); rintro e w1 ⟨rfl, hu⟩))
    go_ret
    exact ⟨rfl, hu⟩
set_option maxRecDepth 100000 in
set_option maxHeartbeats 4000000 in
theorem sets_in (hC : SpanC) (w : World) (A A' : Option Addr) (n n' c c' : Nat) (L M : List Rng) (ha : Arg w A n L) (hA : A = none → n = 0 ∧ c = 0) (hb : Arg w A' n' M) (hA' : A' = none → n' = 0 ∧ c' = 0) (hn : n ≤ 200) (hn' : n' ≤ 200) :
    Calls Try.prog 3 #[.slice A n c, .slice A' n' c'] w fun e w' => e = .returned (.bool true) ∧ Up w w' := by
  have HK := Lib.hid (fun W => swakes_any hC W)
  have HC := Lib.hid hC
  have f1 : decide ((200 : Int) < (n : Nat)) = false := decide_eq_false (by omega)
  have f2 : decide ((200 : Int) < (n' : Nat)) = false := decide_eq_false (by omega)
  have HA := Lib.hid (And.intro hA hA')
  have HN := Lib.hid (And.intro hn hn')
  have HS := Lib.hid (show AllArg w w [(A, n, L), (A', n', M)] from ⟨fun t ht => by
    simp only [List.mem_cons, List.not_mem_nil, or_false] at ht
    rcases ht with rfl | rfl
    · exact ha
    · exact hb, Up.refl w⟩)
  clear hC hA hA' ha hb hn hn'
  go_enter Try.func3, Try.ntmps3
  go_upto_region 5 with (first
    | (go_at_call 9; ((with_reducible refine (own_arg _ A n c L (HS.out.all (A, n, L) (by simp)) HA.out.1 (by have := HN.out; omega)).mono ?_); rintro e w1 ⟨A1, c1, rfl, h1, hu⟩; have HS := Lib.hid ((HS.out.up hu).add h1); clear h1 hu))
    | (go_at_call 9; ((with_reducible refine (own_arg _ A' n' c' M (HS.out.all (A', n', M) (by simp)) HA.out.2 (by have := HN.out; omega)).mono ?_); rintro e w2 ⟨A2, c2, rfl, h1, hu⟩; have HS := Lib.hid ((HS.out.up hu).add h1); clear h1 hu))
    | (go_at_call 10; ((with_reducible refine (HC.out.norm _ A1 n c1 L (HS.out.all (A1, n, L) (by simp)) (by have := HN.out; omega)).mono ?_); intro e w3 h0; obtain ⟨A3, c3, F3, rfl, k0, k1, k2, k3, k4, hu⟩ := fp_arg h0; clear h0; have HR3 := Lib.hid k0; have HS0 := HS; have HS := Lib.hid ((HS.out.up hu).add k1); have K3 := Lib.hid (And.intro k2 (And.intro k3 k4)); have HU23 := Lib.hid hu; have HU34 := Lib.hid (Up.refl w3); clear k0 k1 k2 k3 k4 hu))
    | (go_at_call 11; ((with_reducible refine (HC.out.union _ A1 A2 n n' c1 c2 L M (HS.out.all (A1, n, L) (by simp)) (HS.out.all (A2, n', M) (by simp)) (by have := HN.out; omega)).mono ?_); intro e w4 h0; obtain ⟨A4, c4, F4, rfl, k0, k1, k2, k3, k4, hu⟩ := fp_arg h0; clear h0; have HS := Lib.hid ((HS.out.up hu).add k1); have K4 := Lib.hid (And.intro k2 (And.intro k3 k4)); clear k0 k1 k2 k3 k4; have HU34 := Lib.hid (HU34.out.trans hu); clear hu))
    | (go_at_call 12; ((with_reducible refine (HC.out.minus _ A1 A2 n n' c1 c2 L M (HS.out.all (A1, n, L) (by simp)) (HS.out.all (A2, n', M) (by simp)) (by have := HN.out; omega)).mono ?_); intro e w5 h0; obtain ⟨A5, c5, F5, rfl, k0, k1, k2, k3, k4, hu⟩ := fp_arg h0; clear h0; have HS := Lib.hid ((HS.out.up hu).add k1); have K5 := Lib.hid (And.intro k2 (And.intro k3 k4)); clear k0 k1 k2 k3 k4; have HU34 := Lib.hid (HU34.out.trans hu); clear hu))
    | (go_at_call 13; ((with_reducible refine (HC.out.both _ A1 A2 n n' c1 c2 L M (HS.out.all (A1, n, L) (by simp)) (HS.out.all (A2, n', M) (by simp)) (by have := HN.out; omega)).mono ?_); intro e w6 h0; obtain ⟨A6, c6, F6, rfl, k0, k1, k2, k3, k4, hu⟩ := fp_arg h0; clear h0; have HS := Lib.hid ((HS.out.up hu).add k1); have K6 := Lib.hid (And.intro k2 (And.intro k3 k4)); clear k0 k1 k2 k3 k4; have HU34 := Lib.hid (HU34.out.trans hu); clear hu)))
  go_upto_region 7 with (first
    | (go_at_call 15; ((with_reducible refine (of_arg _ A none n 0 c 0 L [] 0 (HS.out.all (A, n, L) (by simp)) (Rgs.nil _ _) (fun b h => by cases h) (by have := HN.out; omega) F3 K3.out.1 (fun p => (K3.out.2.1 p).trans (hasB_one L p).symm)).mono ?_); rintro e w7 ⟨B3, d3, rfl, h1, hu⟩; have HS := Lib.hid ((HS.out.up hu).add h1); have HU34 := Lib.hid (HU34.out.trans hu); clear h1 hu))
    | (go_at_call 14; ((with_reducible refine (refSame_any _ A3 B3 F3.length c3 d3 F3 (HS.out.all (A3, F3.length, F3) (by simp)).rgs (HS.out.all (B3, F3.length, F3) (by simp)).rgs (by have := K3.out.2.2; have := HN.out; omega)).mono ?_); rintro e w8 ⟨rfl, hu⟩; have HS := Lib.hid (HS.out.up hu); have HU34 := Lib.hid (HU34.out.trans hu); clear hu))
    | (go_at_call 15; ((with_reducible refine (of_arg _ A A' n n' c c' L M 0 (HS.out.all (A, n, L) (by simp)) (HS.out.all (A', n', M) (by simp)).rgs (HS.out.all (A', n', M) (by simp)).lt (by have := HN.out; omega) F4 K4.out.1 K4.out.2.1).mono ?_); rintro e w7 ⟨B4, d4, rfl, h1, hu⟩; have HS := Lib.hid ((HS.out.up hu).add h1); have HU34 := Lib.hid (HU34.out.trans hu); clear h1 hu))
    | (go_at_call 14; ((with_reducible refine (refSame_any _ A4 B4 F4.length c4 d4 F4 (HS.out.all (A4, F4.length, F4) (by simp)).rgs (HS.out.all (B4, F4.length, F4) (by simp)).rgs (by have := K4.out.2.2; have := HN.out; omega)).mono ?_); rintro e w8 ⟨rfl, hu⟩; have HS := Lib.hid (HS.out.up hu); have HU34 := Lib.hid (HU34.out.trans hu); clear hu))
    | (go_at_call 15; ((with_reducible refine (of_arg _ A A' n n' c c' L M 1 (HS.out.all (A, n, L) (by simp)) (HS.out.all (A', n', M) (by simp)).rgs (HS.out.all (A', n', M) (by simp)).lt (by have := HN.out; omega) F5 K5.out.1 K5.out.2.1).mono ?_); rintro e w7 ⟨B5, d5, rfl, h1, hu⟩; have HS := Lib.hid ((HS.out.up hu).add h1); have HU34 := Lib.hid (HU34.out.trans hu); clear h1 hu))
    | (go_at_call 14; ((with_reducible refine (refSame_any _ A5 B5 F5.length c5 d5 F5 (HS.out.all (A5, F5.length, F5) (by simp)).rgs (HS.out.all (B5, F5.length, F5) (by simp)).rgs (by have := K5.out.2.2; have := HN.out; omega)).mono ?_); rintro e w8 ⟨rfl, hu⟩; have HS := Lib.hid (HS.out.up hu); have HU34 := Lib.hid (HU34.out.trans hu); clear hu))
    | (go_at_call 15; ((with_reducible refine (of_arg _ A A' n n' c c' L M 2 (HS.out.all (A, n, L) (by simp)) (HS.out.all (A', n', M) (by simp)).rgs (HS.out.all (A', n', M) (by simp)).lt (by have := HN.out; omega) F6 K6.out.1 K6.out.2.1).mono ?_); rintro e w7 ⟨B6, d6, rfl, h1, hu⟩; have HS := Lib.hid ((HS.out.up hu).add h1); have HU34 := Lib.hid (HU34.out.trans hu); clear h1 hu))
    | (go_at_call 14; ((with_reducible refine (refSame_any _ A6 B6 F6.length c6 d6 F6 (HS.out.all (A6, F6.length, F6) (by simp)).rgs (HS.out.all (B6, F6.length, F6) (by simp)).rgs (by have := K6.out.2.2; have := HN.out; omega)).mono ?_); rintro e w8 ⟨rfl, hu⟩; have HS := Lib.hid (HS.out.up hu); have HU34 := Lib.hid (HU34.out.trans hu); clear hu)))
  have HR8 := Lib.hid (World.ownsRow.kept HR3.out (Up.grownBy HU34.out) (by cases hv : Value.ownBlock _ <;> simp))
  have HU8 := Lib.hid HS.out.u
  have HU28 := Lib.hid (HU23.out.trans HU34.out)
  obtain ⟨m, hm⟩ : ∃ m, F3.length = m := ⟨_, rfl⟩
  have hmb : m ≤ 400 := by have := K3.out.2.2; have := HN.out; omega
  have HMl := Lib.hid hm
  rw [hm] at HR8
  rw [hm]
  clear HS HU34 HU23 HR3 K3 K4 K5 K6 HC hm
  go_wp2
  go_loopg [11] m (fun g iv wr => ∃ (i : Nat) (G : List Rng), g = m - i ∧ iv = .int .i64 (i : Nat) ∧ i ≤ m ∧ Hid (G.length = m) ∧ Hid (wr.ownsRow w2.heap.size 29 2 (.slice A3 m c3) m (rgCells G)) ∧ Hid (Below w2.heap.size w8 wr))
  case atStart => exact ⟨0, F3, rfl, rfl, Nat.zero_le _, HMl, HR8, Lib.hid (Below.refl _ _)⟩
  case round =>
    obtain ⟨i, G, hg, rfl, hi, HGl, HO, HV⟩ := hrel
    have HG := Lib.hid hg
    clear hg
    by_cases hlt : i < m
    · rcases owns_cell HO.out with ⟨-, hz⟩ | ⟨g, cc, e8, hg0, -, hcc⟩
      · exact absurd hz (by omega)
      injection e8 with e8 _ e9
      subst e8 e9
      have hiG : i < G.length := by have := HGl.out; omega
      obtain ⟨h1, h2⟩ := rgCells_at G i hiG
      have k0 := hcc _ _ h1
      have k1 := hcc _ _ h2
      have z0 := owns_fz HO.out (i * 2)
      have z1 := owns_fz HO.out (i * 2 + 1)
      have hii : (i : Int) < (m : Nat) := by omega
      have HW := Lib.hid (show (((wr.setCell ⟨g, i * 2, none⟩ (.int .i64 7)).setCell ⟨g, i * 2 + 1, none⟩ (.int .i64 77)).ownsRow w2.heap.size 29 2 (.slice (some ⟨g, 0, none⟩) m c3) m (rgCells (G.set i (7, 77)))) from by
        have e1 := owns_set (u := .int .i64 7) HO.out (j := i * 2) (by rw [rgCells_len]; omega)
        have e2 := owns_set (u := .int .i64 77) e1 (j := i * 2 + 1) (by rw [List.length_set, rgCells_len]; omega)
        rw [rgCells_put G i 7 77 hiG] at e2
        exact e2)
      have HV2 := Lib.hid (show Below w2.heap.size w8 ((wr.setCell ⟨g, i * 2, none⟩ (.int .i64 7)).setCell ⟨g, i * 2 + 1, none⟩ (.int .i64 77)) from (Below.setCell HV.out (p := ⟨g, i * 2, none⟩) hg0 _).setCell (p := ⟨g, i * 2 + 1, none⟩) hg0 _)
      have HGl2 := Lib.hid (show (G.set i (7, 77)).length = m by rw [List.length_set]; exact HGl.out)
      clear hcc h1 h2 hg0
      go_wp2
      go_roundg (m - (i + 1))
      case measure => rw [HG.out]; omega
      case rel => exact ⟨i + 1, G.set i (7, 77), rfl, by go_num, by omega, HGl2, HW, HV2⟩
    · obtain rfl : i = m := by omega
      have f0 : decide (i < i) = false := decide_eq_false hlt
      have HS := Lib.hid (HS0.out.keep (Below.trans HU28.out HV.out))
      clear hlt HO
      go_wp2_with (first
        | (go_at_call 14; ((with_reducible refine (refSame_any _ A1 A n c1 c L (HS.out.all (A1, n, L) (by simp)).rgs (HS.out.all (A, n, L) (by simp)).rgs (by have := HN.out; omega)).mono ?_); rintro e w9 ⟨rfl, hu⟩; have HS := Lib.hid (HS.out.up hu); clear hu))
        | (go_at_call 14; ((with_reducible refine (refSame_any _ A2 A' n' c2 c' M (HS.out.all (A2, n', M) (by simp)).rgs (HS.out.all (A', n', M) (by simp)).rgs (by have := HN.out; omega)).mono ?_); rintro e w10 ⟨rfl, hu⟩; have HS := Lib.hid (HS.out.up hu); clear hu))
        | (go_at_call 8; ((with_reducible refine (HK.out _).mono ?_); rintro e w11 ⟨rfl, hu⟩; have HS := Lib.hid (HS.out.up hu); clear hu)))
      go_ret
      exact ⟨rfl, HS.out.u⟩
theorem sets_walk (hC : SpanC) (w : World) (A A' : Option Addr) (n n' c c' : Nat) (L M : List Rng) (ha : Arg w A n L) (hA : A = none → n = 0 ∧ c = 0) (hb : Arg w A' n' M) (hA' : A' = none → n' = 0 ∧ c' = 0) :
    Calls Try.prog 3 #[.slice A n c, .slice A' n' c'] w fun e w' => e = .returned (.bool true) ∧ Up w w' := by
  by_cases h : 200 < n ∨ 200 < n'
  · exact sets_big hC w A A' n n' c c' h
  · exact sets_in hC w A A' n n' c c' L M ha hA hb hA' (by omega) (by omega)
end Go.Proofs.Ytbgdphjjepbafaa
