/- BuildTree, walked. -/
import Derived.Test.YtkkefgbmdghklaaBWake
import Derived.Test.YtkkefgbmdghklaaBGreat
import Derived.Test.YtkkefgbmdghklaaBTree
namespace Go.Proofs.Ytkkefgbmdghklaa
open Go.RowKit

theorem finN_mem {P : Nd → Prop} {n : Int} {b : Bs} (h : ∀ x ∈ b.N, P x ∧ P (x.1, x.2.1, n, x.2.2.2)) : ∀ x ∈ b.N.mapIdx (finN n b.O), P x := by
  intro x hx
  obtain ⟨i, hi, rfl⟩ := List.getElem_of_mem hx
  rw [List.getElem_mapIdx]
  unfold finN
  have := h _ (List.getElem_mem (by rw [List.length_mapIdx] at hi; exact hi))
  split
  · exact this.2
  · exact this.1
theorem lit8 {a : Int} (h : 0 ≤ a ∧ a ≤ 255) : (Lit.int .u8 a).wf = true := by simp [Lit.wf, IntKind.min, IntKind.max, IntKind.signed, IntKind.bits]; exact h
theorem lit64 {a : Int} (h : -9223372036854775808 ≤ a ∧ a ≤ 9223372036854775807) : (Lit.int .i64 a).wf = true := by simp [Lit.wf, IntKind.min, IntKind.max, IntKind.signed, IntKind.bits]; exact h
theorem told_ok {b : Bs} (h : BOk b) (hn : b.N.length ≤ 1000000) {k n : Int} (hk : 0 ≤ k ∧ k ≤ 255) (h1 : 0 ≤ n) (h2 : n ≤ 1048576) : ∀ x ∈ told k n b, NdOk x := by
  intro x hx
  rcases List.mem_cons.1 hx with rfl | hx
  · exact ⟨lit8 hk, lit64 (by dsimp only; omega), lit64 (by dsimp only; omega), lit64 (by dsimp only; omega)⟩
  · refine finN_mem (P := NdOk) (fun y hy => ?_) x hx
    have a1 := h.kind y hy
    have a2 := h.from_ y hy
    have a3 := h.to_ y hy
    have a4 := h.deep y hy
    have a5 := h.hi
    exact ⟨⟨lit8 a1, lit64 (by omega), lit64 (by omega), lit64 (by omega)⟩, ⟨lit8 a1, lit64 (by dsimp only; omega), lit64 (by dsimp only; omega), lit64 (by dsimp only; omega)⟩⟩
theorem tree_check (w : World) (B g c : Nat) (k n : Int) (b : Bs) (h : RowN w B (.slice (some ⟨g, 0, none⟩) (b.N.length + 1) c) (told k n b)) (hok : ∀ x ∈ told k n b, NdOk x) (hb : b.N.length ≤ 3000) (hT : IsT (told k n b) n) :
    Calls Try.prog 14 #[.slice (some ⟨g, 0, none⟩) (b.N.length + 1) c, .int .i64 n] w fun e w' => e = .returned (.int .i64 0) ∧ Up w w' := by
  obtain ⟨h1, h2, h3, -, h5⟩ := RowN.nds h
  refine (check_any w (some ⟨g, 0, none⟩) (b.N.length + 1) c (told k n b) ⟨h1, fun a e => by injection e with e; subst e; exact h3, hok⟩ h5 (by omega) n ⟨by have := hT.lo; omega, by have := hT.hi; omega⟩).mono ?_
  rintro e w' ⟨⟨z, rfl, hz⟩, hu⟩
  rcases hz with ⟨rfl, -⟩ | ⟨-, hz⟩
  · exact ⟨rfl, hu⟩
  · exact absurd hT hz
/-- What stands between two rounds. -/
structure TreeS (w : World) (bb : Nat) (L : List Act) (i : Nat) (W : World) : Prop where
  at_ : ∃ b, BUp W bb w.heap.size 1 b ∧ BOk b ∧ TOk b ∧ b.N.length ≤ cntN L i
  up : Up w W
theorem BUp.up {w w' : World} {bb B : Nat} {k : Int} {b : Bs} (h : BUp w bb B k b) (hu : Up w w') : BUp w' bb B k b := BAt.up h hu
set_option maxRecDepth 100000 in
set_option maxHeartbeats 4000000 in
theorem tree_walk (w : World) (A : Option Addr) (n c : Nat) (L : List Act) (a : Int) (hL : AArg w A n L) (ha : (Lit.int .u16 a).wf = true) : Calls Try.prog 4 #[.slice A n c, .int .u16 a] w fun e w' => e = .returned (.bool true) ∧ Below w.heap.size w w' := by
  have HL := Lib.hid hL
  have HGr := Lib.hid (great_any w A n c L hL)
  have HW := Lib.hid (fun W => wakes_any W)
  have HNw := Lib.hid (new_any w 1)
  have hab : 0 ≤ a ∧ a ≤ 65535 := by simpa [Lit.wf, IntKind.min, IntKind.max, IntKind.signed, IntKind.bits] using ha
  have qa : IntKind.i64.wrap a = a := IntWalk.i64_in _ (by omega)
  clear hL ha
  go_enter Try.func4, Try.ntmps4
  go_wp2_with (first
    | (go_at_call 12; ((with_reducible refine HGr.out.mono ?_); rintro e w1 ⟨B, rfl, hB, rfl⟩; have HB := Lib.hid hB; clear hB; cases B))
    | (go_at_call 11; ((with_reducible refine (HW.out _).mono ?_); rintro e w1 ⟨rfl, hu⟩; have HU := Lib.hid hu; clear hu))
    | (go_at_call 13; ((with_reducible refine HNw.out.mono ?_); rintro e w1 ⟨rfl, hb1, hu1, hs1⟩; have HS0 : Hid (TreeS w w.heap.size L 0 w1) := Lib.hid ⟨⟨_, hb1.mono (fun i _ h => Nat.le_of_eq h.symm), BOk.new, TOk.new, Nat.le_refl _⟩, hu1⟩; clear hb1 hu1 hs1)))
  · -- not great
    obtain ⟨hn100, hcnt⟩ := HB.out trivial
    have HCnt := Lib.hid hcnt
    clear hcnt
    go_loopg [6] n (fun g iv wr => ∃ i : Nat, g = n - i ∧ iv = .int .i64 (i : Nat) ∧ i ≤ n ∧ Hid (TreeS w w.heap.size L i wr))
    case atStart => exact ⟨0, rfl, rfl, Nat.zero_le _, HS0⟩
    case round =>
      obtain ⟨i, hg, rfl, hi, HS⟩ := hrel
      have HG := Lib.hid hg
      clear hg
      by_cases hlt : i < n
      · have hil : i < L.length := by have := HL.out.len; omega
        obtain ⟨bl, o, rfl, hbl, d0, d1, d2⟩ := (HL.out.up HS.out.up).at_ i hil
        have hok := HL.out.ok _ (List.getElem_mem hil)
        rw [act_eq hil] at d1 d2 hok
        obtain ⟨X, hX⟩ : ∃ X, L.getD i ⟨0, 0, none, 0, 0, []⟩ = X := ⟨_, rfl⟩
        have hc1 : cntN L (i + 1) = cntN L i + X.n := by rw [← hX]; rfl
        have hc2 : cntN L (i + 1) ≤ cntN L n := cntN_mono (by omega)
        rw [hX] at d1 d2 hok
        obtain ⟨xd, xa, xA, xn, xc, xL⟩ := X
        dsimp only at d1 d2 hok hc1
        obtain ⟨b, hb, hbo, hto, hbn⟩ := HS.out.at_
        have hb1 : b.N.length + xn ≤ 1000000 := by have := HCnt.out; omega
        have hP := put_up wr wr.drew w.heap.size w.heap.size 1 b hb hbo (Up.drew wr) (Below.size HS.out.up) xA xn xc xL ((hok.evs.up HS.out.up).up (Up.drew wr)) hok.cap (fun a e h0 => .inl (hok.lt a e h0)) hok.ok hb1 xa
        have HNx := Lib.hid (show ∀ W, BUp W w.heap.size w.heap.size 1 (putB xa b xL) → Up w W → TreeS w w.heap.size L (i + 1) W from fun W h1 h2 => ⟨⟨_, h1, hbo.put hok.ok, hto.put hbo hok.ok, Nat.le_trans putB_N (by rw [hc1]; have := hok.evs.len; omega)⟩, h2⟩)
        have HP := Lib.hid hP
        have HUr := Lib.hid HS.out.up
        have hii : (i : Int) < n := by omega
        have HLT := Lib.hid hlt
        have hblw : Hid (bl < w.heap.size) := Lib.hid (by obtain ⟨b2, o2, e2, hb2, -⟩ := HL.out.at_ i hil; injection e2 with e2; injection e2 with e2; omega)
        clear hX d0 hbl hil hlt hok hc1 hc2 hb hbo hto hbn hb1 hP
        have hS : wr.cell? ⟨bl, o + i * 3 + 1, none⟩ = some (.int .i64 xa) ∧ wr.cell? ⟨bl, o + i * 3 + 2, none⟩ = some (.slice xA xn xc) := ⟨d1, d2⟩
        clear d1 d2
        go_wp2
        go_region_held3 (fun w' => w'.cell? ⟨bl, o + i * 3 + 1, none⟩ = some (.int .i64 xa) ∧ w'.cell? ⟨bl, o + i * 3 + 2, none⟩ = some (.slice xA xn xc))
          (first | assumption | with_reducible exact ⟨cell_up (Up.drew _) (by assumption : _ ∧ _).1, cell_up (Up.drew _) (by assumption : _ ∧ _).2⟩ | exact ⟨ht5.cell hnG hS.1, ht5.cell hnG hS.2⟩)
          ((go_at_call 8; ((with_reducible refine HP.out.mono ?_); rintro e w5 ⟨rfl, hb5, ht5⟩; have hnG : ¬ (w.heap.size ≤ bl ∧ bl < wr.heap.size) := (fun h => Nat.lt_irrefl _ (Nat.lt_of_lt_of_le hblw.out h.1)))))
        have HS5 := Lib.hid (HNx.out w5 hb5 ((HUr.out.trans (Up.drew wr)).trans' ht5 (fun i h => h.1)))
        clear hS hb5 ht5 hnG
        go_wp2
        go_roundg (n - (i + 1))
        case measure => rw [HG.out]; have := HLT.out; omega
        case rel => exact ⟨i + 1, rfl, by go_num, by have := HLT.out; omega, HS5⟩
      · obtain rfl : i = n := by omega
        obtain ⟨b, hb, hbo, hto, hbn⟩ := HS.out.at_
        have hbN : b.N.length ≤ 3000 := by have := HCnt.out; omega
        have hlo := hbo.lo
        have hhi := hbo.hi
        have HFr := Lib.hid (far_any wr w.heap.size _ 1 b hb)
        have HD := Lib.hid (fun nn (hn1 : b.far ≤ nn ∧ nn ≤ 1048576) => done_any wr w.heap.size _ 1 b hb hbo (by omega) nn hn1)
        have HCk := Lib.hid (fun W B g c nn (hr : RowN W B (.slice (some ⟨g, 0, none⟩) (b.N.length + 1) c) (told 1 nn b)) (hn1 : b.far ≤ nn ∧ nn ≤ 1048576) => tree_check W B g c 1 nn b hr (told_ok hbo (by omega) (by decide) (by omega) hn1.2) hbN (hto.isT hbo hn1.1 hn1.2))
        have HbN := Lib.hid hbN
        have HUr := Lib.hid HS.out.up
        have qf : IntKind.i64.wrap (b.far + a) = b.far + a := IntWalk.i64_in _ (by omega)
        have f0 : decide (i < i) = false := decide_eq_false hlt
        clear hlt hb hbo hto hbn hbN
        go_wp2_with (first
          | (go_at_call 10; ((with_reducible refine HFr.out.mono ?_); rintro e w5 ⟨rfl, rfl⟩))
          | (go_at_call 7; ((with_reducible refine (HD.out _ ⟨by omega, by omega⟩).mono ?_); rintro e w5 ⟨g5, c5, rfl, hr5, hu5⟩; have HU5 := Lib.hid hu5; have HCk := Lib.hid (HCk.out _ _ _ _ _ hr5 ⟨by omega, by omega⟩); clear hr5 hu5))
          | (go_at_call 14; ((with_reducible refine HCk.out.mono ?_); rintro e w6 ⟨rfl, hu6⟩; have HU6 := Lib.hid hu6; clear hu6))
          | (go_at_call 11; ((with_reducible refine (HW.out _).mono ?_); rintro e w7 ⟨rfl, hu7⟩; have HU7 := Lib.hid hu7; clear hu7)))
        all_goals go_ret
        all_goals exact ⟨rfl, (HUr.out.trans HU5.out).trans (HU6.out.trans HU7.out)⟩
  · go_ret
    exact ⟨rfl, HU.out⟩
end Go.Proofs.Ytkkefgbmdghklaa
