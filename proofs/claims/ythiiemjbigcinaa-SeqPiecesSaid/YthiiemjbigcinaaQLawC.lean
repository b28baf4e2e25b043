/- SeqPieces, walked for any program whose rows answer so. -/
import Derived.Test.YthiiemjbigcinaaQTwo
namespace Go.Proofs.Ythiiemjbigcinaa
open Go.RowKit Go.Shelf
attribute [local go_sem] Oper.semAt_some

/-- The statement's own count of the items. -/
def mcN (L : List Deed) : Nat → Nat
  | 0 => 0
  | i + 1 => mcN L i + min (L.getD i act0).n 301
theorem mcN_le (L : List Deed) : ∀ i, mcN L i ≤ 301 * i
  | 0 => Nat.le_refl _
  | i + 1 => by
    have := mcN_le L i
    show mcN L i + min (L.getD i act0).n 301 ≤ _
    omega
theorem mcN_cnt (L : List Deed) : ∀ i, mcN L i ≤ 300 → cntN L i = mcN L i
  | 0, _ => rfl
  | i + 1, h => by
    have h0 : mcN L (i + 1) = mcN L i + min (L.getD i act0).n 301 := rfl
    have h1 : cntN L (i + 1) = cntN L i + (L.getD i act0).n := rfl
    have := mcN_cnt L i (by omega)
    omega
/-- Boxes: the result's, the two rows'. -/
structure Box3 (w : World) (b5 b6 sb tb : Nat) (W : World) : Prop where
  r : Boxed W w.heap.size 4 (.bool false)
  s : Boxed W b5 26 (ptr sb)
  t : Boxed W b6 26 (ptr tb)
def K3 (w : World) (b5 b6 : Nat) (i : Nat) : Prop := i = w.heap.size ∨ i = b5 ∨ i = b6
theorem boxed_turn {G : Nat → Prop} {W W' : World} {B : Nat} {t : TypeId} {v : Value} (h : Boxed W B t v) (ht : Turn G W W') (hB : ¬ G B) : Boxed W' B t v := (ht.block B h.lt hB).trans h
theorem Box3.keep {w W W' : World} {b5 b6 sb tb : Nat} {K : Nat → Prop} (h : Box3 w b5 b6 sb tb W) (hk : Keep w K W W') (hK : ∀ i, K3 w b5 b6 i → K i) : Box3 w b5 b6 sb tb W' :=
  ⟨boxed_turn h.r hk (fun g => g (.inr (hK _ (.inl rfl)))), boxed_turn h.s hk (fun g => g (.inr (hK _ (.inr (.inl rfl))))), boxed_turn h.t hk (fun g => g (.inr (hK _ (.inr (.inr rfl)))))⟩
theorem Box3.more {w W W' : World} {b5 b6 sb tb : Nat} (h : Box3 w b5 b6 sb tb W) (hu : Up W W') : Box3 w b5 b6 sb tb W' :=
  ⟨h.r.kept (Up.grownBy hu) (fun e => by cases e), h.s.kept (Up.grownBy hu) (fun e => by cases e), h.t.kept (Up.grownBy hu) (fun e => by cases e)⟩
/-- What stands between two rounds: both rows are one. -/
structure PieS (S : World → Nat → (Nat → Prop) → Row → Prop) (w : World) (b5 b6 sb tb : Nat) (L : List Deed) (i : Nat) (W : World) : Prop where
  two : ∃ R, Two S w sb tb (K3 w b5 b6) R R W ∧ R.length ≤ cntN L i
  box : Box3 w b5 b6 sb tb W
  lo : w.heap.size ≤ b5 ∧ w.heap.size ≤ b6
def K4 (w : World) (b5 b6 b8 : Nat) (i : Nat) : Prop := K3 w b5 b6 i ∨ i = b8
/-- The boxes of a round. -/
structure DB (w : World) (b5 b6 sb tb b8 : Nat) (X : Deed) (W : World) : Prop where
  b3 : Box3 w b5 b6 sb tb W
  x : W.heap[b8]? = some (.cells X.cells.toArray 25)
theorem DB.keep {w W W' : World} {b5 b6 sb tb b8 : Nat} {X : Deed} (h : DB w b5 b6 sb tb b8 X W) (hk : Keep w (K4 w b5 b6 b8) W W') : DB w b5 b6 sb tb b8 X W' :=
  ⟨h.b3.keep hk (fun _ => .inl), (hk.block b8 (Array.getElem?_eq_some_iff.1 h.x).1 (fun g => g (.inr (.inr rfl)))).trans h.x⟩
theorem DB.lt {w W : World} {b5 b6 sb tb b8 : Nat} {X : Deed} (h : DB w b5 b6 sb tb b8 X W) : ∀ i, K4 w b5 b6 b8 i → i < W.heap.size := by
  rintro i ((rfl | rfl | rfl) | rfl)
  · exact h.b3.r.lt
  · exact h.b3.s.lt
  · exact h.b3.t.lt
  · exact (Array.getElem?_eq_some_iff.1 h.x).1
theorem DB.c {w W : World} {b5 b6 sb tb b8 : Nat} {X : Deed} (h : DB w b5 b6 sb tb b8 X W) : W.cell? ⟨b8, 0, none⟩ = some (.int .i64 X.d) ∧ W.cell? ⟨b8, 1, none⟩ = some (.int .i64 X.i) ∧ W.cell? ⟨b8, 2, none⟩ = some (.int .i64 X.k) ∧ W.cell? ⟨b8, 3, none⟩ = some (.slice X.A X.n X.c) ∧ W.cell? ⟨b8, 4, none⟩ = some (.slice X.B X.m X.e) ∧
    W.cell? ⟨b5, 0, none⟩ = some (ptr sb) ∧ W.cell? ⟨b6, 0, none⟩ = some (ptr tb) := ⟨cellOf h.x rfl, cellOf h.x rfl, cellOf h.x rfl, cellOf h.x rfl, cellOf h.x rfl, h.b3.s.cell, h.b3.t.cell⟩
/-- A round's boxes and rows. -/
structure RndS (S : World → Nat → (Nat → Prop) → Row → Prop) (w : World) (b5 b6 sb tb b8 : Nat) (X : Deed) (R1 R2 : Row) (W : World) : Prop where
  two : Two S w sb tb (K4 w b5 b6 b8) R1 R2 W
  db : DB w b5 b6 sb tb b8 X W
theorem xarg_nil (w : World) : XArg w none 0 0 [] := ⟨⟨rfl, fun i h => absurd h (Nat.not_lt_zero _)⟩, fun x hx => by (cases hx), Nat.le_refl _, Nat.zero_le _, fun _ => rfl⟩
theorem zarg_nil (w : World) : ZArg w none 0 0 [] := ⟨⟨rfl, fun i h => absurd h (Nat.not_lt_zero _)⟩, fun x hx => by (cases hx), Nat.le_refl _, Nat.zero_le _, fun _ => rfl⟩
section
variable {S : World → Nat → (Nat → Prop) → Row → Prop} (hC : SeqC S)
include hC
variable {w W : World} {b5 b6 sb tb b8 i k : Nat} {X : Deed} {R1 R2 R : Row}
theorem rnd_start {L : List Deed} {j : Nat} (h : PieS S w b5 b6 sb tb L j W) : ∃ R, RndS S w b5 b6 sb tb W.heap.size X R R (W.alloc (.cells X.cells.toArray 25)) ∧ R.length ≤ cntN L j := by
  obtain ⟨R, h1, h2⟩ := h.two
  refine ⟨R, ⟨h1.box hC (Up.alloc W _) (fun i hi => ?_), h.box.more (Up.alloc W _), Go.heap_alloc_new W _⟩, h2⟩
  rcases hi with hi | hi
  · exact .inl hi
  · exact .inr (Nat.le_of_eq hi.symm)
theorem rnd_end {L : List Deed} {j : Nat} (h : RndS S w b5 b6 sb tb b8 X R R W) (hl : R.length ≤ cntN L j) (lo : w.heap.size ≤ b5 ∧ w.heap.size ≤ b6) : PieS S w b5 b6 sb tb L j W :=
  ⟨⟨R, h.two.box hC (Up.refl _) (fun _ hi => .inl (.inl hi)), hl⟩, h.db.b3, lo⟩
theorem rnd_s (h : RndS S w b5 b6 sb tb b8 X R1 R2 W) (hX : AOk w X) (h1 : X.n ≤ 1000000) (h2 : X.m ≤ 1000000) :
    Calls Try.prog 11 #[ptr sb, .int .i64 X.i, .int .i64 X.k, .slice X.A X.n X.c, .slice X.B X.m X.e] W fun e W' => e = .returned (.int .i64 (splE R1 X.i X.k X.L X.Z)) ∧ RndS S w b5 b6 sb tb b8 X (splR R1 X.i X.k X.L X.Z) R2 W' :=
  (two_splice1 hC h.two X.i X.k X.A X.n X.c X.L X.B X.m X.e X.Z (wf64 hX.i) (wf64 hX.k) (hX.x.up h.two.up) (hX.z.up h.two.up) h1 h2 (fun a e h0 => .inl (hX.x.lt a e h0)) (fun a e h0 => .inl (hX.z.lt a e h0)) h.db.lt).mono fun _ _ ⟨h3, h4, h5⟩ => ⟨h3, h4, h.db.keep h5⟩
/-- One item goes. -/
theorem rnd_gone (h : RndS S w b5 b6 sb tb b8 X R1 (goneR R i k) W) (hR : ROk R) (hk : i + k + 1 ≤ R.length) :
    Calls Try.prog 11 #[ptr tb, .int .i64 (i : Nat), .int .i64 1, .slice none 0 0, .slice none 0 0] W fun e W' => e = .returned (.int .i64 0) ∧ RndS S w b5 b6 sb tb b8 X R1 (goneR R i (k + 1)) W' := by
  have hl := hR.len
  refine (two_splice2 hC h.two i 1 none 0 0 [] none 0 0 [] (by unfold I64; omega) (by unfold I64; omega) (xarg_nil _) (zarg_nil _) (by omega) (by omega) (fun a e => by cases e) (fun a e => by cases e) h.db.lt).mono ?_
  rw [(gone_splice hR hk).1, (gone_splice hR hk).2]
  exact fun _ _ ⟨h3, h4, h5⟩ => ⟨h3, h4, h.db.keep h5⟩
theorem RndS.more (h : RndS S w b5 b6 sb tb b8 X R1 R2 W) {W' : World} (hu : Up W W') : RndS S w b5 b6 sb tb b8 X R1 R2 W' := ⟨h.two.more hC hu, h.db.b3.more hu, (Below.block hu b8 (Array.getElem?_eq_some_iff.1 h.db.x).1).trans h.db.x⟩
theorem keepZ {W' : World} (hu : Up W W') (h : W.cell? ⟨b5, 0, none⟩ = some (ptr sb) ∧ W.cell? ⟨b6, 0, none⟩ = some (ptr tb) ∧ Hid (RndS S w b5 b6 sb tb b8 X R1 R2 W)) : W'.cell? ⟨b5, 0, none⟩ = some (ptr sb) ∧ W'.cell? ⟨b6, 0, none⟩ = some (ptr tb) ∧ Hid (RndS S w b5 b6 sb tb b8 X R1 R2 W') :=
  ⟨cell_up hu h.1, cell_up hu h.2.1, Lib.hid (h.2.2.out.more hC hu)⟩
theorem lenZ (h : W.cell? ⟨b5, 0, none⟩ = some (ptr sb) ∧ W.cell? ⟨b6, 0, none⟩ = some (ptr tb) ∧ Hid (RndS S w b5 b6 sb tb b8 X R R W)) :
    (Calls Try.prog 12 #[ptr sb] W fun e w' => e = .returned (.int .i64 (R.length : Nat)) ∧ Up W w') ∧ (Calls Try.prog 12 #[ptr tb] W fun e w' => e = .returned (.int .i64 (R.length : Nat)) ∧ Up W w') ∧
    (Calls Try.prog 13 #[ptr sb] W fun e w' => e = .returned (.int .i64 (tot R)) ∧ Up W w') ∧ Calls Try.prog 13 #[ptr tb] W fun e w' => e = .returned (.int .i64 (tot R)) ∧ Up W w' := by
  obtain ⟨G1, G2, h1, h2, -⟩ := h.2.2.out.two.ex
  exact ⟨hC.len _ _ _ _ h1, hC.len _ _ _ _ h2, hC.size _ _ _ _ h1, hC.size _ _ _ _ h2⟩
omit hC in
theorem XArg.one {w : World} {a : Addr} {n c c' m : Nat} {L : List ByteArray} (h : XArg w (some a) n c L) (hm : m < L.length) (hc : 1 ≤ c') : XArg w (some ⟨a.block, a.off + m, none⟩) 1 c' [L[m]] := by
  refine ⟨⟨rfl, fun i hi => ?_⟩, fun x hx => ?_, hc, by decide, fun e => by cases e⟩
  · have hi0 : i < 1 := hi
    obtain rfl : i = 0 := by omega
    obtain ⟨b, o, e, hb, hcell⟩ := h.txs.at_ m hm
    injection e with e
    subst e
    exact ⟨b, o + m, rfl, hb, hcell⟩
  · rw [List.mem_singleton] at hx
    subst hx
    exact h.ok _ (List.getElem_mem hm)
omit hC in
theorem ZArg.one {w : World} {a : Addr} {n c c' m : Nat} {L : List Int} (h : ZArg w (some a) n c L) (hm : m < L.length) (hc : 1 ≤ c') : ZArg w (some ⟨a.block, a.off + m, none⟩) 1 c' [L[m]] := by
  refine ⟨⟨rfl, fun i hi => ?_⟩, fun x hx => ?_, hc, by decide, fun e => by cases e⟩
  · have hi0 : i < 1 := hi
    obtain rfl : i = 0 := by omega
    obtain ⟨b, o, e, hb, hcell⟩ := h.nums.at_ m hm
    injection e with e
    subst e
    exact ⟨b, o + m, rfl, hb, hcell⟩
  · rw [List.mem_singleton] at hx
    subst hx
    exact h.ok _ (List.getElem_mem hm)
/-- One item comes. -/
theorem rnd_come {a b : Addr} {n c e m ia na ca cb : Nat} {L : List ByteArray} {Z : List Int} (h : RndS S w b5 b6 sb tb b8 X R1 (comeR R (L.zip Z) ia na (m + 1)) W) (hx : XArg w (some a) n c L) (hz : ZArg w (some b) n e Z) (hR : ROk R) (hR' : ROk (cutIn R (L.zip Z) ia na)) (hin : ia + na ≤ R.length) (hm : m < n) (hca : 1 ≤ ca) (hcb : 1 ≤ cb) :
    Calls Try.prog 11 #[ptr tb, .int .i64 (ia : Nat), .int .i64 0, .slice (some ⟨a.block, a.off + m, none⟩) 1 ca, .slice (some ⟨b.block, b.off + m, none⟩) 1 cb] W fun e W' => e = .returned (.int .i64 0) ∧ RndS S w b5 b6 sb tb b8 X R1 (comeR R (L.zip Z) ia na m) W' := by
  have hl := hR.len
  have h1 := hx.txs.len
  have h2 := hz.nums.len
  have hs := come_splice (R := R) (L := L) (Z := Z) (i := ia) (n := na) (k := m) hR' (by omega) hin (by omega)
  refine (two_splice2 hC h.two ia 0 _ 1 ca _ _ 1 cb _ (by unfold I64; omega) (by unfold I64; omega) ((hx.up h.two.up).one (by omega) hca) ((hz.up h.two.up).one (by omega) hcb) (by omega) (by omega) (fun x e _ => ?_) (fun x e _ => ?_) h.db.lt).mono ?_
  · injection e with e
    subst e
    exact .inl (hx.lt a rfl (by omega))
  · injection e with e
    subst e
    exact .inl (hz.lt b rfl (by omega))
  · rw [hs.1, hs.2]
    exact fun _ _ ⟨h3, h4, h5⟩ => ⟨h3, h4, h.db.keep h5⟩
end
theorem ret_box {w W : World} (hu : Up w W) (hr : Boxed W w.heap.size 4 (.bool false)) : Boxed (W.setCell ⟨w.heap.size, 0, none⟩ (.bool true)) w.heap.size 4 (.bool true) ∧ Below w.heap.size w (W.setCell ⟨w.heap.size, 0, none⟩ (.bool true)) :=
  ⟨Boxed.set _ hr, Below.trans hu (Turn.below (G := fun i => w.heap.size ≤ i) (Turn.set W (K := w.heap.size) (Nat.le_refl _) 0 (.bool true)) (Below.size hu) (fun _ h => h))⟩
section
variable {S : World → Nat → (Nat → Prop) → Row → Prop} (hC : SeqC S) (hA : SeqA S)
include hC hA
set_option maxRecDepth 100000 in
set_option maxHeartbeats 8000000 in
theorem pieces_in (w : World) (A : Option Addr) (n c : Nat) (L : List Deed) (hL : AArg w A n L) (hn : n ≤ maxLen) : CallsIn Fence.wide 4 Try.prog 5 #[.slice A n c] w fun e w' => e = .returned (.bool true) ∧ Below w.heap.size w w' := by
  obtain ⟨W0, hW0⟩ : ∃ W0, w.alloc (.cells #[.bool false] 4) = W0 := ⟨_, rfl⟩
  have hu0 : Up w W0 := hW0 ▸ Up.alloc w _
  have hr0 : Boxed W0 w.heap.size 4 (.bool false) := hW0 ▸ Boxed.new w _ _
  have HL := Lib.hid hL
  have HGr := Lib.hid (great_any W0 A n c L (hL.up hu0))
  have HW := Lib.hid (fun W => wakes_any hC W)
  have HU0 := Lib.hid hu0
  have HR0 := Lib.hid hr0
  have HNw := Lib.hid (two_new hC w W0 hu0 (fun i => i = w.heap.size) (fun i e => e ▸ hr0.lt))
  clear hL hu0
  refine callsIn_of_wp_marks Try.func5 rfl trivial (wpIn_wide.2 ?_) rfl
  simp only [Try.ntmps5, List.size_toArray, List.length_cons, List.length_nil, Nat.reduceAdd, Nat.reduceSub, Array.replicate_succ, Array.replicate_zero, List.push_toArray, List.append_toArray, List.nil_append, List.cons_append]
  go_wp2
  have cr := hr0.cell
  have cf := hr0.frozen
  clear hW0 hr0
  go_loopg [3, 4] n (fun g sv iv wr => ∃ i : Nat, g = n - i ∧ iv = .int .i64 (i : Nat) ∧ sv = .int .i64 (mcN L i : Nat) ∧ i ≤ n ∧ i ≤ 81 ∧ Hid (W0 = wr))
  case atStart => exact ⟨0, rfl, rfl, rfl, Nat.zero_le _, Nat.zero_le _, Lib.hid rfl⟩
  case round =>
    obtain ⟨i, hg, rfl, rfl, hi, hi81, HW0⟩ := hrel
    have HG := Lib.hid hg
    clear hg
    obtain rfl := HW0.out
    by_cases hlt : i < n
    · by_cases h81 : i < 81
      · have hil : i < L.length := by have := HL.out.len; omega
        obtain ⟨bl, o, rfl, hbl, d0, d1, d2, d3, d4⟩ := (HL.out.up HU0.out).at_ i hil
        rw [act_eq hil] at d3
        have hm := mcN_le L i
        obtain ⟨X, hX⟩ : ∃ X, L.getD i act0 = X := ⟨_, rfl⟩
        have hc1 : mcN L (i + 1) = mcN L i + min X.n 301 := by rw [← hX]; rfl
        have hxl : X.n ≤ maxLen := by rw [← hX, ← act_eq hil]; exact (HL.out.ok _ (List.getElem_mem hil)).x.len
        rw [hX] at d3
        obtain ⟨xd, xi, xk, xA, xn, xc, xL, xB, xm, xe, xZ⟩ := X
        dsimp only at d3 hc1 hxl
        obtain ⟨M, hM⟩ : ∃ M, mcN L i = M := ⟨_, rfl⟩
        rw [hM] at hc1 hm
        have HC1 := Lib.hid hc1
        have HLT := Lib.hid hlt
        have hii : (i : Int) < n := by omega
        have h8i : (i : Int) < 81 := by omega
        rw [hM]
        clear d0 d1 d2 d4 hX hbl hil hc1
        by_cases h301 : xn ≤ 301
        · have q0 : min (xn : Int) 301 = xn := by omega
          have q1 : IntKind.i64.wrap ((M : Int) + (xn : Int)) = ((M + xn : Nat) : Int) := (IntWalk.i64_in _ (by omega)).trans (by omega)
          have q2 : ((M + xn : Nat) : Int) = (mcN L (i + 1) : Nat) := by rw [HC1.out, Nat.min_eq_left h301]
          go_wp2
          go_roundg (n - (i + 1))
          case measure => rw [HG.out]; have := HLT.out; omega
          case rel => exact ⟨i + 1, rfl, by go_num, rfl, by have := HLT.out; omega, by omega, Lib.hid rfl⟩
        · have q0 : min (xn : Int) 301 = 301 := by omega
          have q1 : IntKind.i64.wrap ((M : Int) + 301) = ((M + 301 : Nat) : Int) := (IntWalk.i64_in _ (by omega)).trans (by omega)
          have q2 : ((M + 301 : Nat) : Int) = (mcN L (i + 1) : Nat) := by rw [HC1.out, Nat.min_eq_right (by omega)]
          go_wp2
          go_roundg (n - (i + 1))
          case measure => rw [HG.out]; have := HLT.out; omega
          case rel => exact ⟨i + 1, rfl, by go_num, rfl, by have := HLT.out; omega, by omega, Lib.hid rfl⟩
      · have f1 : decide ((i : Int) < 81) = false := decide_eq_false (by omega)
        have hii : (i : Int) < n := by omega
        have HN8 := Lib.hid (show ¬ n ≤ 80 by omega)
        clear hlt h81
        go_wp2_with (first
          | (go_at_call 16; ((with_reducible refine HGr.out.mono ?_); rintro e w1 ⟨B, rfl, hB, rfl⟩; have HB := Lib.hid hB; clear hB; cases B))
          | (go_at_call 15; ((with_reducible refine (HW.out _).mono ?_); rintro e w6 ⟨rfl, hu⟩; have HRw := Lib.hid (HR0.out.kept (Up.grownBy hu) (fun e => by cases e)); have HUw := Lib.hid (HU0.out.trans hu); have cr := HRw.out.cell; have cf := HRw.out.frozen; clear hu)))
        all_goals first
          | exact absurd (HB.out trivial).1 HN8.out
          | exact ⟨_, results_bool rfl _ _ _ true rfl (ret_box HUw.out HRw.out).1, rfl, (ret_box HUw.out HRw.out).2⟩
    · obtain rfl : i = n := by omega
      have f0 : decide (i < i) = false := decide_eq_false hlt
      have hm := mcN_le L i
      have HCn := Lib.hid (mcN_cnt L i)
      obtain ⟨M, hM⟩ : ∃ M, mcN L i = M := ⟨_, rfl⟩
      rw [hM] at hm HCn
      rw [hM]
      clear hM hlt
      by_cases h3 : M ≤ 300
      · have f3 : decide ((300 : Int) < M) = false := decide_eq_false (by omega)
        have HM := Lib.hid h3
        clear h3 hm
        go_wp2_with (first
          | (go_at_call 16; ((with_reducible refine HGr.out.mono ?_); rintro e w1 ⟨B, rfl, hB, rfl⟩; have HB := Lib.hid hB; clear hB; cases B))
          | (go_at_call 15; ((with_reducible refine (HW.out _).mono ?_); rintro e w6 ⟨rfl, hu⟩; have HRw := Lib.hid (HR0.out.kept (Up.grownBy hu) (fun e => by cases e)); have HUw := Lib.hid (HU0.out.trans hu); have cr := HRw.out.cell; have cf := HRw.out.frozen; clear hu))
          | (go_at_call 17; ((with_reducible refine HNw.out.mono ?_); rintro e w1 ⟨sb, rfl, hu1, hn1⟩; have HN1 := Lib.hid hn1; have HU1 := Lib.hid hu1; clear hn1 hu1))
          | (go_at_call 17; ((with_reducible refine HN1.out.mono ?_); rintro e w2 ⟨tb, rfl, hu2, ht2⟩; have HT2 := Lib.hid ht2; have HU2 := Lib.hid hu2; clear ht2 hu2)))
        · have hR2 := HR0.out.kept (Up.grownBy (HU1.out.trans HU2.out)) (fun e => by cases e)
          have hsz2 : w.heap.size ≤ w2.heap.size := Nat.le_trans (Below.size HU0.out) (Below.size (HU1.out.trans HU2.out))
          have HN80 := Lib.hid (HB.out trivial)
          have HM3 := Lib.hid (show cntN L i ≤ 300 by rw [HCn.out HM.out]; exact HM.out)
          obtain ⟨b5, hb5⟩ : ∃ b5, w2.heap.size = b5 := ⟨_, rfl⟩
          obtain ⟨W3, hW3⟩ : ∃ W3, (w2.alloc (.cells #[ptr sb] 26)).alloc (.cells #[ptr tb] 26) = W3 := ⟨_, rfl⟩
          have hP : PieS S w b5 (b5 + 1) sb tb L 0 W3 := by
            have hs := Boxed.new w2 26 (ptr sb)
            have ht := Boxed.new (w2.alloc (.cells #[ptr sb] 26)) 26 (ptr tb)
            rw [World.size_alloc, hb5] at ht
            rw [hb5] at hs
            rw [← hW3]
            refine ⟨⟨[], HT2.out.box hC ((Up.alloc _ _).trans (Up.alloc _ _)) (fun k hk => ?_), Nat.zero_le _⟩, ⟨(hR2.alloc _).alloc _, hs.alloc _, ht⟩, by omega⟩
            rcases hk with hk | hk | hk <;> omega
          simp only [hW3, hb5]
          have HP := Lib.hid hP
          clear hP hW3 hb5 HB HT2 HN1 HNw HU1 HU2 HGr HR0 hR2 hsz2 HCn HM f3 HW0
          go_loopg [7] i (fun g jv wr => ∃ j : Nat, g = i - j ∧ jv = .int .i64 (j : Nat) ∧ j ≤ i ∧ Hid (PieS S w b5 (b5 + 1) sb tb L j wr))
          case atStart => exact ⟨0, rfl, rfl, Nat.zero_le _, HP⟩
          case round =>
            clear HP
            obtain ⟨j, hg, rfl, hj, HP⟩ := hrel
            have HG := Lib.hid hg
            clear hg
            by_cases hlt : j < i
            · have hil : j < L.length := by have := HL.out.len; omega
              obtain ⟨Rx, htw, -⟩ := HP.out.two
              obtain ⟨bl, o, rfl, hbl, d0, d1, d2, d3, d4⟩ := (HL.out.up htw.up).at_ j hil
              have hok := HL.out.ok _ (List.getElem_mem hil)
              rw [act_eq hil] at d0 d1 d2 d3 d4 hok
              obtain ⟨X, hX⟩ : ∃ X, L.getD j act0 = X := ⟨_, rfl⟩
              have hc1 : cntN L (j + 1) = cntN L j + X.n := by rw [← hX]; rfl
              have hb1 : X.n ≤ 2000 ∧ X.m ≤ 2000 := by rw [← hX]; exact HN80.out.2.2 j hlt
              have hc3 : cntN L (j + 1) ≤ 300 := Nat.le_trans (cntN_mono (by omega)) HM3.out
              rw [hX] at d0 d1 d2 d3 d4 hok
              obtain ⟨R, hS, hRl⟩ := rnd_start hC (X := X) HP.out
              have HLT := Lib.hid hlt
              have hjj : (j : Int) < i := by omega
              have HLo := Lib.hid HP.out.lo
              clear htw hX hbl hil hlt HP
              have HOk := Lib.hid hok
              have HHi := Lib.hid hb1
              have HC1 := Lib.hid hc1
              have HC3 := Lib.hid hc3
              have HRl := Lib.hid hRl
              obtain ⟨xd, xi, xk, xA, xn, xc, xL, xB, xm, xe, xZ⟩ := X
              dsimp only at d0 d1 d2 d3 d4 HC1 HHi
              obtain ⟨W4, hW4⟩ : ∃ W4, wr.alloc (.cells #[.int .i64 xd, .int .i64 xi, .int .i64 xk, .slice xA xn xc, .slice xB xm xe] 25) = W4 := ⟨_, rfl⟩
              have hS4 : RndS S w b5 (b5 + 1) sb tb wr.heap.size ⟨xd, xi, xk, xA, xn, xc, xL, xB, xm, xe, xZ⟩ R R W4 := hW4 ▸ hS
              obtain ⟨b8, hb8⟩ : ∃ b8, wr.heap.size = b8 := ⟨_, rfl⟩
              rw [hb8] at hS4
              have HS4 := Lib.hid hS4
              obtain ⟨c0, c1, c2, c3, c4, c5, c6⟩ := hS4.db.c
              dsimp only at c0 c1 c2 c3 c4
              clear hS hS4 hok hb1 hc1 hc3 hRl
              by_cases hd : xd = 0
              · subst hd
                have hSp := rnd_s hC HS4.out HOk.out (Nat.le_trans HHi.out.1 (by omega)) (Nat.le_trans HHi.out.2 (by omega))
                dsimp only at hSp
                by_cases hE : splE R xi xk xL xZ = 0
                · obtain ⟨hn1, hl1, -, -⟩ := splE_nn hE
                  obtain ⟨ia, rfl⟩ : ∃ ia : Nat, xi = ia := ⟨xi.toNat, by omega⟩
                  obtain ⟨na, rfl⟩ : ∃ na : Nat, xk = na := ⟨xk.toNat, by omega⟩
                  have hR' : splR R ia na xL xZ = cutIn R (xL.zip xZ) ia na := by unfold splR; rw [if_pos hE, Int.toNat_natCast, Int.toNat_natCast]
                  rw [hE, hR'] at hSp
                  have hOR : ROk R := by obtain ⟨G1, G2, h1, -⟩ := HS4.out.two.ex; exact hC.ok h1
                  have hOR' : ROk (cutIn R (xL.zip xZ) ia na) := hR' ▸ hOR.spl _ _ _ _
                  have hin : ia + na ≤ R.length := by omega
                  have hxx : xn = xm := by have h1 := HOk.out.x.txs.len; have h2 := HOk.out.z.nums.len; dsimp only at h1 h2; omega
                  subst hxx
                  have hna : na ≤ 300 := by have := HRl.out; have := HC3.out; have := HC1.out; omega
                  have f3 : decide ((300 : Int) < na) = false := decide_eq_false (by omega)
                  have HSp := Lib.hid hSp
                  have HOR := Lib.hid hOR
                  have HOR' := Lib.hid hOR'
                  have HIn := Lib.hid hin
                  have HLz := Lib.hid hl1
                  clear hSp hE hn1 hR' hOR hOR' hin hl1
                  go_wp2_with (go_at_call 11; ((with_reducible refine HSp.out.mono ?_); rintro e w5 ⟨rfl, h5⟩; have HS5 := Lib.hid h5; have cc := h5.db.c; dsimp only at cc; obtain ⟨c0, c1, c2, c3, c4, c5, c6⟩ := cc; clear h5))
                  have HS0 := Lib.hid (show RndS S w b5 (b5 + 1) sb tb b8 ⟨0, (ia : Nat), (na : Nat), xA, xn, xc, xL, xB, xn, xe, xZ⟩ (cutIn R (xL.zip xZ) ia na) (goneR R ia 0) w5 from (gone_zero R ia).symm ▸ HS5.out)
                  clear HS5 HSp HS4 c0 c1 c2 c3 c4 c5 c6 d0 d1 d2 d3 d4 hW4
                  go_loopg [9] na (fun g kv wr2 => ∃ k : Nat, g = na - k ∧ kv = .int .i64 (k : Nat) ∧ k ≤ na ∧ Hid (RndS S w b5 (b5 + 1) sb tb b8 ⟨0, (ia : Nat), (na : Nat), xA, xn, xc, xL, xB, xn, xe, xZ⟩ (cutIn R (xL.zip xZ) ia na) (goneR R ia k) wr2))
                  case atStart => exact ⟨0, rfl, rfl, Nat.zero_le _, HS0⟩
                  case round =>
                    clear HS0
                    obtain ⟨k, hg2, rfl, hk, HSk⟩ := hrel
                    have HG2 := Lib.hid hg2
                    have cc := HSk.out.db.c
                    dsimp only at cc
                    obtain ⟨c0, c1, c2, c3, c4, c5, c6⟩ := cc
                    clear hg2
                    by_cases hlt2 : k < na
                    · have HGo := Lib.hid (rnd_gone hC HSk.out HOR.out (by have := HIn.out; omega))
                      have hkk : (k : Int) < na := by omega
                      have HLT2 := Lib.hid hlt2
                      clear hlt2
                      go_wp2_with (go_at_call 11; ((with_reducible refine HGo.out.mono ?_); rintro e w6 ⟨rfl, h6⟩; have HS6 := Lib.hid h6; clear h6))
                      go_roundg (na - (k + 1))
                      case measure => rw [HG2.out]; have := HLT2.out; omega
                      case rel => exact ⟨k + 1, rfl, by go_num, by have := HLT2.out; omega, HS6⟩
                    · obtain rfl : k = na := by omega
                      have f0 : decide (k < k) = false := decide_eq_false hlt2
                      clear hlt2
                      have q1 : IntKind.i64.wrap ((xn : Int) - 1) = (xn : Int) - 1 := IntWalk.i64_in _ (by have := HHi.out; omega)
                      have hzl : (xL.zip xZ).length = xn := by have h1 := HOk.out.x.txs.len; have h2 := HOk.out.z.nums.len; dsimp only at h1 h2; rw [List.length_zip]; omega
                      have hcn := come_none R (xL.zip xZ) ia k
                      rw [hzl] at hcn
                      have HS0 := Lib.hid (show RndS S w b5 (b5 + 1) sb tb b8 ⟨0, (ia : Nat), (k : Nat), xA, xn, xc, xL, xB, xn, xe, xZ⟩ (cutIn R (xL.zip xZ) ia k) (comeR R (xL.zip xZ) ia k xn) wr from hcn.symm ▸ HSk.out)
                      clear hzl hcn HSk hk
                      go_wp2
                      clear c0 c1 c2 c3 c4 c5 c6
                      go_loopg [10] xn (fun g kv wr3 => ∃ m : Nat, g = m ∧ kv = .int .i64 ((m : Int) - 1) ∧ m ≤ xn ∧ Hid (RndS S w b5 (b5 + 1) sb tb b8 ⟨0, (ia : Nat), (k : Nat), xA, xn, xc, xL, xB, xn, xe, xZ⟩ (cutIn R (xL.zip xZ) ia k) (comeR R (xL.zip xZ) ia k m) wr3))
                      case atStart => exact ⟨xn, rfl, rfl, Nat.le_refl _, HS0⟩
                      case round =>
                        clear HS0
                        obtain ⟨m, hg3, rfl, hm, HSm⟩ := hrel
                        by_cases hm0 : m = 0
                        · subst hm0
                          have cc := HSm.out.db.c
                          dsimp only at cc
                          obtain ⟨c0, c1, c2, c3, c4, c5, c6⟩ := cc
                          rw [show (((0 : Nat) : Int) - 1) = (-1 : Int) from rfl]
                          clear hg3 hm
                          go_wp2
                          have HZ := Lib.hid (fun W h => lenZ hC (w := w) (W := W) (b5 := b5) (b6 := b5 + 1) (sb := sb) (tb := tb) (b8 := b8) (X := ⟨0, (ia : Nat), (k : Nat), xA, xn, xc, xL, xB, xn, xe, xZ⟩) (R := comeR R (xL.zip xZ) ia k 0) h)
                          have hS : wr.cell? ⟨b5, 0, none⟩ = some (ptr sb) ∧ wr.cell? ⟨b5 + 1, 0, none⟩ = some (ptr tb) ∧ Hid (RndS S w b5 (b5 + 1) sb tb b8 ⟨0, (ia : Nat), (k : Nat), xA, xn, xc, xL, xB, xn, xe, xZ⟩ (comeR R (xL.zip xZ) ia k 0) (comeR R (xL.zip xZ) ia k 0) wr) := ⟨c5, c6, HSm⟩
                          have HLe := Lib.hid (show (comeR R (xL.zip xZ) ia k 0).length ≤ cntN L (j + 1) by have h1 := HRl.out; have h2 := HC1.out; have h3 := HIn.out; have h4 := HOk.out.x.txs.len; dsimp only at h4; rw [come_all]; have h5 := @cutIn_len R (xL.zip xZ) ia k; rw [List.length_zip] at h5; omega)
                          obtain ⟨N, hN⟩ : ∃ N, (comeR R (xL.zip xZ) ia k 0).length = N := ⟨_, rfl⟩
                          obtain ⟨T, hT⟩ : ∃ T, tot (comeR R (xL.zip xZ) ia k 0) = T := ⟨_, rfl⟩
                          rw [hN, hT] at HZ
                          clear c0 c1 c2 c3 c4 c5 c6 HSm hN hT
                          go_region_held3 (fun w' => w'.cell? ⟨b5, 0, none⟩ = some (ptr sb) ∧ w'.cell? ⟨b5 + 1, 0, none⟩ = some (ptr tb) ∧ Hid (RndS S w b5 (b5 + 1) sb tb b8 ⟨0, (ia : Nat), (k : Nat), xA, xn, xc, xL, xB, xn, xe, xZ⟩ (comeR R (xL.zip xZ) ia k 0) (comeR R (xL.zip xZ) ia k 0) w'))
                            (first | assumption | with_reducible exact keepZ hC (Up.drew _) (by assumption) | with_reducible exact keepZ hC hu5 (by assumption) | with_reducible exact keepZ hC hu6 (by assumption) | with_reducible exact keepZ hC hu7 (by assumption) | with_reducible exact keepZ hC hu8 (by assumption))
                            (first
                              | (go_at_call 12; ((with_reducible refine (HZ.out _ (by assumption)).1.mono ?_); rintro e w5 ⟨rfl, hu5⟩))
                              | (go_at_call 12; ((with_reducible refine (HZ.out _ (by assumption)).2.1.mono ?_); rintro e w6 ⟨rfl, hu6⟩))
                              | (go_at_call 13; ((with_reducible refine (HZ.out _ (by assumption)).2.2.1.mono ?_); rintro e w7 ⟨rfl, hu7⟩))
                              | (go_at_call 13; ((with_reducible refine (HZ.out _ (by assumption)).2.2.2.mono ?_); rintro e w8 ⟨rfl, hu8⟩)))
                          have HE := Lib.hid (show w8.cell? ⟨b5, 0, none⟩ = some (ptr sb) ∧ w8.cell? ⟨b5 + 1, 0, none⟩ = some (ptr tb) ∧ Hid (RndS S w b5 (b5 + 1) sb tb b8 ⟨0, (ia : Nat), (k : Nat), xA, xn, xc, xL, xB, xn, xe, xZ⟩ (comeR R (xL.zip xZ) ia k 0) (comeR R (xL.zip xZ) ia k 0) w8) by assumption)
                          go_wp2
                          go_roundg (i - (j + 1))
                          case measure => rw [HG.out]; have := HLT.out; omega
                          case rel => exact ⟨j + 1, rfl, by go_num, by have := HLT.out; omega, Lib.hid (rnd_end hC HE.out.2.2.out HLe.out HLo.out)⟩
                        · obtain ⟨p, rfl⟩ : ∃ p, m = p + 1 := ⟨m - 1, by omega⟩
                          rw [show (((p + 1 : Nat) : Int) - 1) = (p : Int) from by omega]
                          have HG3 := Lib.hid hg3
                          have hlx := HOk.out.x.txs.len
                          have hlz := HOk.out.z.nums.len
                          have hcx := HOk.out.x.cap
                          have hcz := HOk.out.z.cap
                          dsimp only at hlx hlz hcx hcz
                          obtain ⟨ba, oa, rfl, -⟩ := HOk.out.x.txs.at_ p (by dsimp only; omega)
                          obtain ⟨bb, ob, rfl, -⟩ := HOk.out.z.nums.at_ p (by dsimp only; omega)
                          have hp1 : (p : Int) + 1 ≤ xc := by omega
                          have hp2 : (p : Int) + 1 ≤ xe := by omega
                          have hp3 : (0 : Int) ≤ (p : Int) := by omega
                          have hp4 : (p : Int) ≤ (p : Int) + 1 := by omega
                          have hp5 : ¬ xc = p := by omega
                          have hp6 : ¬ xe = p := by omega
                          have q2 : IntKind.i64.wrap ((p : Int) + 1) = (p : Int) + 1 := IntWalk.i64_in _ (by have := HHi.out; omega)
                          have q3 : IntKind.i64.wrap ((p : Int) - 1) = (p : Int) - 1 := IntWalk.i64_in _ (by have := HHi.out; omega)
                          have HCo := Lib.hid (fun ca cb h1 h2 => rnd_come hC (ca := ca) (cb := cb) (HSm.out.more hC (Up.drew wr)) HOk.out.x HOk.out.z HOR.out HOR'.out HIn.out (by dsimp only; omega) h1 h2)
                          have cc := HSm.out.db.c
                          dsimp only at cc HCo
                          have hS : wr.cell? ⟨b8, 1, none⟩ = some (.int .i64 (ia : Nat)) ∧ wr.cell? ⟨b8, 3, none⟩ = some (.slice (some ⟨ba, oa, none⟩) xn xc) ∧ wr.cell? ⟨b8, 4, none⟩ = some (.slice (some ⟨bb, ob, none⟩) xn xe) ∧ wr.cell? ⟨b5 + 1, 0, none⟩ = some (ptr tb) := ⟨cc.2.1, cc.2.2.2.1, cc.2.2.2.2.1, cc.2.2.2.2.2.2⟩
                          have HLm := Lib.hid (show p + 1 ≤ xn by omega)
                          have HCx := Lib.hid hcx
                          have HCz := Lib.hid hcz
                          clear hg3 hm hm0 hlx hlz hcx hcz cc
                          go_wp2
                          go_region_held3 (fun w' => w'.cell? ⟨b8, 1, none⟩ = some (.int .i64 (ia : Nat)) ∧ w'.cell? ⟨b8, 3, none⟩ = some (.slice (some ⟨ba, oa, none⟩) xn xc) ∧ w'.cell? ⟨b8, 4, none⟩ = some (.slice (some ⟨bb, ob, none⟩) xn xe) ∧ w'.cell? ⟨b5 + 1, 0, none⟩ = some (ptr tb))
                            (first | assumption | with_reducible exact ⟨cell_up (Up.drew _) (by assumption : _ ∧ _).1, cell_up (Up.drew _) (by assumption : _ ∧ _).2.1, cell_up (Up.drew _) (by assumption : _ ∧ _).2.2.1, cell_up (Up.drew _) (by assumption : _ ∧ _).2.2.2⟩ | exact hcc)
                            ((go_at_call 11; ((with_reducible refine (HCo.out (xc - p) (xe - p) (by have := HLm.out; have := HCx.out; omega) (by have := HLm.out; have := HCz.out; omega)).mono ?_); rintro e w6 ⟨rfl, h6⟩; have cc := h6.db.c; dsimp only at cc; have hcc := And.intro cc.2.1 (And.intro cc.2.2.2.1 (And.intro cc.2.2.2.2.1 cc.2.2.2.2.2.2)))))
                          have HS6 := Lib.hid h6
                          clear hS hcc cc h6
                          go_wp2
                          go_roundg p
                          case measure => rw [HG3.out]; omega
                          case rel => exact ⟨p, rfl, by first | rfl | go_num, by have := HLm.out; omega, HS6⟩
                · obtain ⟨E, hEv⟩ : ∃ E, splE R xi xk xL xZ = E := ⟨_, rfl⟩
                  have hR' : splR R xi xk xL xZ = R := by unfold splR; rw [if_neg hE]
                  rw [hR', hEv] at hSp
                  rw [hEv] at hE
                  have f1 : decide (E = 0) = false := decide_eq_false hE
                  have HSp := Lib.hid hSp
                  clear hSp hEv hR'
                  go_wp2_with (go_at_call 11; ((with_reducible refine HSp.out.mono ?_); rintro e w5 ⟨rfl, h5⟩; have HS5 := Lib.hid h5; clear h5))
                  go_roundg (i - (j + 1))
                  case measure => rw [HG.out]; have := HLT.out; omega
                  case rel => exact ⟨j + 1, rfl, by go_num, by have := HLT.out; omega, Lib.hid (rnd_end hC HS5.out (by have := HRl.out; have := HC1.out; omega) HLo.out)⟩
              · have f1 : decide (xd = 0) = false := decide_eq_false hd
                go_wp2
                go_roundg (i - (j + 1))
                case measure => rw [HG.out]; have := HLT.out; omega
                case rel => exact ⟨j + 1, rfl, by go_num, by have := HLT.out; omega, Lib.hid (rnd_end hC HS4.out (by have := HRl.out; have := HC1.out; omega) HLo.out)⟩
            · obtain rfl : j = i := by omega
              obtain ⟨gf, eg, hall⟩ := hA.all1
              have hnf : ∀ (W : World) (lb : Array Value), (binOp .eql 35 (.func (.func gf) #[] lb) .nilFunc).run Try.prog W = .ok (.bool false) W := fun W lb => by kernel_rfl
              obtain ⟨R, htw, hRl⟩ := HP.out.two
              obtain ⟨G1, G2, h1, h2, -, -, h5⟩ := htw.ex
              have HAl := Lib.hid (hall wr sb G1 R h1)
              have HB3 := Lib.hid HP.out.box
              have H1 := Lib.hid h1
              have H2 := Lib.hid h2
              have H5 := Lib.hid h5
              have HUP := Lib.hid htw.up
              have c5 := HP.out.box.s.cell
              have f0 : decide (j < j) = false := decide_eq_false hlt
              clear hall htw hRl h1 h2 h5 HP hlt
              go_wp2_with (go_at_call 10; ((with_reducible refine HAl.out.mono ?_); rintro e w5 ⟨lb, rfl, hu5, ht5⟩; have HU5 := Lib.hid hu5; have HT5 := Lib.hid ht5; clear hu5 ht5))
              have HB5 := Lib.hid (HB3.out.more HU5.out)
              have hsw : wr.heap.size ≤ w5.heap.size := Below.size HU5.out
              have hw5 : w.heap.size ≤ w5.heap.size := Below.size (HUP.out.trans HU5.out)
              have l1 := HB5.out.r.lt
              have l2 := HB5.out.s.lt
              have l3 := HB5.out.t.lt
              refine wpIn_wide.1 (range_tells (n := 4) rfl (by omega) (gf := gf) (lb := lb) rfl trivial eg HT5.out no_cells kpS_t kpS_b (fun _ => rfl)
                (fun pre W => Box3 w b5 (b5 + 1) sb tb W ∧ S W sb G1 R ∧ S W tb G2 R ∧ Up w W) ?hI ⟨HB5.out, hC.up H1.out HU5.out, hC.up H2.out HU5.out, HUP.out.trans HU5.out⟩ ?a1 ?assign ?body ?done)
              case assign =>
                intro l x W K' hK'
                gi_wp2
                exact hK'
              case hI =>
                rintro s X Y row ⟨k1, k2, k3, k4⟩ hg hr
                have ht : Turn (fun k => w5.heap.size ≤ k) X Y := Turn.grown hg (fun r e _ => (hr r e).1)
                exact ⟨⟨boxed_turn k1.r ht (by omega), boxed_turn k1.s ht (by omega), boxed_turn k1.t ht (by omega)⟩, hC.turn k2 ht (fun q _ g z => by have := H5.out q (.inl g); omega), hC.turn k3 ht (fun q _ g z => by have := H5.out q (.inr g); omega), k4.trans' ht (fun q z => by omega)⟩
              case body =>
                rintro l pre x W ⟨k1, k2, k3, k4⟩ hpre
                have hx : x ∈ itemsOf R := hpre.subset (by simp)
                unfold itemsOf at hx
                rw [List.mem_map] at hx
                obtain ⟨m, hm, rfl⟩ := hx
                have hm := List.mem_range.1 hm
                have hA2 := at_in hC k3 m hm
                have hA1 := fun Y (hu : Up W Y) => at_in hC (hC.up k2 hu) m hm
                obtain ⟨Tx, hTx⟩ : ∃ Tx, nt R m = Tx := ⟨_, rfl⟩
                obtain ⟨Zx, hZx⟩ : ∃ Zx, sz R m = Zx := ⟨_, rfl⟩
                rw [hTx, hZx] at hA2 hA1
                have c5 := k1.s.cell
                have c6 := k1.t.cell
                have HA2 := Lib.hid hA2
                have HA1 := Lib.hid hA1
                have K1 := Lib.hid k1
                have K2 := Lib.hid k2
                have K3' := Lib.hid k3
                have K4' := Lib.hid k4
                simp only [hTx]
                clear hA1 hA2 k1 k2 k3 k4 hpre hm hZx
                gi_wp2_with (first
                  | (refine ⟨trivial, ?_⟩; gi_at_call 7; ((with_reducible refine (CallsIn.inRound l ((callsIn_wide (n := 1)).2 HA2.out)).mono ?_); rintro e w6 ⟨rfl, hu6⟩; have c5 := cell_up hu6 c5; have HU6 := Lib.hid hu6; clear hu6))
                  | (refine ⟨trivial, ?_⟩; gi_at_call 7; ((with_reducible refine (CallsIn.inRound l ((callsIn_wide (n := 1)).2 (HA1.out _ HU6.out))).mono ?_); rintro e w7 ⟨rfl, hu7⟩; have HU7 := Lib.hid (HU6.out.trans hu7); clear hu7)))
                refine ⟨KeepsOthers.of_grownBy (Up.grownBy HU7.out) (fun q ob e => by cases e), kpS_up HU7.out, K1.out.more HU7.out, hC.up K2.out HU7.out, hC.up K3'.out HU7.out, K4'.out.trans HU7.out⟩
              case done =>
                rintro D W hD ⟨k1, k2, k3, k4⟩ hDD
                have HR9 := Lib.hid k1.r
                have HU9 := Lib.hid k4
                have HD := Lib.hid hDD
                have hDw : D ≠ w.heap.size := by omega
                have hDl : w.heap.size ≤ D := by omega
                clear k1 k2 k3 k4 hDD
                go_wp2_with (go_at_call 15; ((with_reducible refine (HW.out _).mono ?_); rintro e w9 ⟨rfl, hu⟩; have HRw := Lib.hid (HR9.out.kept (Up.grownBy hu) (fun e => by cases e)); have HUw := Lib.hid (HU9.out.trans hu); have HDw := Lib.hid (keepD HD.out hu); have cr := HRw.out.cell; have cf := HRw.out.frozen; clear hu))
                have hD8 : (w9.setCell ⟨w.heap.size, 0, none⟩ (.bool true)).heap[D]? = some (.deferred (some [])) := ((setCell_grown w9 w.heap.size 0 (.bool true)).block D (Array.getElem?_eq_some_iff.1 HDw.out).1 (fun e => hDw (Option.some.inj e))).trans HDw.out
                refine ⟨by simp, .inl ⟨_, _, rfl, run_takeDeferred hD8, ?_⟩⟩
                refine ⟨_, results_bool rfl _ _ _ true rfl ((World.putObj_heap_other (fun e => hDw e.symm)).trans (ret_box HUw.out HRw.out).1), rfl, ?_⟩
                exact Below.trans (ret_box HUw.out HRw.out).2 (belowK_b (w := w) (Nat.le_refl _) _ D _ _ hDl hD8 rfl rfl)
        · exact ⟨_, results_bool rfl _ _ _ true rfl (ret_box HUw.out HRw.out).1, rfl, (ret_box HUw.out HRw.out).2⟩
      · have f3 : (300 : Int) < M := by omega
        clear h3 hm
        go_wp2_with (first
          | (go_at_call 16; ((with_reducible refine HGr.out.mono ?_); rintro e w1 ⟨B, rfl, hB, rfl⟩; have HB := Lib.hid hB; clear hB; cases B))
          | (go_at_call 15; ((with_reducible refine (HW.out _).mono ?_); rintro e w6 ⟨rfl, hu⟩; have HRw := Lib.hid (HR0.out.kept (Up.grownBy hu) (fun e => by cases e)); have HUw := Lib.hid (HU0.out.trans hu); have cr := HRw.out.cell; have cf := HRw.out.frozen; clear hu)))
        all_goals exact ⟨_, results_bool rfl _ _ _ true rfl (ret_box HUw.out HRw.out).1, rfl, (ret_box HUw.out HRw.out).2⟩
theorem pieces_walk (w : World) (A : Option Addr) (n c : Nat) (L : List Deed) (hL : AArg w A n L) (hn : n ≤ maxLen) : Calls Try.prog 5 #[.slice A n c] w fun e w' => e = .returned (.bool true) ∧ Below w.heap.size w w' := (callsIn_wide (n := 4)).1 (pieces_in hC hA w A n c L hL hn)
end
end Go.Proofs.Ythiiemjbigcinaa
