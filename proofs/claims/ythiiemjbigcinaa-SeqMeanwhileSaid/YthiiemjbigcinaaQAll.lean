/- All: a recursive function that tells a tree's items. -/
import Derived.Test.YthiiemjbigcinaaQSpl
import Derived.Test.YthiiemjbigcinaaQTwo
namespace Go.Proofs.Ythiiemjbigcinaa
open Go.RowKit Go.Shelf
attribute [local go_sem] Oper.semAt_some

theorem qroom_of_none {F : Fence} (hd : F.depth = none) (k : Nat) : F.room k := fun d h => by rw [hd] at h; cases h
theorem qround_any {F : Fence} (hd : F.depth = none) {m m' : Nat} {P : Program} {l : Nat} {f : FuncId} {tmps : Array Value} {assign body : Code} {w : World} {R : Ending → World → Prop}
    (h : RoundIn F m P l f tmps assign body w R) : RoundIn F m' P l f tmps assign body w R := ⟨h.1, fun c cs _ => h.2 c cs (qroom_of_none hd _)⟩
theorem qyield_any {F : Fence} (hd : F.depth = none) {m : Nat} (m' : Nat) {P : Program} {l : Nat} {args : Array Value} {W : World} {R : Ending → World → Prop} (h : YieldAt F m P l args W R) : YieldAt F m' P l args W R := by
  obtain ⟨fn, tmps, assign, body, hy, hR⟩ := h
  exact ⟨fn, tmps, assign, body, hy, qround_any hd hR⟩
/-- A row's items, numbered from a on. -/
def itF (a : Nat) (R : Row) : List (Nat × ByteArray) := (List.range R.length).map fun i => (a + i, nt R i)
theorem itF_nil (a : Nat) : itF a [] = [] := rfl
theorem itF_cons (a : Nat) (x : ByteArray × Int) (R : Row) : itF a (x :: R) = (a, x.1) :: itF (a + 1) R := by
  unfold itF
  rw [List.length_cons, List.range_succ_eq_map, List.map_cons, List.map_map]
  refine congr (congrArg List.cons ?_) ?_
  · rfl
  · refine List.map_congr_left fun i _ => ?_
    show (a + (i + 1), nt (x :: R) (i + 1)) = (a + 1 + i, nt R i)
    rw [show a + (i + 1) = a + 1 + i from by omega]
    rfl
theorem itF_append (a : Nat) (A B : Row) : itF a (A ++ B) = itF a A ++ itF (a + A.length) B := by
  induction A generalizing a with
  | nil => simp [itF_nil]
  | cons x t ih =>
    rw [List.cons_append, itF_cons, itF_cons, ih, List.length_cons, List.cons_append, show a + 1 + t.length = a + (t.length + 1) from by omega]
theorem itF_zero (R : Row) : itF 0 R = itemsOf R := by
  unfold itF itemsOf
  exact List.map_congr_left fun i _ => by rw [Nat.zero_add]
theorem itF_node (a : Nat) (l r : QT) (x : ByteArray × Int) : itF a (QT.node l x r).row = itF a l.row ++ (a + l.cn, x.1) :: itF (a + l.cn + 1) r.row := by
  rw [row_node, itF_append, itF_cons]
  rfl
set_option maxRecDepth 100000 in
set_option maxHeartbeats 2000000 in
theorem tell_in {Fz : Nat → Prop} (l : Nat) (xs : List (Nat × ByteArray)) (J : List (Nat × ByteArray) → World → Prop) (hJ : ∀ s X Y, J s X → Up X Y → J s Y)
    (hY : ∀ m pre x X, J pre X → pre ++ [x] <+: xs → YieldAt Fence.wide m Try.prog l (encA x) X fun e Y => e = .returned (.bool true) ∧ J (pre ++ [x]) Y ∧ KpS Fz X Y) (t : QT) :
    ∀ (n a : Nat) (v : Value) (pre : List (Nat × ByteArray)) (W : World), Tr Fz W t v → J pre W → pre ++ itF a t.row <+: xs → (a : Int) + t.cn ≤ 2097152 →
      CallsIn Fence.wide n Try.prog 22 #[v, .int .i64 (a : Nat), .func (.yield l) #[] #[]] W fun e Y => e = .returned (.bool true) ∧ J (pre ++ itF a t.row) Y ∧ KpS Fz W Y := by
  induction t with
  | nil =>
    intro n a v pre W ht hJ0 _ _
    obtain rfl : v = .pointer none := ht
    refine callsIn_of_wp Try.func22 rfl trivial ?_ rfl
    simp only [Try.ntmps22, List.size_toArray, List.length_cons, List.length_nil, Nat.reduceAdd, Nat.reduceSub, Array.replicate_succ, Array.replicate_zero, List.push_toArray, List.append_toArray, List.nil_append, List.cons_append]
    gi_wp2
    go_ret
    exact ⟨rfl, by rw [show QT.nil.row = [] from rfl, itF_nil, List.append_nil]; exact hJ0, fun _ _ _ _ _ h => h⟩
  | node tl x tr ihl ihr =>
    intro n a v pre W ht hJ0 hp hb
    obtain ⟨b, vl, vr, rfl, hgb, hc, hl, hr⟩ := ht
    rw [itF_node] at hp ⊢
    rw [cn_node] at hb
    obtain ⟨q, hq⟩ : ∃ q : Nat, a + tl.cn = q := ⟨_, rfl⟩
    obtain ⟨q1, hq1⟩ : ∃ q1 : Nat, q + 1 = q1 := ⟨_, rfl⟩
    rw [hq, hq1] at hp ⊢
    have hdd : ∀ k : Nat, (Fence.wide.depth.isSome = true → 1 ≤ k) := fun k h => by cases h
    have kcell : ∀ {X : World} {o : Nat} {u : Value}, KpS Fz W X → W.cell? ⟨b, o, none⟩ = some u → X.cell? ⟨b, o, none⟩ = some u := fun hk h => kpS_cell hk hgb h
    have c0 : W.cell? ⟨b, 0, none⟩ = some (.string x.1) := cellOf hc rfl
    have c5 : W.cell? ⟨b, 5, none⟩ = some vl := cellOf hc rfl
    have c6 : W.cell? ⟨b, 6, none⟩ = some vr := cellOf hc rfl
    have hC := counted_any hl
    have hfd := fld0 (tl.cn : Nat) tl.sm (tl.dp : Nat)
    have e1 : IntKind.i64.wrap ((a : Int) + tl.cn) = (q : Int) := (IntWalk.i64_in _ (by omega)).trans (by omega)
    have e2 : IntKind.i64.wrap ((q : Int) + 1) = (q1 : Int) := (IntWalk.i64_in _ (by omega)).trans (by omega)
    have hp1 : pre ++ itF a tl.row <+: xs := List.IsPrefix.trans ⟨(q, x.1) :: itF q1 tr.row, by rw [List.append_assoc]⟩ hp
    have hp2 : pre ++ itF a tl.row ++ [(q, x.1)] <+: xs := List.IsPrefix.trans ⟨itF q1 tr.row, by simp⟩ hp
    have hp3 : pre ++ itF a tl.row ++ [(q, x.1)] ++ itF q1 tr.row <+: xs := by
      have : pre ++ itF a tl.row ++ [(q, x.1)] ++ itF q1 tr.row = pre ++ (itF a tl.row ++ (q, x.1) :: itF q1 tr.row) := by simp
      rw [this]; exact hp
    have HI1 := Lib.hid (fun W1 (hu : Up W W1) => (ihl (n - 1) a vl pre W1 (hl.up hu) (hJ _ _ _ hJ0 hu) hp1 (by omega)).mono (R' := fun e W2 => e = .returned (.bool true) ∧ KpS Fz W W2 ∧ W2.cell? ⟨b, 0, none⟩ = some (.string x.1) ∧ YieldAt Fence.wide (n - 1) Try.prog l (encA (q, x.1)) W2 fun e W3 =>
        e = .returned (.bool true) ∧ J (pre ++ itF a tl.row ++ [(q, x.1)]) W3 ∧ KpS Fz W W3 ∧ W3.cell? ⟨b, 6, none⟩ = some vr ∧ Tr Fz W3 tr vr) (fun e W2 ⟨g1, g2, g3⟩ => by
        have k2 : KpS Fz W W2 := kpS_t (kpS_up hu) g3
        refine ⟨g1, k2, kcell k2 c0, YieldAt.mono (hY (n - 1) _ _ W2 g2 hp2) fun e W3 ⟨y1, y2, y3⟩ => ?_⟩
        have k3 := kpS_t k2 y3
        exact ⟨y1, y2, k3, kcell k3 c6, hr.kept k3⟩))
    have HI2 := Lib.hid (fun W3 (hj : J (pre ++ itF a tl.row ++ [(q, x.1)]) W3) (ht : Tr Fz W3 tr vr) => ihr (n - 1) q1 vr _ W3 ht hj hp3 (by omega))
    clear hq hq1 ihl ihr hp hp1 hp2 hp3 hY hb hl
    refine callsIn_of_wp Try.func22 rfl trivial ?_ rfl
    simp only [Try.ntmps22, List.size_toArray, List.length_cons, List.length_nil, Nat.reduceAdd, Nat.reduceSub, Array.replicate_succ, Array.replicate_zero, List.push_toArray, List.append_toArray, List.nil_append, List.cons_append]
    gi_wp2_with (first
      | (refine ⟨trivial, hdd _, ?_⟩; gi_at_call 30; ((with_reducible refine ((callsIn_wide (n := n - 1)).2 hC).mono ?_); rintro e W1 ⟨rfl, hu1⟩; have c5 := cell_up hu1 c5; have I1 := HI1.out W1 hu1; clear hC; unfold cnv))
      | (refine ⟨trivial, hdd _, ?_⟩; gi_at_call 22; refine I1.mono ?_; clear I1; rintro e W2 ⟨rfl, hk2, c0', fn, tmps, assign, body, hy, hR⟩; dsimp only [encA] at hy)
      | ((try refine ⟨hdd _, ?_⟩); refine hR.mono ?_; clear hR; rintro e W3 ⟨rfl, hj3, hk3, c6', ht3⟩; have I2 := HI2.out W3 hj3 ht3)
      | (refine ⟨trivial, hdd _, ?_⟩; gi_at_call 22; refine I2.mono ?_; clear I2; rintro e W4 ⟨rfl, hj4, hk4⟩))
    go_ret
    exact ⟨rfl, by simpa using hj4, kpS_t hk3 hk4⟩
set_option maxRecDepth 100000 in
set_option maxHeartbeats 1000000 in
/-- The function that All hands out. -/
theorem all1_in (l n : Nat) (bx : Nat) (v : Value) (J : World → Prop) (W : World) (hb : W.cell? ⟨bx, 0, none⟩ = some v)
    (hT : CallsIn Fence.wide (n - 1) Try.prog 22 #[v, .int .i64 0, .func (.yield l) #[] #[]] W fun e Y => e = .returned (.bool true) ∧ J Y) :
    CallsIn Fence.wide n Try.prog 21 #[.func (.yield l) #[] #[], .pointer (some ⟨bx, 0, none⟩)] W fun e Y => (∃ v, e = .returned v) ∧ J Y := by
  have hdd : ∀ k : Nat, (Fence.wide.depth.isSome = true → 1 ≤ k) := fun k h => by cases h
  refine callsIn_of_wp Try.func21 rfl trivial ?_ rfl
  simp only [Try.ntmps21, List.size_toArray, List.length_cons, List.length_nil, Nat.reduceAdd, Nat.reduceSub, Array.replicate_succ, Array.replicate_zero, List.push_toArray, List.append_toArray, List.nil_append, List.cons_append]
  gi_wp2_with (refine ⟨trivial, hdd _, ?_⟩; gi_at_call 22; refine hT.mono ?_; clear hT; rintro e W1 ⟨rfl, hj⟩)
  go_end0
  exact ⟨⟨_, rfl⟩, hj⟩
set_option maxRecDepth 100000 in
set_option maxHeartbeats 1000000 in
theorem all_nil (w : World) : Calls Try.prog 10 #[.pointer none] w fun e w' => e = .returned (.func (.func 21) #[] #[.pointer (some ⟨w.heap.size, 0, none⟩)]) ∧ w' = w.alloc (.cells #[.pointer none] 48) := by
  go_enter Try.func10, Try.ntmps10
  go_wp2
  go_ret
  exact ⟨rfl, rfl⟩
set_option maxRecDepth 100000 in
set_option maxHeartbeats 1000000 in
theorem all_row (w : World) (sb : Nat) (p : Option Addr) (c0 : w.cell? ⟨sb, 0, none⟩ = some (.pointer p)) : Calls Try.prog 10 #[ptr sb] w fun e w' => e = .returned (.func (.func 21) #[] #[.pointer (some ⟨w.heap.size, 0, none⟩)]) ∧ w' = w.alloc (.cells #[.pointer p] 48) := by
  have k0 := cell_up (Up.alloc w (.cells #[.pointer none] 48)) c0
  clear c0
  go_enter Try.func10, Try.ntmps10
  go_wp2
  go_ret
  exact ⟨rfl, rfl⟩
theorem all_enters : ∀ args w, (callFunc 21 args).run Try.prog w = .ok (.enter 21 args) w := enters_of Try.func21 (by kernel_rfl) rfl
theorem seqA : SeqA SRow := by
  refine ⟨21, all_enters, fun w sb G R hS => ?_⟩
  obtain ⟨t, p, g1, g2, g3, g4, g5⟩ := hS.ex
  refine (all_row w sb p (cellOf g2 rfl)).mono ?_
  rintro e w' ⟨rfl, rfl⟩
  have hu := Up.alloc w (.cells #[.pointer p] 48)
  refine ⟨_, fun i => (G i ∧ i ≠ sb) ∨ i = w.heap.size, rfl, hu, fun i h => h.imp id (fun h => by rw [World.size_alloc]; omega), ?_⟩
  intro l J W hW hJ hY h0
  have hbx : (w.alloc (.cells #[.pointer p] 48)).cell? ⟨w.heap.size, 0, none⟩ = some (.pointer p) := cellOf (Go.heap_alloc_new _ _) rfl
  have ht := ((g3.mono (G' := fun i => (G i ∧ i ≠ sb) ∨ i = w.heap.size) (fun _ _ g => .inl g)).up hu).up hW
  have hl := hS.ok.len
  have hlen : t.cn ≤ 2097152 := by unfold QT.cn; rw [g5]; exact hl
  refine (all1_in l 3 w.heap.size (.pointer p) (fun Y => J (itemsOf R) Y) W (cell_up hW hbx) ?_)
  have hJU : ∀ s X Y, J s X → Up X Y → J s Y := fun s X Y h hu => hJ s X Y none h (Up.grownBy hu) (fun r e => by cases e)
  refine (tell_in l (itemsOf R) J hJU (fun m pre x X h1 h2 => qyield_any rfl m (hY pre x X h1 h2)) t 2 0 (.pointer p) [] W ht h0 (by rw [List.nil_append, g5, itF_zero]; exact List.prefix_refl _) (by omega)).mono ?_
  rintro e Y ⟨h1, h2, -⟩
  rw [List.nil_append, g5, itF_zero] at h2
  exact ⟨h1, h2⟩
theorem seqN : SeqN where
  splice w i n A k c B m d := splice_nil w i n A k c B m d
  at_ w i := at_nil w i
  sum w i := sum_nil w i
  find w i := find_nil w i
  len w := slen_of w none 0 0 0 fun W _ => scnt_nil W
  size w := ssize_of w none 0 0 0 fun W _ => scnt_nil W
  deep w := sdeep_of w none 0 0 0 fun W _ => scnt_nil W
  all := by
    refine ⟨21, all_enters, fun w => (all_nil w).mono ?_⟩
    rintro e w' ⟨rfl, rfl⟩
    have hu := Up.alloc w (.cells #[.pointer none] 48)
    refine ⟨_, rfl, hu, ?_⟩
    intro l J W hW hJ hY h0
    have hbx : (w.alloc (.cells #[.pointer none] 48)).cell? ⟨w.heap.size, 0, none⟩ = some (.pointer none) := cellOf (Go.heap_alloc_new _ _) rfl
    refine (all1_in l 3 w.heap.size (.pointer none) (fun Y => J [] Y) W (cell_up hW hbx) ?_)
    have hJU : ∀ s X Y, J s X → Up X Y → J s Y := fun s X Y h hu => hJ s X Y none h (Up.grownBy hu) (fun r e => by cases e)
    refine (tell_in (Fz := fun _ => True) l [] J hJU (fun m pre x X h1 h2 => absurd (List.prefix_nil.1 h2) (by simp)) .nil 2 0 (.pointer none) [] W rfl h0 (by exact List.prefix_refl _) (by rw [cn_nil]; omega)).mono ?_
    rintro e Y ⟨h1, h2, -⟩
    exact ⟨h1, h2⟩
end Go.Proofs.Ythiiemjbigcinaa
