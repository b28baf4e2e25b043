/- The tree that a text tells: the program's Parse. -/
import Derived.Test.YtidnldchdahgeaaDoorTNums
import Derived.Test.YtidnldchdahgeaaDoorTRangeJ
import Derived.Test.YtidnldchdahgeaaDoorTLawG
namespace Go.Proofs.YtidnldchdahgeaaDoor
open Go.RowKit Go.Shelf
attribute [local go_sem] Oper.semAt_some

noncomputable def parseE (s : ByteArray) : Int := match parseT s.data.toList with
  | none => 61
  | some L => fitE L
noncomputable def parseL (s : ByteArray) : List Nd := match parseT s.data.toList with
  | none => []
  | some L => if fitB L = true then L else []
theorem cols_in : ∀ (m c : Nat) (l : List UInt8), c < 4 → l.length ≤ m → ∀ x ∈ (colsT c l).1, x.1 < 4 ∧ x.2 ≤ limC x.1
  | m, c, l, hc, hm => by
    intro x hx
    by_cases h0 : c = 0 ∧ l = []
    · obtain ⟨rfl, rfl⟩ := h0
      rw [cols_nil] at hx
      cases hx
    · cases hn : numT (limC c) (endB c) l with
      | none => rw [cols_bad h0 hn] at hx; cases hx
      | some q =>
        obtain ⟨v, r⟩ := q
        have h1 := num_len hn
        rw [cols_num hn] at hx
        rcases List.mem_cons.1 hx with e | e
        · subst e; exact ⟨hc, h1.2⟩
        · cases m with
          | zero => omega
          | succ m => exact cols_in m ((c + 1) % 4) r (Nat.mod_lt _ (by decide)) (by omega) x e
/-- What stands between two rounds: the node that is being read, the list so far. -/
structure PaI (w : World) (N2 Bl Bx : Nat) (pre : List (Nat × Nat)) (W : World) (v : Value) : Prop where
  bx : W.heap[Bx]? = some (.cells #[.int .u8 (eats ((0, 0, 0, 0), []) pre).1.1, .int .i64 (eats ((0, 0, 0, 0), []) pre).1.2.1, .int .i64 (eats ((0, 0, 0, 0), []) pre).1.2.2.1, .int .i64 (eats ((0, 0, 0, 0), []) pre).1.2.2.2] 40 (0, 0))
  bl : Boxed W Bl 22 v
  row : W.ownsRow N2 40 4 v (eats ((0, 0, 0, 0), []) pre).2.length (ndCells (eats ((0, 0, 0, 0), []) pre).2)
  up : Below w.heap.size w W
  n2 : N2 ≤ W.heap.size
theorem PaI.grown {w X Y : World} {N2 Bl Bx : Nat} {pre : List (Nat × Nat)} {v : Value} {row : Option Nat} (h : PaI w N2 Bl Bx pre X v) (hg : X.grownBy Y row) (hr : ∀ r, row = some r → w.heap.size ≤ r ∧ ∃ o : Obj, X.heap[r]? = some o ∧ (o.isCells = false ∨ TyR o)) : PaI w N2 Bl Bx pre Y v := by
  have ne : ∀ (b : Nat) (cs : Array Value) (t : TypeId), X.heap[b]? = some (Obj.cells cs t (0, 0)) → t ≠ 66 → some b ≠ row := by
    intro b cs t hb ht e
    obtain ⟨-, o, ho, h1 | ⟨cs', h1⟩⟩ := hr b e.symm
    · rw [hb] at ho; cases ho; cases h1
    · rw [hb] at ho; cases ho; injection h1 with _ h2; exact ht h2
  refine ⟨(hg.block Bx (Array.getElem?_eq_some_iff.1 h.bx).1 (ne _ _ _ h.bx (by decide))).trans h.bx, h.bl.kept hg (ne _ _ _ h.bl (by decide)), h.row.kept hg ?_, h.up.grown hg (Below.size h.up) (fun k e => (hr k e).1), Nat.le_trans h.n2 hg.size⟩
  rcases h.row.2 with ⟨rfl, _⟩ | ⟨g, cap, cur, rfl, h1, h2, _⟩
  · exact .inl rfl
  · exact .inr (ne _ _ _ h2 (by decide))
theorem set_node {W : World} {B j : Nat} {cs cs' : Array Value} {v : Value} {t : TypeId} (h : W.heap[B]? = some (.cells cs t (0, 0))) (e : cs.setIfInBounds j v = cs') : (W.setCell ⟨B, j, none⟩ v).heap[B]? = some (.cells cs' t (0, 0)) := by
  subst e
  simp [World.setCell, Array.getElem?_modify, h]
theorem prL_ge : ∀ L : List Nd, 8 * L.length ≤ (prL L).length
  | [] => Nat.le_refl _
  | x :: t => by
    have h1 := prL_ge t
    have h2 : 8 ≤ (prN x).length := by
      have a := dec_len_pos x.2.2.2.toNat
      have b := dec_len_pos x.1.toNat
      have c := dec_len_pos x.2.1.toNat
      have d := dec_len_pos x.2.2.1.toNat
      unfold prN dig
      simp only [List.length_append, List.length_cons, List.length_nil]
      omega
    show 8 * (t.length + 1) ≤ (prN x ++ prL t).length
    rw [List.length_append]
    omega
theorem ndin_ok {x : Nd} (h : NdIn x) : NdOk x := by
  obtain ⟨h1, h2, h3, h4⟩ := h
  refine ⟨?_, wf64_mk (by omega), wf64_mk (by omega), wf64_mk (by omega)⟩
  simpa [Lit.wf, IntKind.min, IntKind.max, IntKind.signed, IntKind.bits] using h1
theorem ownsB_block {W : World} {B k n : Nat} {T : TypeId} {v : Value} {xs : List Value} (h : W.ownsRow B T k v n xs) : ∀ r, v.ownBlock = some r → B ≤ r ∧ ∃ cs : Array Value, W.heap[r]? = some (Obj.cells cs T (0, 0)) := owns_block h
theorem cols_len : ∀ (m c : Nat) (l : List UInt8), l.length ≤ m → (colsT c l).1.length ≤ l.length
  | m, c, l, hm => by
    by_cases h0 : c = 0 ∧ l = []
    · obtain ⟨rfl, rfl⟩ := h0
      rw [cols_nil]
      exact Nat.le_refl _
    · cases hn : numT (limC c) (endB c) l with
      | none => rw [cols_bad h0 hn]; exact Nat.zero_le _
      | some q =>
        obtain ⟨v, r⟩ := q
        have h1 := num_len hn
        rw [cols_num hn]
        cases m with
        | zero => omega
        | succ m =>
          have := cols_len m ((c + 1) % 4) r (by omega)
          show (_ :: _ : List (Nat × Nat)).length ≤ _
          rw [List.length_cons]
          omega
theorem eatN_len (st : Nd × List Nd) (q : Nat × Nat) : (eatN st q).2.length ≤ st.2.length + 1 := by
  unfold eatN
  split
  · exact Nat.le_succ _
  split
  · exact Nat.le_succ _
  split
  · exact Nat.le_succ _
  · dsimp only; rw [List.length_append]; exact Nat.le_refl _
theorem eats_len2 : ∀ (xs : List (Nat × Nat)) (st : Nd × List Nd), (eats st xs).2.length ≤ st.2.length + xs.length
  | [], _ => Nat.le_refl _
  | q :: t, st => by
    rw [eats_cons]
    have h1 := eats_len2 t (eatN st q)
    have h2 := eatN_len st q
    rw [List.length_cons]
    omega
theorem eats_len (xs : List (Nat × Nat)) : (eats (((0, 0, 0, 0) : Nd), []) xs).2.length ≤ xs.length := by
  have := eats_len2 xs (((0, 0, 0, 0) : Nd), [])
  simpa using this
theorem row_not {W : World} {N k n B : Nat} {T : TypeId} {v : Value} {xs : List Value} (h : W.ownsRow N T k v n xs) (hB : B < N) : v.ownBlock = none ∨ v.ownBlock ≠ some B := by
  rcases h.2 with ⟨rfl, _⟩ | ⟨g, cap, cur, rfl, h1, _⟩
  · exact .inl rfl
  · exact .inr (fun e => by have : g = B := by simpa [Value.ownBlock] using e
                            omega)
/-- The same, the node and the list named. -/
structure PaJ (w : World) (N2 Bl Bx : Nat) (k0 k1 k2 k3 : Int) (O : List Nd) (W : World) (v : Value) : Prop where
  bx : W.heap[Bx]? = some (.cells #[.int .u8 k0, .int .i64 k1, .int .i64 k2, .int .i64 k3] 40 (0, 0))
  bl : Boxed W Bl 22 v
  row : W.ownsRow N2 40 4 v O.length (ndCells O)
  up : Below w.heap.size w W
  n2 : N2 ≤ W.heap.size
theorem PaI.grownR {w X Y : World} {N2 Bl Bx Br : Nat} {pre : List (Nat × Nat)} {v : Value} (h : PaI w N2 Bl Bx pre X v) (hg : X.grownBy Y (some Br)) (h1 : w.heap.size ≤ Br) (h2 : Br < Bl ∧ Br < Bx) (h3 : Br < N2) : PaI w N2 Bl Bx pre Y v :=
  ⟨(hg.block Bx (Array.getElem?_eq_some_iff.1 h.bx).1 (fun e => by injection e with e; omega)).trans h.bx, h.bl.kept hg (fun e => by injection e with e; omega), h.row.kept hg (row_not h.row h3), h.up.grown hg (Below.size h.up) (fun k e => by injection e with e; omega), Nat.le_trans h.n2 hg.size⟩
set_option maxRecDepth 100000 in
set_option maxHeartbeats 8000000 in
theorem parse_in (s : ByteArray) (hs : s.size ≤ 65536) (w : World) :
    CallsIn Fence.wide 4 Tryd.prog 30 #[.string s] w fun e w' => ∃ v, e = .returned (.tuple #[v, .int .i64 (parseE s)]) ∧ RowN w' w.heap.size v (parseL s) ∧ Up w w' := by
  have hs2 : s.size ≤ 140737488355328 := by omega
  have HSz := Lib.hid hs
  obtain ⟨w1, hw1⟩ : ∃ w1, ((w.alloc (.cells #[.string s, .int .i64 0, .bool false] 66)).alloc (.cells #[.slice none 0 0] 22)).alloc (.cells #[.int .u8 0, .int .i64 0, .int .i64 0, .int .i64 0] 40) = w1 := ⟨_, rfl⟩
  have HNb := Lib.hid (fun Br W => numbers_any Br W)
  have hmx := mixedP
  clear hs
  refine callsIn_of_wp_marks Tryd.func30 rfl trivial ?_ rfl
  simp only [Tryd.ntmps30, List.size_toArray, List.length_cons, List.length_nil, Nat.reduceAdd, Nat.reduceSub, Array.replicate_succ, Array.replicate_zero, List.push_toArray, List.append_toArray, List.nil_append, List.cons_append]
  gi_wp2_with (refine ⟨trivial, ?_⟩; gi_at_call 45; ((with_reducible refine ((callsIn_wide (n := 3)).2 (HNb.out _ _)).mono ?_); rintro e w2 ⟨rfl, rfl⟩))
  have hu1 : Up w w1 := by rw [← hw1]; exact ((Up.alloc w _).trans (Up.alloc _ _)).trans (Up.alloc _ _)
  have hsz : w1.heap.size = w.heap.size + 3 := by rw [← hw1]; simp
  have hrd : RdS w1 w.heap.size s 0 false := by
    rw [← hw1]
    exact RdS.up (RdS.up (show RdS (w.alloc (.cells #[.string s, .int .i64 0, .bool false] 66)) w.heap.size s 0 false from Go.heap_alloc_new _ _) (Up.alloc _ _)) (Up.alloc _ _)
  have hbl : Boxed w1 (w.heap.size + 1) 22 (.slice none 0 0) := by
    rw [← hw1]
    have := (Boxed.new (w.alloc (.cells #[.string s, .int .i64 0, .bool false] 66)) 22 (.slice none 0 0)).alloc (.cells #[.int .u8 0, .int .i64 0, .int .i64 0, .int .i64 0] 40)
    rw [World.size_alloc] at this
    exact this
  have hbx : w1.heap[w.heap.size + 1 + 1]? = some (.cells #[.int .u8 0, .int .i64 0, .int .i64 0, .int .i64 0] 40 (0, 0)) := by
    rw [← hw1]
    have := Go.heap_alloc_new ((w.alloc (.cells #[.string s, .int .i64 0, .bool false] 66)).alloc (.cells #[.slice none 0 0] 22)) (.cells #[.int .u8 0, .int .i64 0, .int .i64 0, .int .i64 0] 40)
    rw [World.size_alloc, World.size_alloc] at this
    exact this
  clear hw1
  obtain ⟨Br, hBr⟩ : ∃ Br, w.heap.size = Br := ⟨_, rfl⟩
  rw [hBr] at hrd hbl hbx hsz
  simp only [hBr, hsz]
  obtain ⟨w2, hw2⟩ : ∃ w2, w1.alloc (Obj.cells #[Value.pointer (some { block := Br, off := 0 })] 77) = w2 := ⟨_, rfl⟩
  have hu2 : Up w1 w2 := by rw [← hw2]; exact Up.alloc w1 _
  have hsz2 : w2.heap.size = Br + 4 := by rw [← hw2, World.size_alloc, hsz]
  have hbp : Boxed w2 (Br + 3) 77 (.pointer (some ⟨Br, 0, none⟩)) := by
    rw [← hw2]
    have := Boxed.new w1 77 (.pointer (some ⟨Br, 0, none⟩))
    rw [hsz] at this
    exact this
  simp only [hw2]
  clear hw2
  have hrd2 := hrd.up hu2
  have hI0 : PaI w (Br + 4) (Br + 1) (Br + 1 + 1) [] w2 (.slice none 0 0) := ⟨(Below.block hu2 _ (Array.getElem?_eq_some_iff.1 hbx).1).trans hbx, hbl.kept (Up.grownBy hu2) (fun e => by cases e), World.ownsRow_nil _ _ _ _, hu1.trans hu2, by omega⟩
  have hTells : TellsJ Fence.wide 3 Tryd.prog 52 #[.pointer (some ⟨Br + 3, 0, none⟩)] enc2 (KpS fun k => k = Br ∨ k = Br + 3) TyR (colsT 0 (rest s 0)).1 (fun Y => ∃ p, RdS Y Br s p (colsT 0 (rest s 0)).2) Br w2 := fun l J W hW hJ hJr hY h0 =>
    numbers1_in 3 (by omega) l (Br + 3) Br s hs2 (by omega) J W hJ hJr hY (hbp.kept (Up.grownBy hW) (fun e => by cases e)) (hrd2.up hW) h0
  have HCin := Lib.hid (cols_in _ 0 (rest s 0) (by omega) (Nat.le_refl _))
  have HPa := Lib.hid (cols_parse _ (rest s 0) ((0, 0, 0, 0) : Nd) [] (Nat.le_refl _))
  have HLen := Lib.hid (show ∀ pre, pre <+: (colsT 0 (rest s 0)).1 → (eats (((0, 0, 0, 0) : Nd), []) pre).2.length ≤ pre.length from fun pre _ => eats_len pre)
  have HCl := Lib.hid (show (colsT 0 (rest s 0)).1.length ≤ 65536 from Nat.le_trans (cols_len _ 0 (rest s 0) (Nat.le_refl _)) (by rw [rest_len]; have := HSz.out; omega))
  obtain ⟨T, hT⟩ : ∃ T, colsT 0 (rest s 0) = T := ⟨_, rfl⟩
  rw [hT] at hTells HCin HPa HLen HCl
  clear hbp hrd hrd2 hbl hbx hu1 hu2 hT
  refine range_tellsJ rfl (by omega) (gf := 52) (lb := #[.pointer (some ⟨Br + 3, 0, none⟩)]) rfl trivial (enters_of Tryd.func52 (by kernel_rfl) rfl)
    (by omega) (fun W j o o' hj ho ⟨p, h⟩ => ⟨p, kpS_b (S := fun _ => True) W j o o' hj ho Br trivial _ _ _ h⟩) hTells tyR_cells kpS_t kpS_b (fun _ => rfl)
    (fun pre W => ∃ v, PaI w (Br + 4) (Br + 1) (Br + 1 + 1) pre W v)
    (fun s X Y row ⟨v, h⟩ hg hr => ⟨v, h.grown hg (fun r e => ⟨by have := (hr r e).1; omega, (hr r e).2⟩)⟩)
    (fun s X Y ⟨v, h⟩ hg => ⟨v, h.grownR hg (by omega) (by omega) (by omega)⟩)
    ⟨_, hI0⟩
    (fun x => { tmps := #[.string s, undef, .slice none 0 0, .int .i64 0, .pointer (some ⟨Br, 0, none⟩), .pointer (some ⟨Br + 1, 0, none⟩), .pointer (some ⟨Br + 1 + 1, 0, none⟩), .int .i64 (x.1 : Nat), .int .i64 (x.2 : Nat), undef, .string s, .agg #[.string s, .int .i64 0, .bool false], .func (.func 52) #[] #[.pointer (some ⟨Br + 3, 0, none⟩)], .int .i64 (x.1 : Nat), .int .i64 (x.2 : Nat), undef, undef, undef, undef, undef, undef, undef, undef, undef, undef, undef, undef, undef, undef, undef, undef, undef, undef, undef, undef, undef, undef, undef, undef, undef, undef, undef, undef, undef, undef], defers := [] }) ?assign ?body ?done
  case assign =>
    intro l x W K' hK'
    gi_wp2
    exact hK'
  case body =>
    rintro l pre x W ⟨v0, hP⟩ hpre
    have hxm : x ∈ T.1 := hpre.subset (by simp)
    obtain ⟨hx4, hxl⟩ := HCin.out x hxm
    have hlen := Nat.le_trans (HLen.out pre ((List.prefix_append _ _).trans hpre)) (Nat.le_trans ((List.prefix_append pre [x]).trans hpre).length_le HCl.out)
    have hsn := eats_snoc (((0, 0, 0, 0) : Nd), []) pre x
    obtain ⟨⟨⟨k0, k1, k2, k3⟩, O⟩, hst⟩ : ∃ st, eats (((0, 0, 0, 0) : Nd), []) pre = st := ⟨_, rfl⟩
    have hP2 : PaJ w (Br + 4) (Br + 1) (Br + 1 + 1) k0 k1 k2 k3 O W v0 := by
      obtain ⟨h1, h2, h3, h4, h5⟩ := hP
      rw [hst] at h1 h3
      exact ⟨h1, h2, h3, h4, h5⟩
    rw [hst] at hsn hlen
    obtain ⟨c, v⟩ := x
    dsimp only at hx4 hxl hlen
    have HP := Lib.hid hP2
    have cx0 := cellOf (j := 0) hP2.bx rfl
    have cx1 := cellOf (j := 1) hP2.bx rfl
    have cx2 := cellOf (j := 2) hP2.bx rfl
    have cx3 := cellOf (j := 3) hP2.bx rfl
    have fx : ∀ j, W.frozen? ⟨Br + 1 + 1, j, none⟩ = false := fun j => frozenOf hP2.bx
    have fx0 := fx 0
    have fx1 := fx 1
    have fx2 := fx 2
    have fx3 := fx 3
    have HNr := Lib.hid (row_not hP2.row (show Br + 1 + 1 < Br + 4 by omega))
    have hbB : w.heap.size ≤ W.heap.size := Below.size hP2.up
    clear hP hP2 hpre hxm hst fx
    have h4 : c = 0 ∨ c = 1 ∨ c = 2 ∨ c = 3 := by omega
    by_cases c0 : c = 0
    · have HE := Lib.hid (show eats (((0, 0, 0, 0) : Nd), []) (pre ++ [(c, v)]) = ((k0, k1, k2, (v : Int)), O) by rw [hsn]; unfold eatN; rw [if_pos c0])
      have e0 : ((c : Int) == 0) = true := beq_iff_eq.2 (by omega)
      clear hsn h4 hxl c0
      gi_wp2
      have hset := setCell_grown W (Br + 1 + 1) 3 (.int .i64 (v : Nat))
      have hx2 := set_node (v := (.int .i64 (v : Nat))) (j := 3) HP.out.bx (by rfl : _ = #[.int .u8 k0, .int .i64 k1, .int .i64 k2, .int .i64 (v : Nat)])
      refine ⟨KeepsOthers.setCell _ _ _, kpS_grown hset fun r e h => by injection e with e; omega, v0, ?_⟩
      have hE := HE.out
      refine ⟨?_, HP.out.bl.kept hset (fun e => by injection e with e; omega), ?_, HP.out.up.setCell (p := ⟨Br + 1 + 1, 3, none⟩) (by show w.heap.size ≤ Br + 1 + 1; omega) _, Nat.le_trans HP.out.n2 hset.size⟩
      · rw [hE]
        exact hx2
      · rw [hE]
        exact HP.out.row.kept hset (HNr.out)
    have e0 : ((c : Int) == 0) = false := beq_false_of_ne (by omega)
    by_cases c1 : c = 1
    · have HE := Lib.hid (show eats (((0, 0, 0, 0) : Nd), []) (pre ++ [(c, v)]) = (((v : Int), k1, k2, k3), O) by rw [hsn]; unfold eatN; rw [if_neg c0, if_pos c1])
      have e1 : ((c : Int) == 1) = true := beq_iff_eq.2 (by omega)
      have qv : IntKind.u8.wrap (v : Int) = (v : Int) := IntWalk.u8_in _ (by rw [c1] at hxl; have : v ≤ 255 := hxl; omega)
      clear hsn h4 hxl c1 c0
      gi_wp2
      have hset := setCell_grown W (Br + 1 + 1) 0 (.int .u8 (v : Nat))
      have hx2 := set_node (v := (.int .u8 (v : Nat))) (j := 0) HP.out.bx (by rfl : _ = #[.int .u8 (v : Nat), .int .i64 k1, .int .i64 k2, .int .i64 k3])
      refine ⟨KeepsOthers.setCell _ _ _, kpS_grown hset fun r e h => by injection e with e; omega, v0, ?_⟩
      have hE := HE.out
      refine ⟨?_, HP.out.bl.kept hset (fun e => by injection e with e; omega), ?_, HP.out.up.setCell (p := ⟨Br + 1 + 1, 0, none⟩) (by show w.heap.size ≤ Br + 1 + 1; omega) _, Nat.le_trans HP.out.n2 hset.size⟩
      · rw [hE]
        exact hx2
      · rw [hE]
        exact HP.out.row.kept hset (HNr.out)
    have e1 : ((c : Int) == 1) = false := beq_false_of_ne (by omega)
    by_cases c2 : c = 2
    · have HE := Lib.hid (show eats (((0, 0, 0, 0) : Nd), []) (pre ++ [(c, v)]) = ((k0, (v : Int), k2, k3), O) by rw [hsn]; unfold eatN; rw [if_neg c0, if_neg c1, if_pos c2])
      have e2 : ((c : Int) == 2) = true := beq_iff_eq.2 (by omega)
      clear hsn h4 hxl c2 c1 c0
      gi_wp2
      have hset := setCell_grown W (Br + 1 + 1) 1 (.int .i64 (v : Nat))
      have hx2 := set_node (v := (.int .i64 (v : Nat))) (j := 1) HP.out.bx (by rfl : _ = #[.int .u8 k0, .int .i64 (v : Nat), .int .i64 k2, .int .i64 k3])
      refine ⟨KeepsOthers.setCell _ _ _, kpS_grown hset fun r e h => by injection e with e; omega, v0, ?_⟩
      have hE := HE.out
      refine ⟨?_, HP.out.bl.kept hset (fun e => by injection e with e; omega), ?_, HP.out.up.setCell (p := ⟨Br + 1 + 1, 1, none⟩) (by show w.heap.size ≤ Br + 1 + 1; omega) _, Nat.le_trans HP.out.n2 hset.size⟩
      · rw [hE]
        exact hx2
      · rw [hE]
        exact HP.out.row.kept hset (HNr.out)
    have e2 : ((c : Int) == 2) = false := beq_false_of_ne (by omega)
    have e3 : ((c : Int) == 3) = true := beq_iff_eq.2 (by omega)
    have HE := Lib.hid (show eats (((0, 0, 0, 0) : Nd), []) (pre ++ [(c, v)]) = ((k0, k1, (v : Int), k3), O ++ [((k0, k1, (v : Int), k3) : Nd)]) by rw [hsn]; unfold eatN; rw [if_neg c0, if_neg c1, if_neg c2])
    clear hsn h4 hxl c2 c1 c0
    have HPx := Lib.hid (set_node (v := .int .i64 (v : Nat)) (j := 2) HP.out.bx (by rfl : _ = #[.int .u8 k0, .int .i64 k1, .int .i64 (v : Nat), .int .i64 k3]))
    have hset0 := setCell_grown W (Br + 1 + 1) 2 (.int .i64 (v : Nat))
    have hv := HP.out.bl.kept hset0 (fun e => by injection e with e; omega)
    have hrow := HP.out.row.kept hset0 HNr.out
    have hup1 := HP.out.up.setCell (p := ⟨Br + 1 + 1, 2, none⟩) (by show w.heap.size ≤ Br + 1 + 1; omega) (.int .i64 (v : Nat))
    have cy0 := cellOf (j := 0) HPx.out rfl
    have cy1 := cellOf (j := 1) HPx.out rfl
    have cy2 := cellOf (j := 2) HPx.out rfl
    have cy3 := cellOf (j := 3) HPx.out rfl
    have cyl := hv.cell
    have hn2 := Nat.le_trans HP.out.n2 hset0.size
    have hko := KeepsOthers.setCell W ⟨Br + 1 + 1, 2, none⟩ (.int .i64 (v : Nat))
    have hkp : KpS (fun k => k = Br ∨ k = Br + 3) W (W.setCell ⟨Br + 1 + 1, 2, none⟩ (.int .i64 (v : Nat))) := kpS_grown hset0 fun r e h => by injection e with e; omega
    obtain ⟨Wd, hWd⟩ : ∃ Wd, W.setCell ⟨Br + 1 + 1, 2, none⟩ (.int .i64 (v : Nat)) = Wd := ⟨_, rfl⟩
    have hwsz : (W.setCell ⟨Br + 1 + 1, 2, none⟩ (.int .i64 (v : Nat))).heap.size = W.heap.size := by simp [World.setCell]
    have hnews := heap_alloc_new (W.setCell ⟨Br + 1 + 1, 2, none⟩ (.int .i64 (v : Nat))) (.cells #[.int .u8 k0, .int .i64 k1, .int .i64 (v : Nat), .int .i64 k3] 40)
    rw [hwsz] at hnews
    obtain ⟨m, hm⟩ : ∃ m, O.length = m := ⟨_, rfl⟩
    rw [hm] at hrow hlen
    have HM := Lib.hid hm
    have HKo := Lib.hid hko
    have HKp := Lib.hid hkp
    have HUp := Lib.hid hup1
    have HWd := Lib.hid hWd
    have HNw := Lib.hid hnews
    have HN2 := Lib.hid hn2
    have HSt0 := Lib.hid hset0
    have hszB : Br + 4 ≤ W.heap.size := HP.out.n2
    obtain ⟨i0, hi0, hz0, hz1, hz2⟩ := info_parts infoNode
    have hbS : Br + 4 ≤ ((W.setCell ⟨Br + 1 + 1, 2, none⟩ (.int .i64 (v : Nat))).alloc (.cells #[.int .u8 k0, .int .i64 k1, .int .i64 (v : Nat), .int .i64 k3] 40)).heap.size := by rw [World.size_alloc, hwsz]; omega
    have HBs := Lib.hid hbS
    clear hko hkp hup1 hm hWd hnews hn2 hwsz hset0 hbS HP
    gi_wp2_with (gi_at_builtin; (refine wpListIn_append_own _ rfl _ _ 22 rfl (Br + 4) 40 i0 (.agg #[.int .u8 0, .int .i64 0, .int .i64 0, .int .i64 0]) 4 32 Tryd.underlying22 hi0 hz0 hz1 hz2 rfl (by decide) _ _ _ rfl (hrow.alloc _) ⟨W.heap.size, 0, none⟩ 1 1 [.int .u8 k0, .int .i64 k1, .int .i64 (v : Nat), .int .i64 k3] rfl rfl (World.news_of_block (cs := #[.int .u8 k0, .int .i64 k1, .int .i64 (v : Nat), .int .i64 k3]) (t := 40) (fr := (0, 0)) HNw.out) (by simp [Value.oneCell']) (by unfold maxLen; omega) (by omega) HBs.out ?_; intro v' w3 hown' hgrow _; obtain ⟨g', cap', rfl⟩ := ownsRow_succ hown'; have hv1 : Boxed w3 (Br + 1) 22 v0 := (hv.alloc _).kept hgrow (hv.not_row (by decide) hrow); have hc1 := hv1.cell; have hf1 := hv1.frozen))
    have hblk := fun r e => ownsB_block (hrow.alloc (.cells #[.int .u8 k0, .int .i64 k1, .int .i64 (v : Nat), .int .i64 k3] 40)) r e
    have hset := setCell_grown w3 (Br + 1) 0 (.slice (some ⟨g', 0, none⟩) (m + 1) cap')
    have hxk := (hgrow.block (Br + 1 + 1) (by rw [World.size_alloc]; have := (Array.getElem?_eq_some_iff.1 HPx.out).1; omega) (fun e => by have := (hblk _ e.symm).1; omega)).trans ((Below.heap_alloc _ _ _ (Array.getElem?_eq_some_iff.1 HPx.out).1).trans HPx.out)
    refine ⟨HKo.out.trans (((KeepsOthers.alloc _ _).trans (KeepsOthers.of_grownBy hgrow fun q ob e hq => by obtain ⟨-, cs, hcs⟩ := hblk q e; rw [hq] at hcs; cases hcs; rfl)).trans (KeepsOthers.setCell _ _ _)),
      kpS_t HKp.out (kpS_t (kpS_t (kpS_up (Up.alloc _ _)) (kpS_grown hgrow fun r e h => by have := (hblk r e).1; omega)) (kpS_grown hset fun r e h => by injection e with e; omega)), .slice (some ⟨g', 0, none⟩) (m + 1) cap', ?_⟩
    have hE := HE.out
    refine ⟨?_, ?_, ?_, ?_, ?_⟩
    · rw [hE]
      exact (hset.block _ (Array.getElem?_eq_some_iff.1 hxk).1 (fun e => by injection e with e; omega)).trans hxk
    · exact hv1.set _
    · rw [hE]
      show World.ownsRow _ _ _ _ _ (O ++ [((k0, k1, (v : Int), k3) : Nd)]).length (ndCells (O ++ [((k0, k1, (v : Int), k3) : Nd)]))
      rw [ndCells_append, List.length_append, HM.out]
      exact hown'.kept hset (.inr (hv1.not_row (by decide) hown').symm)
    · exact ((HUp.out.trans (Below.mono (Up.alloc _ _) (Below.size HUp.out))).grown hgrow (Nat.le_trans (by omega) HBs.out) (fun q e => by have := (hblk q e).1; omega)).setCell (p := ⟨Br + 1, 0, none⟩) (by show w.heap.size ≤ Br + 1; omega) _
    · exact Nat.le_trans HBs.out (Nat.le_trans hgrow.size hset.size)
  case done =>
    rintro D W hD ⟨v0, hP⟩ ⟨p, hR⟩ hKD
    have cbr := hR.br
    have cl := hP.bl.cell
    have HP := Lib.hid hP
    have hwD : w.heap.size ≤ D := by omega
    rcases HPa.out with ⟨hb, hpn⟩ | ⟨hb, L, hpL, heL⟩
    · rw [hb] at cbr
      have HE := Lib.hid (show parseE s = 61 ∧ parseL s = [] by unfold parseE parseL; rw [← rest_zero, hpn]; exact ⟨rfl, rfl⟩)
      clear hP hR hb hpn
      gi_wp2
      refine ⟨by simp, .inl ⟨_, _, rfl, run_takeDeferred hKD, ?_⟩⟩
      refine ⟨_, results_tmp2 rfl _ _ _, .slice none 0 0, by show Ending.returned (.tuple #[.slice none 0 0, .int .i64 61]) = _; rw [HE.out.1], by rw [HE.out.2]; exact World.ownsRow_nil _ _ _ _, Below.trans HP.out.up (belowK_b (w := w) (Nat.le_refl _) W D _ _ hwD hKD rfl rfl)⟩
    · rw [hb] at cbr
      rw [List.nil_append] at heL
      obtain ⟨hpr, hin, -⟩ := pr_parse _ (Nat.le_refl _) hpL
      have hL8 : L.length ≤ 10000 := by
        have h1 := prL_ge L
        rw [hpr, rest_len] at h1
        have := HSz.out
        omega
      have hok : ∀ x ∈ L, NdOk x := fun x hx => ndin_ok (hin x hx)
      have hrow0 := hP.row
      rw [heL] at hrow0
      have hrowN : RowN W w.heap.size v0 L := ⟨hrow0.1, hrow0.2.imp id (fun ⟨g', cap, cur, h1, h2, h3⟩ => ⟨g', cap, cur, h1, by omega, h3⟩)⟩
      obtain ⟨A5, c5, hv5, hA5, hc5⟩ := own_arg hrowN hok
      subst hv5
      have HCk := Lib.hid (checkF_any W A5 L.length c5 L hA5 hc5 hL8)
      have HRow := Lib.hid hrowN
      have hpe : parseE s = fitE L ∧ parseL s = if fitB L = true then L else [] := by unfold parseE parseL; rw [← rest_zero, hpL]; exact ⟨rfl, rfl⟩
      have hfe : fitE L = if fitB L = true then 0 else 60 := rfl
      cases hF : fitB L with
      | true =>
        rw [hF, if_pos rfl] at hfe
        rw [hF, if_pos rfl, hfe] at hpe
        rw [hfe] at HCk
        have HE := Lib.hid hpe
        clear hP hR hb hpL heL hpr hin hok hrow0 hrowN hA5 hc5 hpe hfe hF
        gi_wp2_with (refine ⟨trivial, ?_⟩; gi_at_call 41; ((with_reducible refine ((callsIn_wide (n := 3)).2 HCk.out).mono ?_); rintro e w5 ⟨rfl, hu5⟩; have cl := cell_up hu5 cl; have HU5 := Lib.hid hu5; clear hu5))
        have hKD5 := (Below.block HU5.out D (Array.getElem?_eq_some_iff.1 hKD).1).trans hKD
        refine ⟨by simp, .inl ⟨_, _, rfl, run_takeDeferred hKD5, ?_⟩⟩
        refine ⟨_, results_tmp2 rfl _ _ _, .slice A5 L.length c5, by show Ending.returned (.tuple #[.slice A5 L.length c5, .int .i64 0]) = _; rw [HE.out.1], by rw [HE.out.2]; exact ownsRow_putObj (rowN_up HRow.out HU5.out) (.deferred none) hKD5 rfl, Below.trans (Below.trans HP.out.up (Below.mono HU5.out (Below.size HP.out.up))) (belowK_b (w := w) (Nat.le_refl _) w5 D _ _ hwD hKD5 rfl rfl)⟩
      | false =>
        rw [hF, if_neg (by decide)] at hfe
        rw [hF, if_neg (by decide), hfe] at hpe
        rw [hfe] at HCk
        have HE := Lib.hid hpe
        clear hP hR hb hpL heL hpr hin hok hrow0 hrowN hA5 hc5 hpe hfe hF
        gi_wp2_with (refine ⟨trivial, ?_⟩; gi_at_call 41; ((with_reducible refine ((callsIn_wide (n := 3)).2 HCk.out).mono ?_); rintro e w5 ⟨rfl, hu5⟩; have cl := cell_up hu5 cl; have HU5 := Lib.hid hu5; clear hu5))
        have hKD5 := (Below.block HU5.out D (Array.getElem?_eq_some_iff.1 hKD).1).trans hKD
        refine ⟨by simp, .inl ⟨_, _, rfl, run_takeDeferred hKD5, ?_⟩⟩
        refine ⟨_, results_tmp2 rfl _ _ _, .slice none 0 0, by show Ending.returned (.tuple #[.slice none 0 0, .int .i64 60]) = _; rw [HE.out.1], by rw [HE.out.2]; exact World.ownsRow_nil _ _ _ _, Below.trans (Below.trans HP.out.up (Below.mono HU5.out (Below.size HP.out.up))) (belowK_b (w := w) (Nat.le_refl _) w5 D _ _ hwD hKD5 rfl rfl)⟩
end Go.Proofs.YtidnldchdahgeaaDoor
