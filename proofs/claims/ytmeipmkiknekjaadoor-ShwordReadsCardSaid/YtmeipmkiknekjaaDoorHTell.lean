/- The end of the program's word: the word is told. -/
import Derived.Test.YtmeipmkiknekjaaDoorHLet
import Derived.Test.YtmeipmkiknekjaaDoorHAny
import Derived.Test.YtmeipmkiknekjaaDoorHPut
import Derived.Test.YtmeipmkiknekjaaDoorHGate
import Derived.Lib.AppendStr
namespace Go.Proofs.YtmeipmkiknekjaaDoor
open Go.RowKit
set_option linter.unusedVariables false
set_option linter.unusedSimpArgs false

/-- 'append(b, s...)' at a step of a region that draws its order. -/
theorem wp_append_str {o : Oper} {a : Act} {w : World} {K : Act → World → Prop} {Q : Exit → Act → World → Prop} (sl x : Operand) (t u : TypeId)
    (ho : o.op = .call { callee := .builtin .append, args := #[sl, x], argTypes := #[t, u] })
    (base : Nat) (e : TypeId) (i : TypeInfo) (ht : Tryd.prog.underlying t = some (.slice e)) (hu : Tryd.prog.underlying u = some .string) (hi : Tryd.prog.info? e = some i) (hz : i.zero = some (.int .u8 0))
    (hsize : i.size = 1) (hby : i.bytes = 1)
    (v : Value) (n : Nat) (xs : List Value) (hs : a.eval sl = v) (hown : w.ownsRow base e 1 v n xs) (s : ByteArray) (hx : a.eval x = .string s)
    (h63 : n + s.size ≤ maxLen) (hbytes : n + s.size ≤ 140737488355328) (hbase : base ≤ w.heap.size)
    (h : ∀ v' w', w'.ownsRow base e 1 v' (n + s.size) (xs ++ Lib.strCells s) → w.grownBy w' v.ownBlock → K (a.put o.dst v') w') : o.wp Tryd.prog a w K Q := by
  obtain ⟨v', w', hr, h2, h3, h4⟩ := Lib.run_append_own_string (P := Tryd.prog) w base t u o.type e i ht hu hi hz hsize hby v n xs hown s h63 hbytes hbase
  unfold Oper.wp execOp
  simp only [ho, resolve, invoke, builtin, Sem.run_bind, Sem.run_pure, Result.andThen_ok, List.map_toArray, List.map_cons, List.map_nil, hs, hx, hr]
  exact h v' w' h2 h3
theorem strCells_nb (s : ByteArray) : Lib.strCells s = nbC (bl s) := by
  unfold Lib.strCells nbC Lib.byteCells u8s bl
  simp
theorem nbC_append (a b : List Nat) : nbC (a ++ b) = nbC a ++ nbC b := by simp [nbC, u8s, Lib.byteCells]
/-- A word's text, as a string. -/
theorem conv_nb {W : World} {B : Nat} {v : Value} {l : List Nat} (h : W.ownsRow B U8 1 v l.length (nbC l)) : (convert TT 9 v).run Tryd.prog W = .ok (.string (toB l)) W := by
  have hl : (u8s l).length = l.length := by simp [u8s]
  rcases h.2 with ⟨rfl, hz⟩ | ⟨g, cap, cur, rfl, hb, hg, hnc, hcm, hcs, ht⟩
  · obtain rfl : l = [] := List.eq_nil_of_length_eq_zero hz
    exact (by kernel_rfl : (convert TT 9 (.slice none 0 0)).run Tryd.prog W = .ok (.string ⟨#[]⟩) W)
  · have := run_convert_bytes_back (P := Tryd.prog) W TT 9 U8 ⟨g, 0, none⟩ cap (u8s l) Tryd.underlying51 Tryd.underlying5 Tryd.underlying9 (fun j hj => by
      have h1 := h.cells (g := g) rfl j (.int .u8 ((u8s l)[j].toNat : Int)) (by simp [nbC, Lib.byteCells, hj])
      exact h1)
    rw [hl] at this
    exact this
/-- The region of a number in a code. -/
def cReg (n : Nat) : Code → Option Code
  | .region k o m => if k = n then some (.region k o m) else none
  | .loop c => cReg n c
  | .seq a b => (cReg n a).or (cReg n b)
  | .block _ c => cReg n c
  | .scope c => cReg n c
  | .cond _ a b => (cReg n a).or (cReg n b)
  | _ => none
noncomputable def wReg7 : Code := ((Tryd.f16.body.bind (cReg 7)).getD .skip)
noncomputable def wReg4 : Code := ((Tryd.f16.body.bind (cReg 4)).getD .skip)
/-- Q, where one goes on; else no way out. -/
def onlyN (Q : Exit → Act → World → Prop) : Exit → Act → World → Prop
  | .normal, a, w => Q .normal a w
  | _, _, _ => False
theorem wp_onlyN {P : Program} {s : Code} {Q : Exit → Act → World → Prop} {a : Act} {w : World} (h : s.wp P (onlyN Q) a w) : s.wp P Q a w := by
  refine Code.wp_mono ?_ h
  intro e a' w' hq
  cases e <;> first | exact hq | exact (hq : False).elim
/-- The reader's and the text's cells. -/
structure LtB (W : World) (B b tb : Nat) (line : ByteArray) (n p mk : Nat) (v : Value) (tv : Value) (l : List Nat) : Prop where
  box : W.heap[b]? = some (.cells (rdA line n p mk v) RT)
  tbox : W.heap[tb]? = some (.cells #[tv] TT)
  trow : W.ownsRow B U8 1 tv l.length (nbC l)
theorem LtB.more {W W' : World} {B b tb n p mk : Nat} {line : ByteArray} {v tv : Value} {l : List Nat} (h : LtB W B b tb line n p mk v tv l) (hu : Up W W') : LtB W' B b tb line n p mk v tv l :=
  ⟨box_up h.box hu, box_up h.tbox hu, row_up h.trow hu⟩
/-- Behind an append to the pieces they are as they were. -/
theorem LtB.grown {W W' w2 : World} {B b tb n p mk k : Nat} {line : ByteArray} {v tv : Value} {xs : List Value} {l : List Nat} (h : LtB W B b tb line n p mk v tv l) (hr : W.ownsRow B PT 6 v k xs) (hu : Up W W') (hgrow : W'.grownBy w2 v.ownBlock) : LtB w2 B b tb line n p mk v tv l := by
  have hap : ∀ (g : Nat) (T : TypeId), (∃ cs fr, W.heap[g]? = some (.cells cs T fr)) → T ≠ PT → w2.heap[g]? = W.heap[g]? := fun g T h1 hne => by
    obtain ⟨cs, fr, hg⟩ := h1
    have hlt := (Array.getElem?_eq_some_iff.1 hg).1
    rw [hgrow.block g (Nat.lt_of_lt_of_le hlt (Below.size hu)) (fun e => blk_ne ⟨_, _, hg⟩ (row_blk hr e.symm) hne rfl), Below.block hu g hlt]
  refine ⟨?_, ?_, ?_⟩
  · rw [hap b _ ⟨_, _, h.box⟩ ne_RP]; exact h.box
  · rw [hap tb _ ⟨_, _, h.tbox⟩ ne_PT.symm]; exact h.tbox
  · exact row_keep h.trow fun g e => hap g _ (row_blk h.trow e) ne_PU.symm
section
variable {w0 W : World} {b tb n p q : Nat} {line : ByteArray} {ps : List Pc}
set_option maxRecDepth 1000000 in
set_option maxHeartbeats 16000000 in
theorem tell_bare {mk : Nat} {v tv : Value} {T : List Nat} {X : Bool} {B : Bool} (hB : ((mk : Int) == 0) = B) (HL : LtH w0 W b tb line n q mk v ps tv T) (hl : ps.length ≤ 1000000) (Q : Exit → Act → World → Prop) (u2 u3 u7 u8 u9 u10 u11 u12 u13 u14 u15 u16 u17 u18 u19 u20 u21 u22 u23 u24 u25 u26 u27 u28 u29 u30 u31 u32 u33 u34 u35 u36 u37 u38 u39 u40 u41 u42 u43 u44 u45 u46 u47 u48 u49 u50 u51 u52 u53 u54 u55 u56 u57 u58 u59 u60 u61 u62 u63 u64 u65 u66 u67 u68 u69 u70 u71 u72 u73 u74 u75 u76 u77 u78 u79 u80 u81 u82 u83 : Value)
    (hQ : ∀ (y57 y58 y59 y60 y61 y62 y63 y64 y65 y66 y67 y68 y69 y70 y71 y72 y73 y74 y75 y76 y77 y78 y79 y80 y81 y82 y83 : Value) (w' : World) (v' : Value), RdH w0 w' b line n q mk v' (ps ++ [⟨51, p, q, T, X, B⟩]) → Q .normal ⟨((Value.pointer (some ⟨b, 0, none⟩)) :: (Value.int .u8 0) :: u2 :: u3 :: (Value.pointer (some ⟨tb, 0, none⟩)) :: (Value.int .i64 (p : Nat)) :: (Value.bool X) :: u7 :: u8 :: u9 :: u10 :: u11 :: u12 :: u13 :: u14 :: u15 :: u16 :: u17 :: u18 :: u19 :: u20 :: u21 :: u22 :: u23 :: u24 :: u25 :: u26 :: u27 :: u28 :: u29 :: u30 :: u31 :: u32 :: u33 :: u34 :: u35 :: u36 :: u37 :: u38 :: u39 :: u40 :: u41 :: u42 :: u43 :: u44 :: u45 :: u46 :: u47 :: u48 :: u49 :: u50 :: u51 :: u52 :: u53 :: u54 :: u55 :: u56 :: y57 :: y58 :: y59 :: y60 :: y61 :: y62 :: y63 :: y64 :: y65 :: y66 :: y67 :: y68 :: y69 :: y70 :: y71 :: y72 :: y73 :: y74 :: y75 :: y76 :: y77 :: y78 :: y79 :: y80 :: y81 :: y82 :: y83 :: []).toArray, []⟩ w') :
    Code.wp Tryd.prog wReg7 Q ⟨((Value.pointer (some ⟨b, 0, none⟩)) :: (Value.int .u8 0) :: u2 :: u3 :: (Value.pointer (some ⟨tb, 0, none⟩)) :: (Value.int .i64 (p : Nat)) :: (Value.bool X) :: u7 :: u8 :: u9 :: u10 :: u11 :: u12 :: u13 :: u14 :: u15 :: u16 :: u17 :: u18 :: u19 :: u20 :: u21 :: u22 :: u23 :: u24 :: u25 :: u26 :: u27 :: u28 :: u29 :: u30 :: u31 :: u32 :: u33 :: u34 :: u35 :: u36 :: u37 :: u38 :: u39 :: u40 :: u41 :: u42 :: u43 :: u44 :: u45 :: u46 :: u47 :: u48 :: u49 :: u50 :: u51 :: u52 :: u53 :: u54 :: u55 :: u56 :: u57 :: u58 :: u59 :: u60 :: u61 :: u62 :: u63 :: u64 :: u65 :: u66 :: u67 :: u68 :: u69 :: u70 :: u71 :: u72 :: u73 :: u74 :: u75 :: u76 :: u77 :: u78 :: u79 :: u80 :: u81 :: u82 :: u83 :: []).toArray, []⟩ W := by
  conv => arg 2; whnf
  refine wp_onlyN ?_
  have HQ := Lib.hid hQ
  clear hQ
  obtain ⟨A, c, hv⟩ := own_slice HL.rd.row
  obtain ⟨k, hk⟩ : ∃ k, ps.length = k := ⟨_, rfl⟩
  rw [hk] at hv hl
  subst hv
  have HK := Lib.hid hk
  have HH := Lib.hid HL
  obtain ⟨i0, hi0, hz0, hz1, hz2⟩ := info_parts infoPiece
  have hnews : ∀ u ∈ [Value.int .u8 51, .int .i64 (p : Nat), .int .i64 (q : Nat), .string (toB T), .bool X, .bool B], u.oneCell' = true := by intro u hu; simp at hu; rcases hu with rfl | rfl | rfl | rfl | rfl | rfl <;> rfl
  have b1 : k + 1 ≤ maxLen := by unfold maxLen; omega
  have b2 : (k + 1) * 48 ≤ 140737488355328 := by omega
  clear hk hl
  refine wp_region_G (fun w' : World => LtB w' w0.heap.size b tb line n q mk (.slice A k c) tv T) 27 (by kernel_rfl) ?_
  have hS : LtB W.drew w0.heap.size b tb line n q mk (.slice A k c) tv T := ⟨(HL.more (Up.drew W)).rd.box, (HL.more (Up.drew W)).tbox, (HL.more (Up.drew W)).trow⟩
  have HRD := Lib.hid (HL.more (Up.drew W)).rd
  clear HL
  refine anyG_take 0 (v := ?v0) rfl (by kernel_rfl) (by kernel_rfl) (by kernel_rfl) (by kernel_rfl) (fun _ _ _ h => h) hS (Or.inl ⟨by kernel_rfl, ?hy0⟩) ?rest0
  case hy0 =>
    intro w hw
    have hw : LtB w w0.heap.size b tb line n q mk (.slice A k c) tv T := hw
    have k2 : w.cell? ⟨b, 2, none⟩ = some (.int .i64 (q : Nat)) := cellOf hw.box rfl
    have k3 : w.cell? ⟨b, 3, none⟩ = some (.int .u8 (mk : Nat)) := cellOf hw.box rfl
    have k4 : w.cell? ⟨b, 4, none⟩ = some (.slice A k c) := cellOf hw.box rfl
    have k5 : w.cell? ⟨tb, 0, none⟩ = some tv := cellOf hw.tbox rfl
    have k6 := conv_nb hw.trow
    clear hw
    go_simp
    try with_reducible rfl
  try simp only [Act.put, List.getElem_toArray, List.getElem_cons_zero, List.getElem_cons_succ, List.setIfInBounds_toArray, List.set_cons_zero, List.set_cons_succ]
  refine anyG_take 1 (v := ?v1) rfl (by kernel_rfl) (by kernel_rfl) (by kernel_rfl) (by kernel_rfl) (fun _ _ _ h => h) hS (Or.inl ⟨by kernel_rfl, ?hy1⟩) ?rest1
  case hy1 =>
    intro w hw
    have hw : LtB w w0.heap.size b tb line n q mk (.slice A k c) tv T := hw
    have k2 : w.cell? ⟨b, 2, none⟩ = some (.int .i64 (q : Nat)) := cellOf hw.box rfl
    have k3 : w.cell? ⟨b, 3, none⟩ = some (.int .u8 (mk : Nat)) := cellOf hw.box rfl
    have k4 : w.cell? ⟨b, 4, none⟩ = some (.slice A k c) := cellOf hw.box rfl
    have k5 : w.cell? ⟨tb, 0, none⟩ = some tv := cellOf hw.tbox rfl
    have k6 := conv_nb hw.trow
    clear hw
    go_simp
    try with_reducible rfl
  try simp only [Act.put, List.getElem_toArray, List.getElem_cons_zero, List.getElem_cons_succ, List.setIfInBounds_toArray, List.set_cons_zero, List.set_cons_succ]
  refine anyG_take 2 (v := ?v2) rfl (by kernel_rfl) (by kernel_rfl) (by kernel_rfl) (by kernel_rfl) (fun _ _ _ h => h) hS (Or.inl ⟨by kernel_rfl, ?hy2⟩) ?rest2
  case hy2 =>
    intro w hw
    have hw : LtB w w0.heap.size b tb line n q mk (.slice A k c) tv T := hw
    have k2 : w.cell? ⟨b, 2, none⟩ = some (.int .i64 (q : Nat)) := cellOf hw.box rfl
    have k3 : w.cell? ⟨b, 3, none⟩ = some (.int .u8 (mk : Nat)) := cellOf hw.box rfl
    have k4 : w.cell? ⟨b, 4, none⟩ = some (.slice A k c) := cellOf hw.box rfl
    have k5 : w.cell? ⟨tb, 0, none⟩ = some tv := cellOf hw.tbox rfl
    have k6 := conv_nb hw.trow
    clear hw
    go_simp
    try with_reducible rfl
  try simp only [Act.put, List.getElem_toArray, List.getElem_cons_zero, List.getElem_cons_succ, List.setIfInBounds_toArray, List.set_cons_zero, List.set_cons_succ]
  refine anyG_take 3 (v := ?v3) rfl (by kernel_rfl) (by kernel_rfl) (by kernel_rfl) (by kernel_rfl) (fun _ _ _ h => h) hS (Or.inl ⟨by kernel_rfl, ?hy3⟩) ?rest3
  case hy3 =>
    intro w hw
    have hw : LtB w w0.heap.size b tb line n q mk (.slice A k c) tv T := hw
    have k2 : w.cell? ⟨b, 2, none⟩ = some (.int .i64 (q : Nat)) := cellOf hw.box rfl
    have k3 : w.cell? ⟨b, 3, none⟩ = some (.int .u8 (mk : Nat)) := cellOf hw.box rfl
    have k4 : w.cell? ⟨b, 4, none⟩ = some (.slice A k c) := cellOf hw.box rfl
    have k5 : w.cell? ⟨tb, 0, none⟩ = some tv := cellOf hw.tbox rfl
    have k6 := conv_nb hw.trow
    clear hw
    go_simp
    try with_reducible rfl
  try simp only [Act.put, List.getElem_toArray, List.getElem_cons_zero, List.getElem_cons_succ, List.setIfInBounds_toArray, List.set_cons_zero, List.set_cons_succ]
  refine anyG_take 4 (v := ?v4) rfl (by kernel_rfl) (by kernel_rfl) (by kernel_rfl) (by kernel_rfl) (fun _ _ _ h => h) hS (Or.inl ⟨by kernel_rfl, ?hy4⟩) ?rest4
  case hy4 =>
    intro w hw
    have hw : LtB w w0.heap.size b tb line n q mk (.slice A k c) tv T := hw
    have k2 : w.cell? ⟨b, 2, none⟩ = some (.int .i64 (q : Nat)) := cellOf hw.box rfl
    have k3 : w.cell? ⟨b, 3, none⟩ = some (.int .u8 (mk : Nat)) := cellOf hw.box rfl
    have k4 : w.cell? ⟨b, 4, none⟩ = some (.slice A k c) := cellOf hw.box rfl
    have k5 : w.cell? ⟨tb, 0, none⟩ = some tv := cellOf hw.tbox rfl
    have k6 := conv_nb hw.trow
    clear hw
    go_simp
    try with_reducible rfl
  try simp only [Act.put, List.getElem_toArray, List.getElem_cons_zero, List.getElem_cons_succ, List.setIfInBounds_toArray, List.set_cons_zero, List.set_cons_succ]
  refine anyG_take 5 (v := ?v5) rfl (by kernel_rfl) (by kernel_rfl) (by kernel_rfl) (by kernel_rfl) (fun _ _ _ h => h) hS (Or.inl ⟨by kernel_rfl, ?hy5⟩) ?rest5
  case hy5 =>
    intro w hw
    have hw : LtB w w0.heap.size b tb line n q mk (.slice A k c) tv T := hw
    have k2 : w.cell? ⟨b, 2, none⟩ = some (.int .i64 (q : Nat)) := cellOf hw.box rfl
    have k3 : w.cell? ⟨b, 3, none⟩ = some (.int .u8 (mk : Nat)) := cellOf hw.box rfl
    have k4 : w.cell? ⟨b, 4, none⟩ = some (.slice A k c) := cellOf hw.box rfl
    have k5 : w.cell? ⟨tb, 0, none⟩ = some tv := cellOf hw.tbox rfl
    have k6 := conv_nb hw.trow
    clear hw
    go_simp
    try with_reducible rfl
  try simp only [Act.put, List.getElem_toArray, List.getElem_cons_zero, List.getElem_cons_succ, List.setIfInBounds_toArray, List.set_cons_zero, List.set_cons_succ]
  refine anyG_take 6 (v := ?v6) rfl (by kernel_rfl) (by kernel_rfl) (by kernel_rfl) (by kernel_rfl) (fun _ _ _ h => h) hS (Or.inl ⟨by kernel_rfl, ?hy6⟩) ?rest6
  case hy6 =>
    intro w hw
    have hw : LtB w w0.heap.size b tb line n q mk (.slice A k c) tv T := hw
    have k2 : w.cell? ⟨b, 2, none⟩ = some (.int .i64 (q : Nat)) := cellOf hw.box rfl
    have k3 : w.cell? ⟨b, 3, none⟩ = some (.int .u8 (mk : Nat)) := cellOf hw.box rfl
    have k4 : w.cell? ⟨b, 4, none⟩ = some (.slice A k c) := cellOf hw.box rfl
    have k5 : w.cell? ⟨tb, 0, none⟩ = some tv := cellOf hw.tbox rfl
    have k6 := conv_nb hw.trow
    clear hw
    go_simp
    try with_reducible rfl
  try simp only [Act.put, List.getElem_toArray, List.getElem_cons_zero, List.getElem_cons_succ, List.setIfInBounds_toArray, List.set_cons_zero, List.set_cons_succ]
  refine anyG_take 7 (v := ?v7) rfl (by kernel_rfl) (by kernel_rfl) (by kernel_rfl) (by kernel_rfl) (fun _ _ _ h => h) hS (Or.inl ⟨by kernel_rfl, ?hy7⟩) ?rest7
  case hy7 =>
    intro w hw
    have hw : LtB w w0.heap.size b tb line n q mk (.slice A k c) tv T := hw
    have k2 : w.cell? ⟨b, 2, none⟩ = some (.int .i64 (q : Nat)) := cellOf hw.box rfl
    have k3 : w.cell? ⟨b, 3, none⟩ = some (.int .u8 (mk : Nat)) := cellOf hw.box rfl
    have k4 : w.cell? ⟨b, 4, none⟩ = some (.slice A k c) := cellOf hw.box rfl
    have k5 : w.cell? ⟨tb, 0, none⟩ = some tv := cellOf hw.tbox rfl
    have k6 := conv_nb hw.trow
    clear hw
    go_simp
    try with_reducible rfl
  try simp only [Act.put, List.getElem_toArray, List.getElem_cons_zero, List.getElem_cons_succ, List.setIfInBounds_toArray, List.set_cons_zero, List.set_cons_succ]
  refine anyG_take 8 (v := ?v8) rfl (by kernel_rfl) (by kernel_rfl) (by kernel_rfl) (by kernel_rfl) (fun _ _ _ h => h) hS (Or.inl ⟨by kernel_rfl, ?hy8⟩) ?rest8
  case hy8 =>
    intro w hw
    have hw : LtB w w0.heap.size b tb line n q mk (.slice A k c) tv T := hw
    have k2 : w.cell? ⟨b, 2, none⟩ = some (.int .i64 (q : Nat)) := cellOf hw.box rfl
    have k3 : w.cell? ⟨b, 3, none⟩ = some (.int .u8 (mk : Nat)) := cellOf hw.box rfl
    have k4 : w.cell? ⟨b, 4, none⟩ = some (.slice A k c) := cellOf hw.box rfl
    have k5 : w.cell? ⟨tb, 0, none⟩ = some tv := cellOf hw.tbox rfl
    have k6 := conv_nb hw.trow
    clear hw
    go_simp
    try with_reducible rfl
  try simp only [Act.put, List.getElem_toArray, List.getElem_cons_zero, List.getElem_cons_succ, List.setIfInBounds_toArray, List.set_cons_zero, List.set_cons_succ]
  refine anyG_take 9 (v := ?v9) rfl (by kernel_rfl) (by kernel_rfl) (by kernel_rfl) (by kernel_rfl) (fun _ _ _ h => h) hS (Or.inl ⟨by kernel_rfl, ?hy9⟩) ?rest9
  case hy9 =>
    intro w hw
    have hw : LtB w w0.heap.size b tb line n q mk (.slice A k c) tv T := hw
    have k2 : w.cell? ⟨b, 2, none⟩ = some (.int .i64 (q : Nat)) := cellOf hw.box rfl
    have k3 : w.cell? ⟨b, 3, none⟩ = some (.int .u8 (mk : Nat)) := cellOf hw.box rfl
    have k4 : w.cell? ⟨b, 4, none⟩ = some (.slice A k c) := cellOf hw.box rfl
    have k5 : w.cell? ⟨tb, 0, none⟩ = some tv := cellOf hw.tbox rfl
    have k6 := conv_nb hw.trow
    clear hw
    go_simp
    try with_reducible rfl
  try simp only [Act.put, List.getElem_toArray, List.getElem_cons_zero, List.getElem_cons_succ, List.setIfInBounds_toArray, List.set_cons_zero, List.set_cons_succ]
  refine anyG_take 10 (v := ?v10) rfl (by kernel_rfl) (by kernel_rfl) (by kernel_rfl) (by kernel_rfl) (fun _ _ _ h => h) hS (Or.inl ⟨by kernel_rfl, ?hy10⟩) ?rest10
  case hy10 =>
    intro w hw
    have hw : LtB w w0.heap.size b tb line n q mk (.slice A k c) tv T := hw
    have k2 : w.cell? ⟨b, 2, none⟩ = some (.int .i64 (q : Nat)) := cellOf hw.box rfl
    have k3 : w.cell? ⟨b, 3, none⟩ = some (.int .u8 (mk : Nat)) := cellOf hw.box rfl
    have k4 : w.cell? ⟨b, 4, none⟩ = some (.slice A k c) := cellOf hw.box rfl
    have k5 : w.cell? ⟨tb, 0, none⟩ = some tv := cellOf hw.tbox rfl
    have k6 := conv_nb hw.trow
    clear hw
    go_simp
    try with_reducible rfl
  try simp only [Act.put, List.getElem_toArray, List.getElem_cons_zero, List.getElem_cons_succ, List.setIfInBounds_toArray, List.set_cons_zero, List.set_cons_succ]
  refine anyG_take 11 (v := ?v11) rfl (by kernel_rfl) (by kernel_rfl) (by kernel_rfl) (by kernel_rfl) (fun _ _ _ h => h) hS (Or.inl ⟨by kernel_rfl, ?hy11⟩) ?rest11
  case hy11 =>
    intro w hw
    have hw : LtB w w0.heap.size b tb line n q mk (.slice A k c) tv T := hw
    have k2 : w.cell? ⟨b, 2, none⟩ = some (.int .i64 (q : Nat)) := cellOf hw.box rfl
    have k3 : w.cell? ⟨b, 3, none⟩ = some (.int .u8 (mk : Nat)) := cellOf hw.box rfl
    have k4 : w.cell? ⟨b, 4, none⟩ = some (.slice A k c) := cellOf hw.box rfl
    have k5 : w.cell? ⟨tb, 0, none⟩ = some tv := cellOf hw.tbox rfl
    have k6 := conv_nb hw.trow
    clear hw
    go_simp
    try with_reducible rfl
  try simp only [Act.put, List.getElem_toArray, List.getElem_cons_zero, List.getElem_cons_succ, List.setIfInBounds_toArray, List.set_cons_zero, List.set_cons_succ]
  refine anyG_take 12 (v := ?v12) rfl (by kernel_rfl) (by kernel_rfl) (by kernel_rfl) (by kernel_rfl) (fun _ _ _ h => h) hS (Or.inl ⟨by kernel_rfl, ?hy12⟩) ?rest12
  case hy12 =>
    intro w hw
    have hw : LtB w w0.heap.size b tb line n q mk (.slice A k c) tv T := hw
    have k2 : w.cell? ⟨b, 2, none⟩ = some (.int .i64 (q : Nat)) := cellOf hw.box rfl
    have k3 : w.cell? ⟨b, 3, none⟩ = some (.int .u8 (mk : Nat)) := cellOf hw.box rfl
    have k4 : w.cell? ⟨b, 4, none⟩ = some (.slice A k c) := cellOf hw.box rfl
    have k5 : w.cell? ⟨tb, 0, none⟩ = some tv := cellOf hw.tbox rfl
    have k6 := conv_nb hw.trow
    clear hw
    go_simp
    try with_reducible rfl
  try simp only [Act.put, List.getElem_toArray, List.getElem_cons_zero, List.getElem_cons_succ, List.setIfInBounds_toArray, List.set_cons_zero, List.set_cons_succ]
  refine anyG_take 13 (v := ?v13) rfl (by kernel_rfl) (by kernel_rfl) (by kernel_rfl) (by kernel_rfl) (fun _ _ _ h => h) hS (Or.inl ⟨by kernel_rfl, ?hy13⟩) ?rest13
  case hy13 =>
    intro w hw
    have hw : LtB w w0.heap.size b tb line n q mk (.slice A k c) tv T := hw
    have k2 : w.cell? ⟨b, 2, none⟩ = some (.int .i64 (q : Nat)) := cellOf hw.box rfl
    have k3 : w.cell? ⟨b, 3, none⟩ = some (.int .u8 (mk : Nat)) := cellOf hw.box rfl
    have k4 : w.cell? ⟨b, 4, none⟩ = some (.slice A k c) := cellOf hw.box rfl
    have k5 : w.cell? ⟨tb, 0, none⟩ = some tv := cellOf hw.tbox rfl
    have k6 := conv_nb hw.trow
    clear hw
    go_simp
    try with_reducible rfl
  try simp only [Act.put, List.getElem_toArray, List.getElem_cons_zero, List.getElem_cons_succ, List.setIfInBounds_toArray, List.set_cons_zero, List.set_cons_succ]
  refine anyG_take 14 (v := ?v14) rfl (by kernel_rfl) (by kernel_rfl) (by kernel_rfl) (by kernel_rfl) (fun _ _ _ h => h) hS (Or.inl ⟨by kernel_rfl, ?hy14⟩) ?rest14
  case hy14 =>
    intro w hw
    have hw : LtB w w0.heap.size b tb line n q mk (.slice A k c) tv T := hw
    have k2 : w.cell? ⟨b, 2, none⟩ = some (.int .i64 (q : Nat)) := cellOf hw.box rfl
    have k3 : w.cell? ⟨b, 3, none⟩ = some (.int .u8 (mk : Nat)) := cellOf hw.box rfl
    have k4 : w.cell? ⟨b, 4, none⟩ = some (.slice A k c) := cellOf hw.box rfl
    have k5 : w.cell? ⟨tb, 0, none⟩ = some tv := cellOf hw.tbox rfl
    have k6 := conv_nb hw.trow
    clear hw
    go_simp
    try with_reducible rfl
  try simp only [Act.put, List.getElem_toArray, List.getElem_cons_zero, List.getElem_cons_succ, List.setIfInBounds_toArray, List.set_cons_zero, List.set_cons_succ]
  refine anyG_take 15 (v := ?v15) rfl (by kernel_rfl) (by kernel_rfl) (by kernel_rfl) (by kernel_rfl) (fun _ _ _ h => h) hS (Or.inl ⟨by kernel_rfl, ?hy15⟩) ?rest15
  case hy15 =>
    intro w hw
    have hw : LtB w w0.heap.size b tb line n q mk (.slice A k c) tv T := hw
    have k2 : w.cell? ⟨b, 2, none⟩ = some (.int .i64 (q : Nat)) := cellOf hw.box rfl
    have k3 : w.cell? ⟨b, 3, none⟩ = some (.int .u8 (mk : Nat)) := cellOf hw.box rfl
    have k4 : w.cell? ⟨b, 4, none⟩ = some (.slice A k c) := cellOf hw.box rfl
    have k5 : w.cell? ⟨tb, 0, none⟩ = some tv := cellOf hw.tbox rfl
    have k6 := conv_nb hw.trow
    clear hw
    go_simp
    try with_reducible rfl
  try simp only [Act.put, List.getElem_toArray, List.getElem_cons_zero, List.getElem_cons_succ, List.setIfInBounds_toArray, List.set_cons_zero, List.set_cons_succ]
  refine anyG_take 16 (v := ?v16) rfl (by kernel_rfl) (by kernel_rfl) (by kernel_rfl) (by kernel_rfl) (fun _ _ _ h => h) hS (Or.inl ⟨by kernel_rfl, ?hy16⟩) ?rest16
  case hy16 =>
    intro w hw
    have hw : LtB w w0.heap.size b tb line n q mk (.slice A k c) tv T := hw
    have k2 : w.cell? ⟨b, 2, none⟩ = some (.int .i64 (q : Nat)) := cellOf hw.box rfl
    have k3 : w.cell? ⟨b, 3, none⟩ = some (.int .u8 (mk : Nat)) := cellOf hw.box rfl
    have k4 : w.cell? ⟨b, 4, none⟩ = some (.slice A k c) := cellOf hw.box rfl
    have k5 : w.cell? ⟨tb, 0, none⟩ = some tv := cellOf hw.tbox rfl
    have k6 := conv_nb hw.trow
    clear hw
    go_simp
    try with_reducible rfl
  try simp only [Act.put, List.getElem_toArray, List.getElem_cons_zero, List.getElem_cons_succ, List.setIfInBounds_toArray, List.set_cons_zero, List.set_cons_succ]
  refine anyG_take 17 (v := ?v17) rfl (by kernel_rfl) (by kernel_rfl) (by kernel_rfl) (by kernel_rfl) (fun _ _ _ h => h) hS (Or.inl ⟨by kernel_rfl, ?hy17⟩) ?rest17
  case hy17 =>
    intro w hw
    have hw : LtB w w0.heap.size b tb line n q mk (.slice A k c) tv T := hw
    have k2 : w.cell? ⟨b, 2, none⟩ = some (.int .i64 (q : Nat)) := cellOf hw.box rfl
    have k3 : w.cell? ⟨b, 3, none⟩ = some (.int .u8 (mk : Nat)) := cellOf hw.box rfl
    have k4 : w.cell? ⟨b, 4, none⟩ = some (.slice A k c) := cellOf hw.box rfl
    have k5 : w.cell? ⟨tb, 0, none⟩ = some tv := cellOf hw.tbox rfl
    have k6 := conv_nb hw.trow
    clear hw
    go_simp
    try with_reducible rfl
  try simp only [Act.put, List.getElem_toArray, List.getElem_cons_zero, List.getElem_cons_succ, List.setIfInBounds_toArray, List.set_cons_zero, List.set_cons_succ]
  refine anyG_take 18 (v := ?v18) rfl (by kernel_rfl) (by kernel_rfl) (by kernel_rfl) (by kernel_rfl) (fun _ _ _ h => h) hS (Or.inl ⟨by kernel_rfl, ?hy18⟩) ?rest18
  case hy18 =>
    intro w hw
    have hw : LtB w w0.heap.size b tb line n q mk (.slice A k c) tv T := hw
    have k2 : w.cell? ⟨b, 2, none⟩ = some (.int .i64 (q : Nat)) := cellOf hw.box rfl
    have k3 : w.cell? ⟨b, 3, none⟩ = some (.int .u8 (mk : Nat)) := cellOf hw.box rfl
    have k4 : w.cell? ⟨b, 4, none⟩ = some (.slice A k c) := cellOf hw.box rfl
    have k5 : w.cell? ⟨tb, 0, none⟩ = some tv := cellOf hw.tbox rfl
    have k6 := conv_nb hw.trow
    clear hw
    go_simp
    try with_reducible rfl
  try simp only [Act.put, List.getElem_toArray, List.getElem_cons_zero, List.getElem_cons_succ, List.setIfInBounds_toArray, List.set_cons_zero, List.set_cons_succ]
  refine anyG_take 19 (v := ?v19) rfl (by kernel_rfl) (by kernel_rfl) (by kernel_rfl) (by kernel_rfl) (fun _ _ _ h => h) hS (Or.inl ⟨by kernel_rfl, ?hy19⟩) ?rest19
  case hy19 =>
    intro w hw
    have hw : LtB w w0.heap.size b tb line n q mk (.slice A k c) tv T := hw
    have k2 : w.cell? ⟨b, 2, none⟩ = some (.int .i64 (q : Nat)) := cellOf hw.box rfl
    have k3 : w.cell? ⟨b, 3, none⟩ = some (.int .u8 (mk : Nat)) := cellOf hw.box rfl
    have k4 : w.cell? ⟨b, 4, none⟩ = some (.slice A k c) := cellOf hw.box rfl
    have k5 : w.cell? ⟨tb, 0, none⟩ = some tv := cellOf hw.tbox rfl
    have k6 := conv_nb hw.trow
    clear hw
    go_simp
    try with_reducible rfl
  try simp only [Act.put, List.getElem_toArray, List.getElem_cons_zero, List.getElem_cons_succ, List.setIfInBounds_toArray, List.set_cons_zero, List.set_cons_succ]
  refine anyG_take 20 (v := ?v20) rfl (by kernel_rfl) (by kernel_rfl) (by kernel_rfl) (by kernel_rfl) (fun _ _ _ h => h) hS (Or.inl ⟨by kernel_rfl, ?hy20⟩) ?rest20
  case hy20 =>
    intro w hw
    have hw : LtB w w0.heap.size b tb line n q mk (.slice A k c) tv T := hw
    have k2 : w.cell? ⟨b, 2, none⟩ = some (.int .i64 (q : Nat)) := cellOf hw.box rfl
    have k3 : w.cell? ⟨b, 3, none⟩ = some (.int .u8 (mk : Nat)) := cellOf hw.box rfl
    have k4 : w.cell? ⟨b, 4, none⟩ = some (.slice A k c) := cellOf hw.box rfl
    have k5 : w.cell? ⟨tb, 0, none⟩ = some tv := cellOf hw.tbox rfl
    have k6 := conv_nb hw.trow
    clear hw
    go_simp
    try with_reducible rfl
  try simp only [Act.put, List.getElem_toArray, List.getElem_cons_zero, List.getElem_cons_succ, List.setIfInBounds_toArray, List.set_cons_zero, List.set_cons_succ]
  refine anyG_take 21 (v := ?v21) rfl (by kernel_rfl) (by kernel_rfl) (by kernel_rfl) (by kernel_rfl) (fun _ _ _ h => h) hS (Or.inl ⟨by kernel_rfl, ?hy21⟩) ?rest21
  case hy21 =>
    intro w hw
    have hw : LtB w w0.heap.size b tb line n q mk (.slice A k c) tv T := hw
    have k2 : w.cell? ⟨b, 2, none⟩ = some (.int .i64 (q : Nat)) := cellOf hw.box rfl
    have k3 : w.cell? ⟨b, 3, none⟩ = some (.int .u8 (mk : Nat)) := cellOf hw.box rfl
    have k4 : w.cell? ⟨b, 4, none⟩ = some (.slice A k c) := cellOf hw.box rfl
    have k5 : w.cell? ⟨tb, 0, none⟩ = some tv := cellOf hw.tbox rfl
    have k6 := conv_nb hw.trow
    clear hw
    go_simp
    try with_reducible rfl
  try simp only [Act.put, List.getElem_toArray, List.getElem_cons_zero, List.getElem_cons_succ, List.setIfInBounds_toArray, List.set_cons_zero, List.set_cons_succ]
  refine anyG_take 22 (v := ?v22) rfl (by kernel_rfl) (by kernel_rfl) (by kernel_rfl) (by kernel_rfl) (fun _ _ _ h => h) hS (Or.inl ⟨by kernel_rfl, ?hy22⟩) ?rest22
  case hy22 =>
    intro w hw
    have hw : LtB w w0.heap.size b tb line n q mk (.slice A k c) tv T := hw
    have k2 : w.cell? ⟨b, 2, none⟩ = some (.int .i64 (q : Nat)) := cellOf hw.box rfl
    have k3 : w.cell? ⟨b, 3, none⟩ = some (.int .u8 (mk : Nat)) := cellOf hw.box rfl
    have k4 : w.cell? ⟨b, 4, none⟩ = some (.slice A k c) := cellOf hw.box rfl
    have k5 : w.cell? ⟨tb, 0, none⟩ = some tv := cellOf hw.tbox rfl
    have k6 := conv_nb hw.trow
    clear hw
    go_simp
    try with_reducible rfl
  try simp only [Act.put, List.getElem_toArray, List.getElem_cons_zero, List.getElem_cons_succ, List.setIfInBounds_toArray, List.set_cons_zero, List.set_cons_succ]
  refine anyG_one 23 (by kernel_rfl) rfl rfl (fun K1 hK1 => ?_)
  go_simp
  refine hK1 _ _ (fun _ => ?s23) ?_
  case s23 => exact hS.more (Up.alloc _ _)
  clear hK1 K1
  try simp only [Act.put, List.getElem_toArray, List.getElem_cons_zero, List.getElem_cons_succ, List.setIfInBounds_toArray, List.set_cons_zero, List.set_cons_succ]
  have hb0 : w0.heap.size ≤ (W.drew.alloc (.cells #[Value.int .u8 51, .int .i64 (p : Nat), .int .i64 (q : Nat), .string (toB T), .bool X, .bool B] PT)).heap.size := Nat.le_trans (Below.size HRD.out.up) (Below.size (Up.alloc _ _))
  have HOWN : W.drew.ownsRow w0.heap.size PT 6 (.slice A k c) k (pcC ps) := by have h := HRD.out.row; rwa [HK.out] at h
  refine anyG_one 24 (by kernel_rfl) rfl rfl (fun K1 hK1 => ?_)
  refine wp_append_lies _ _ _ _ rfl w0.heap.size PT i0 (.agg #[.int .u8 0, .int .i64 0, .int .i64 0, .string ⟨#[]⟩, .bool false, .bool false]) 6 48 Tryd.underlying23 hi0 hz0 hz1 hz2 rfl (by decide) (.slice A k c) k (pcC ps) rfl (HOWN.alloc _) ⟨W.drew.heap.size, 0, none⟩ 1 1 [Value.int .u8 51, .int .i64 (p : Nat), .int .i64 (q : Nat), .string (toB T), .bool X, .bool B] rfl rfl (World.news_of_block (cs := #[Value.int .u8 51, .int .i64 (p : Nat), .int .i64 (q : Nat), .string (toB T), .bool X, .bool B]) (t := PT) (fr := (0, 0)) (heap_alloc_new W.drew _)) hnews (by omega) b1 b2 hb0 _ rfl ?_
  intro g5 cap5 w5 hown5 hgrow hat5 hlt5
  have HAP := Lib.hid (HRD.out.app (x := ⟨51, p, q, T, X, B⟩) (Up.alloc W.drew (.cells #[Value.int .u8 51, .int .i64 (p : Nat), .int .i64 (q : Nat), .string (toB T), .bool X, .bool B] PT)) hgrow (by rw [HK.out]; exact hown5))
  have hB5 := HRD.out.mid (Up.alloc W.drew (.cells #[Value.int .u8 51, .int .i64 (p : Nat), .int .i64 (q : Nat), .string (toB T), .bool X, .bool B] PT)) hgrow
  have c5 : w5.cell? ⟨b, 4, none⟩ = some (.slice A k c) := cellOf hB5 rfl
  have z5 : w5.frozen? ⟨b, 4, none⟩ = false := frozenOf hB5
  have hS5 : LtB w5 w0.heap.size b tb line n q mk (.slice A k c) tv T := hS.grown HOWN (Up.alloc W.drew (.cells #[Value.int .u8 51, .int .i64 (p : Nat), .int .i64 (q : Nat), .string (toB T), .bool X, .bool B] PT)) hgrow
  clear hS HOWN hown5 hgrow hat5 hlt5
  have hS := hS5
  clear hS5
  refine hK1 _ _ (fun _ => hS) ?_
  clear hK1 K1
  try simp only [Act.put, List.getElem_toArray, List.getElem_cons_zero, List.getElem_cons_succ, List.setIfInBounds_toArray, List.set_cons_zero, List.set_cons_succ]
  refine anyG_one 25 (by kernel_rfl) rfl rfl (fun K1 hK1 => ?_)
  go_simp
  refine hK1 _ _ (fun _ => hS) ?_
  clear hK1 K1
  try simp only [Act.put, List.getElem_toArray, List.getElem_cons_zero, List.getElem_cons_succ, List.setIfInBounds_toArray, List.set_cons_zero, List.set_cons_succ]
  refine anyG_one 26 (by kernel_rfl) rfl rfl (fun K1 hK1 => ?_)
  go_simp
  refine hK1 _ _ (fun _ => hS) ?_
  clear hK1 K1
  try simp only [Act.put, List.getElem_toArray, List.getElem_cons_zero, List.getElem_cons_succ, List.setIfInBounds_toArray, List.set_cons_zero, List.set_cons_succ]
  refine anyG_one 27 (by kernel_rfl) rfl rfl (fun K1 hK1 => ?_)
  go_simp
  refine hK1 _ _ (fun h => absurd rfl h) ?_
  clear hK1 K1
  try simp only [Act.put, List.getElem_toArray, List.getElem_cons_zero, List.getElem_cons_succ, List.setIfInBounds_toArray, List.set_cons_zero, List.set_cons_succ]
  refine anyG_done (by kernel_rfl) ?_ _
  exact HQ.out _ _ _ _ _ _ _ _ _ _ _ _ _ _ _ _ _ _ _ _ _ _ _ _ _ _ _ _ _ HAP.out
set_option maxRecDepth 1000000 in
set_option maxHeartbeats 16000000 in
theorem tell_sign {mk : Nat} {v tv : Value} {T : List Nat} {X : Bool} {z : Int} (hz : (z == 0) = false) (HL : LtH w0 W b tb line n q mk v ps tv T) (hl : ps.length ≤ 1000000) (Q : Exit → Act → World → Prop) (u2 u3 u7 u8 u9 u10 u11 u12 u13 u14 u15 u16 u17 u18 u19 u20 u21 u22 u23 u24 u25 u26 u27 u28 u29 u30 u31 u32 u33 u34 u35 u36 u37 u38 u39 u40 u41 u42 u43 u44 u45 u46 u47 u48 u49 u50 u51 u52 u53 u54 u55 u56 u57 u58 u59 u60 u61 u62 u63 u64 u65 u66 u67 u68 u69 u70 u71 u72 u73 u74 u75 u76 u77 u78 u79 u80 u81 u82 u83 : Value)
    (hQ : ∀ (y57 y58 y59 y60 y61 y62 y63 y64 y65 y66 y67 y68 y69 y70 y71 y72 y73 y74 y75 y76 y77 y78 y79 y80 y81 y82 y83 : Value) (w' : World) (v' : Value), RdH w0 w' b line n q mk v' (ps ++ [⟨51, p, q, T, X, false⟩]) → Q .normal ⟨((Value.pointer (some ⟨b, 0, none⟩)) :: (Value.int .u8 z) :: u2 :: u3 :: (Value.pointer (some ⟨tb, 0, none⟩)) :: (Value.int .i64 (p : Nat)) :: (Value.bool X) :: u7 :: u8 :: u9 :: u10 :: u11 :: u12 :: u13 :: u14 :: u15 :: u16 :: u17 :: u18 :: u19 :: u20 :: u21 :: u22 :: u23 :: u24 :: u25 :: u26 :: u27 :: u28 :: u29 :: u30 :: u31 :: u32 :: u33 :: u34 :: u35 :: u36 :: u37 :: u38 :: u39 :: u40 :: u41 :: u42 :: u43 :: u44 :: u45 :: u46 :: u47 :: u48 :: u49 :: u50 :: u51 :: u52 :: u53 :: u54 :: u55 :: u56 :: y57 :: y58 :: y59 :: y60 :: y61 :: y62 :: y63 :: y64 :: y65 :: y66 :: y67 :: y68 :: y69 :: y70 :: y71 :: y72 :: y73 :: y74 :: y75 :: y76 :: y77 :: y78 :: y79 :: y80 :: y81 :: y82 :: y83 :: []).toArray, []⟩ w') :
    Code.wp Tryd.prog wReg7 Q ⟨((Value.pointer (some ⟨b, 0, none⟩)) :: (Value.int .u8 z) :: u2 :: u3 :: (Value.pointer (some ⟨tb, 0, none⟩)) :: (Value.int .i64 (p : Nat)) :: (Value.bool X) :: u7 :: u8 :: u9 :: u10 :: u11 :: u12 :: u13 :: u14 :: u15 :: u16 :: u17 :: u18 :: u19 :: u20 :: u21 :: u22 :: u23 :: u24 :: u25 :: u26 :: u27 :: u28 :: u29 :: u30 :: u31 :: u32 :: u33 :: u34 :: u35 :: u36 :: u37 :: u38 :: u39 :: u40 :: u41 :: u42 :: u43 :: u44 :: u45 :: u46 :: u47 :: u48 :: u49 :: u50 :: u51 :: u52 :: u53 :: u54 :: u55 :: u56 :: u57 :: u58 :: u59 :: u60 :: u61 :: u62 :: u63 :: u64 :: u65 :: u66 :: u67 :: u68 :: u69 :: u70 :: u71 :: u72 :: u73 :: u74 :: u75 :: u76 :: u77 :: u78 :: u79 :: u80 :: u81 :: u82 :: u83 :: []).toArray, []⟩ W := by
  conv => arg 2; whnf
  refine wp_onlyN ?_
  have HQ := Lib.hid hQ
  clear hQ
  obtain ⟨A, c, hv⟩ := own_slice HL.rd.row
  obtain ⟨k, hk⟩ : ∃ k, ps.length = k := ⟨_, rfl⟩
  rw [hk] at hv hl
  subst hv
  have HK := Lib.hid hk
  have HH := Lib.hid HL
  obtain ⟨i0, hi0, hz0, hz1, hz2⟩ := info_parts infoPiece
  have hnews : ∀ u ∈ [Value.int .u8 51, .int .i64 (p : Nat), .int .i64 (q : Nat), .string (toB T), .bool X, .bool false], u.oneCell' = true := by intro u hu; simp at hu; rcases hu with rfl | rfl | rfl | rfl | rfl | rfl <;> rfl
  have b1 : k + 1 ≤ maxLen := by unfold maxLen; omega
  have b2 : (k + 1) * 48 ≤ 140737488355328 := by omega
  clear hk hl
  refine wp_region_G (fun w' : World => LtB w' w0.heap.size b tb line n q mk (.slice A k c) tv T) 27 (by kernel_rfl) ?_
  have hS : LtB W.drew w0.heap.size b tb line n q mk (.slice A k c) tv T := ⟨(HL.more (Up.drew W)).rd.box, (HL.more (Up.drew W)).tbox, (HL.more (Up.drew W)).trow⟩
  have HRD := Lib.hid (HL.more (Up.drew W)).rd
  clear HL
  refine anyG_take 0 (v := ?v0) rfl (by kernel_rfl) (by kernel_rfl) (by kernel_rfl) (by kernel_rfl) (fun _ _ _ h => h) hS (Or.inl ⟨by kernel_rfl, ?hy0⟩) ?rest0
  case hy0 =>
    intro w hw
    have hw : LtB w w0.heap.size b tb line n q mk (.slice A k c) tv T := hw
    have k2 : w.cell? ⟨b, 2, none⟩ = some (.int .i64 (q : Nat)) := cellOf hw.box rfl
    have k3 : w.cell? ⟨b, 3, none⟩ = some (.int .u8 (mk : Nat)) := cellOf hw.box rfl
    have k4 : w.cell? ⟨b, 4, none⟩ = some (.slice A k c) := cellOf hw.box rfl
    have k5 : w.cell? ⟨tb, 0, none⟩ = some tv := cellOf hw.tbox rfl
    have k6 := conv_nb hw.trow
    clear hw
    go_simp
    try with_reducible rfl
  try simp only [Act.put, List.getElem_toArray, List.getElem_cons_zero, List.getElem_cons_succ, List.setIfInBounds_toArray, List.set_cons_zero, List.set_cons_succ]
  refine anyG_take 1 (v := ?v1) rfl (by kernel_rfl) (by kernel_rfl) (by kernel_rfl) (by kernel_rfl) (fun _ _ _ h => h) hS (Or.inl ⟨by kernel_rfl, ?hy1⟩) ?rest1
  case hy1 =>
    intro w hw
    have hw : LtB w w0.heap.size b tb line n q mk (.slice A k c) tv T := hw
    have k2 : w.cell? ⟨b, 2, none⟩ = some (.int .i64 (q : Nat)) := cellOf hw.box rfl
    have k3 : w.cell? ⟨b, 3, none⟩ = some (.int .u8 (mk : Nat)) := cellOf hw.box rfl
    have k4 : w.cell? ⟨b, 4, none⟩ = some (.slice A k c) := cellOf hw.box rfl
    have k5 : w.cell? ⟨tb, 0, none⟩ = some tv := cellOf hw.tbox rfl
    have k6 := conv_nb hw.trow
    clear hw
    go_simp
    try with_reducible rfl
  try simp only [Act.put, List.getElem_toArray, List.getElem_cons_zero, List.getElem_cons_succ, List.setIfInBounds_toArray, List.set_cons_zero, List.set_cons_succ]
  refine anyG_take 2 (v := ?v2) rfl (by kernel_rfl) (by kernel_rfl) (by kernel_rfl) (by kernel_rfl) (fun _ _ _ h => h) hS (Or.inl ⟨by kernel_rfl, ?hy2⟩) ?rest2
  case hy2 =>
    intro w hw
    have hw : LtB w w0.heap.size b tb line n q mk (.slice A k c) tv T := hw
    have k2 : w.cell? ⟨b, 2, none⟩ = some (.int .i64 (q : Nat)) := cellOf hw.box rfl
    have k3 : w.cell? ⟨b, 3, none⟩ = some (.int .u8 (mk : Nat)) := cellOf hw.box rfl
    have k4 : w.cell? ⟨b, 4, none⟩ = some (.slice A k c) := cellOf hw.box rfl
    have k5 : w.cell? ⟨tb, 0, none⟩ = some tv := cellOf hw.tbox rfl
    have k6 := conv_nb hw.trow
    clear hw
    go_simp
    try with_reducible rfl
  try simp only [Act.put, List.getElem_toArray, List.getElem_cons_zero, List.getElem_cons_succ, List.setIfInBounds_toArray, List.set_cons_zero, List.set_cons_succ]
  refine anyG_take 3 (v := ?v3) rfl (by kernel_rfl) (by kernel_rfl) (by kernel_rfl) (by kernel_rfl) (fun _ _ _ h => h) hS (Or.inl ⟨by kernel_rfl, ?hy3⟩) ?rest3
  case hy3 =>
    intro w hw
    have hw : LtB w w0.heap.size b tb line n q mk (.slice A k c) tv T := hw
    have k2 : w.cell? ⟨b, 2, none⟩ = some (.int .i64 (q : Nat)) := cellOf hw.box rfl
    have k3 : w.cell? ⟨b, 3, none⟩ = some (.int .u8 (mk : Nat)) := cellOf hw.box rfl
    have k4 : w.cell? ⟨b, 4, none⟩ = some (.slice A k c) := cellOf hw.box rfl
    have k5 : w.cell? ⟨tb, 0, none⟩ = some tv := cellOf hw.tbox rfl
    have k6 := conv_nb hw.trow
    clear hw
    go_simp
    try with_reducible rfl
  try simp only [Act.put, List.getElem_toArray, List.getElem_cons_zero, List.getElem_cons_succ, List.setIfInBounds_toArray, List.set_cons_zero, List.set_cons_succ]
  refine anyG_take 4 (v := ?v4) rfl (by kernel_rfl) (by kernel_rfl) (by kernel_rfl) (by kernel_rfl) (fun _ _ _ h => h) hS (Or.inl ⟨by kernel_rfl, ?hy4⟩) ?rest4
  case hy4 =>
    intro w hw
    have hw : LtB w w0.heap.size b tb line n q mk (.slice A k c) tv T := hw
    have k2 : w.cell? ⟨b, 2, none⟩ = some (.int .i64 (q : Nat)) := cellOf hw.box rfl
    have k3 : w.cell? ⟨b, 3, none⟩ = some (.int .u8 (mk : Nat)) := cellOf hw.box rfl
    have k4 : w.cell? ⟨b, 4, none⟩ = some (.slice A k c) := cellOf hw.box rfl
    have k5 : w.cell? ⟨tb, 0, none⟩ = some tv := cellOf hw.tbox rfl
    have k6 := conv_nb hw.trow
    clear hw
    go_simp
    try with_reducible rfl
  try simp only [Act.put, List.getElem_toArray, List.getElem_cons_zero, List.getElem_cons_succ, List.setIfInBounds_toArray, List.set_cons_zero, List.set_cons_succ]
  refine anyG_take 5 (v := ?v5) rfl (by kernel_rfl) (by kernel_rfl) (by kernel_rfl) (by kernel_rfl) (fun _ _ _ h => h) hS (Or.inl ⟨by kernel_rfl, ?hy5⟩) ?rest5
  case hy5 =>
    intro w hw
    have hw : LtB w w0.heap.size b tb line n q mk (.slice A k c) tv T := hw
    have k2 : w.cell? ⟨b, 2, none⟩ = some (.int .i64 (q : Nat)) := cellOf hw.box rfl
    have k3 : w.cell? ⟨b, 3, none⟩ = some (.int .u8 (mk : Nat)) := cellOf hw.box rfl
    have k4 : w.cell? ⟨b, 4, none⟩ = some (.slice A k c) := cellOf hw.box rfl
    have k5 : w.cell? ⟨tb, 0, none⟩ = some tv := cellOf hw.tbox rfl
    have k6 := conv_nb hw.trow
    clear hw
    go_simp
    try with_reducible rfl
  try simp only [Act.put, List.getElem_toArray, List.getElem_cons_zero, List.getElem_cons_succ, List.setIfInBounds_toArray, List.set_cons_zero, List.set_cons_succ]
  refine anyG_take 6 (v := ?v6) rfl (by kernel_rfl) (by kernel_rfl) (by kernel_rfl) (by kernel_rfl) (fun _ _ _ h => h) hS (Or.inl ⟨by kernel_rfl, ?hy6⟩) ?rest6
  case hy6 =>
    intro w hw
    have hw : LtB w w0.heap.size b tb line n q mk (.slice A k c) tv T := hw
    have k2 : w.cell? ⟨b, 2, none⟩ = some (.int .i64 (q : Nat)) := cellOf hw.box rfl
    have k3 : w.cell? ⟨b, 3, none⟩ = some (.int .u8 (mk : Nat)) := cellOf hw.box rfl
    have k4 : w.cell? ⟨b, 4, none⟩ = some (.slice A k c) := cellOf hw.box rfl
    have k5 : w.cell? ⟨tb, 0, none⟩ = some tv := cellOf hw.tbox rfl
    have k6 := conv_nb hw.trow
    clear hw
    go_simp
    try with_reducible rfl
  try simp only [Act.put, List.getElem_toArray, List.getElem_cons_zero, List.getElem_cons_succ, List.setIfInBounds_toArray, List.set_cons_zero, List.set_cons_succ]
  refine anyG_take 7 (v := ?v7) rfl (by kernel_rfl) (by kernel_rfl) (by kernel_rfl) (by kernel_rfl) (fun _ _ _ h => h) hS (Or.inl ⟨by kernel_rfl, ?hy7⟩) ?rest7
  case hy7 =>
    intro w hw
    have hw : LtB w w0.heap.size b tb line n q mk (.slice A k c) tv T := hw
    have k2 : w.cell? ⟨b, 2, none⟩ = some (.int .i64 (q : Nat)) := cellOf hw.box rfl
    have k3 : w.cell? ⟨b, 3, none⟩ = some (.int .u8 (mk : Nat)) := cellOf hw.box rfl
    have k4 : w.cell? ⟨b, 4, none⟩ = some (.slice A k c) := cellOf hw.box rfl
    have k5 : w.cell? ⟨tb, 0, none⟩ = some tv := cellOf hw.tbox rfl
    have k6 := conv_nb hw.trow
    clear hw
    go_simp
    try with_reducible rfl
  try simp only [Act.put, List.getElem_toArray, List.getElem_cons_zero, List.getElem_cons_succ, List.setIfInBounds_toArray, List.set_cons_zero, List.set_cons_succ]
  refine anyG_take 8 (v := ?v8) rfl (by kernel_rfl) (by kernel_rfl) (by kernel_rfl) (by kernel_rfl) (fun _ _ _ h => h) hS (Or.inl ⟨by kernel_rfl, ?hy8⟩) ?rest8
  case hy8 =>
    intro w hw
    have hw : LtB w w0.heap.size b tb line n q mk (.slice A k c) tv T := hw
    have k2 : w.cell? ⟨b, 2, none⟩ = some (.int .i64 (q : Nat)) := cellOf hw.box rfl
    have k3 : w.cell? ⟨b, 3, none⟩ = some (.int .u8 (mk : Nat)) := cellOf hw.box rfl
    have k4 : w.cell? ⟨b, 4, none⟩ = some (.slice A k c) := cellOf hw.box rfl
    have k5 : w.cell? ⟨tb, 0, none⟩ = some tv := cellOf hw.tbox rfl
    have k6 := conv_nb hw.trow
    clear hw
    go_simp
    try with_reducible rfl
  try simp only [Act.put, List.getElem_toArray, List.getElem_cons_zero, List.getElem_cons_succ, List.setIfInBounds_toArray, List.set_cons_zero, List.set_cons_succ]
  refine anyG_take 9 (v := ?v9) rfl (by kernel_rfl) (by kernel_rfl) (by kernel_rfl) (by kernel_rfl) (fun _ _ _ h => h) hS (Or.inl ⟨by kernel_rfl, ?hy9⟩) ?rest9
  case hy9 =>
    intro w hw
    have hw : LtB w w0.heap.size b tb line n q mk (.slice A k c) tv T := hw
    have k2 : w.cell? ⟨b, 2, none⟩ = some (.int .i64 (q : Nat)) := cellOf hw.box rfl
    have k3 : w.cell? ⟨b, 3, none⟩ = some (.int .u8 (mk : Nat)) := cellOf hw.box rfl
    have k4 : w.cell? ⟨b, 4, none⟩ = some (.slice A k c) := cellOf hw.box rfl
    have k5 : w.cell? ⟨tb, 0, none⟩ = some tv := cellOf hw.tbox rfl
    have k6 := conv_nb hw.trow
    clear hw
    go_simp
    try with_reducible rfl
  try simp only [Act.put, List.getElem_toArray, List.getElem_cons_zero, List.getElem_cons_succ, List.setIfInBounds_toArray, List.set_cons_zero, List.set_cons_succ]
  refine anyG_take 10 (v := ?v10) rfl (by kernel_rfl) (by kernel_rfl) (by kernel_rfl) (by kernel_rfl) (fun _ _ _ h => h) hS (Or.inl ⟨by kernel_rfl, ?hy10⟩) ?rest10
  case hy10 =>
    intro w hw
    have hw : LtB w w0.heap.size b tb line n q mk (.slice A k c) tv T := hw
    have k2 : w.cell? ⟨b, 2, none⟩ = some (.int .i64 (q : Nat)) := cellOf hw.box rfl
    have k3 : w.cell? ⟨b, 3, none⟩ = some (.int .u8 (mk : Nat)) := cellOf hw.box rfl
    have k4 : w.cell? ⟨b, 4, none⟩ = some (.slice A k c) := cellOf hw.box rfl
    have k5 : w.cell? ⟨tb, 0, none⟩ = some tv := cellOf hw.tbox rfl
    have k6 := conv_nb hw.trow
    clear hw
    go_simp
    try with_reducible rfl
  try simp only [Act.put, List.getElem_toArray, List.getElem_cons_zero, List.getElem_cons_succ, List.setIfInBounds_toArray, List.set_cons_zero, List.set_cons_succ]
  refine anyG_take 11 (v := ?v11) rfl (by kernel_rfl) (by kernel_rfl) (by kernel_rfl) (by kernel_rfl) (fun _ _ _ h => h) hS (Or.inl ⟨by kernel_rfl, ?hy11⟩) ?rest11
  case hy11 =>
    intro w hw
    have hw : LtB w w0.heap.size b tb line n q mk (.slice A k c) tv T := hw
    have k2 : w.cell? ⟨b, 2, none⟩ = some (.int .i64 (q : Nat)) := cellOf hw.box rfl
    have k3 : w.cell? ⟨b, 3, none⟩ = some (.int .u8 (mk : Nat)) := cellOf hw.box rfl
    have k4 : w.cell? ⟨b, 4, none⟩ = some (.slice A k c) := cellOf hw.box rfl
    have k5 : w.cell? ⟨tb, 0, none⟩ = some tv := cellOf hw.tbox rfl
    have k6 := conv_nb hw.trow
    clear hw
    go_simp
    try with_reducible rfl
  try simp only [Act.put, List.getElem_toArray, List.getElem_cons_zero, List.getElem_cons_succ, List.setIfInBounds_toArray, List.set_cons_zero, List.set_cons_succ]
  refine anyG_take 12 (v := ?v12) rfl (by kernel_rfl) (by kernel_rfl) (by kernel_rfl) (by kernel_rfl) (fun _ _ _ h => h) hS (Or.inl ⟨by kernel_rfl, ?hy12⟩) ?rest12
  case hy12 =>
    intro w hw
    have hw : LtB w w0.heap.size b tb line n q mk (.slice A k c) tv T := hw
    have k2 : w.cell? ⟨b, 2, none⟩ = some (.int .i64 (q : Nat)) := cellOf hw.box rfl
    have k3 : w.cell? ⟨b, 3, none⟩ = some (.int .u8 (mk : Nat)) := cellOf hw.box rfl
    have k4 : w.cell? ⟨b, 4, none⟩ = some (.slice A k c) := cellOf hw.box rfl
    have k5 : w.cell? ⟨tb, 0, none⟩ = some tv := cellOf hw.tbox rfl
    have k6 := conv_nb hw.trow
    clear hw
    go_simp
    try with_reducible rfl
  try simp only [Act.put, List.getElem_toArray, List.getElem_cons_zero, List.getElem_cons_succ, List.setIfInBounds_toArray, List.set_cons_zero, List.set_cons_succ]
  refine anyG_take 13 (v := ?v13) rfl (by kernel_rfl) (by kernel_rfl) (by kernel_rfl) (by kernel_rfl) (fun _ _ _ h => h) hS (Or.inl ⟨by kernel_rfl, ?hy13⟩) ?rest13
  case hy13 =>
    intro w hw
    have hw : LtB w w0.heap.size b tb line n q mk (.slice A k c) tv T := hw
    have k2 : w.cell? ⟨b, 2, none⟩ = some (.int .i64 (q : Nat)) := cellOf hw.box rfl
    have k3 : w.cell? ⟨b, 3, none⟩ = some (.int .u8 (mk : Nat)) := cellOf hw.box rfl
    have k4 : w.cell? ⟨b, 4, none⟩ = some (.slice A k c) := cellOf hw.box rfl
    have k5 : w.cell? ⟨tb, 0, none⟩ = some tv := cellOf hw.tbox rfl
    have k6 := conv_nb hw.trow
    clear hw
    go_simp
    try with_reducible rfl
  try simp only [Act.put, List.getElem_toArray, List.getElem_cons_zero, List.getElem_cons_succ, List.setIfInBounds_toArray, List.set_cons_zero, List.set_cons_succ]
  refine anyG_take 14 (v := ?v14) rfl (by kernel_rfl) (by kernel_rfl) (by kernel_rfl) (by kernel_rfl) (fun _ _ _ h => h) hS (Or.inl ⟨by kernel_rfl, ?hy14⟩) ?rest14
  case hy14 =>
    intro w hw
    have hw : LtB w w0.heap.size b tb line n q mk (.slice A k c) tv T := hw
    have k2 : w.cell? ⟨b, 2, none⟩ = some (.int .i64 (q : Nat)) := cellOf hw.box rfl
    have k3 : w.cell? ⟨b, 3, none⟩ = some (.int .u8 (mk : Nat)) := cellOf hw.box rfl
    have k4 : w.cell? ⟨b, 4, none⟩ = some (.slice A k c) := cellOf hw.box rfl
    have k5 : w.cell? ⟨tb, 0, none⟩ = some tv := cellOf hw.tbox rfl
    have k6 := conv_nb hw.trow
    clear hw
    go_simp
    try with_reducible rfl
  try simp only [Act.put, List.getElem_toArray, List.getElem_cons_zero, List.getElem_cons_succ, List.setIfInBounds_toArray, List.set_cons_zero, List.set_cons_succ]
  refine anyG_take 15 (v := ?v15) rfl (by kernel_rfl) (by kernel_rfl) (by kernel_rfl) (by kernel_rfl) (fun _ _ _ h => h) hS (Or.inl ⟨by kernel_rfl, ?hy15⟩) ?rest15
  case hy15 =>
    intro w hw
    have hw : LtB w w0.heap.size b tb line n q mk (.slice A k c) tv T := hw
    have k2 : w.cell? ⟨b, 2, none⟩ = some (.int .i64 (q : Nat)) := cellOf hw.box rfl
    have k3 : w.cell? ⟨b, 3, none⟩ = some (.int .u8 (mk : Nat)) := cellOf hw.box rfl
    have k4 : w.cell? ⟨b, 4, none⟩ = some (.slice A k c) := cellOf hw.box rfl
    have k5 : w.cell? ⟨tb, 0, none⟩ = some tv := cellOf hw.tbox rfl
    have k6 := conv_nb hw.trow
    clear hw
    go_simp
    try with_reducible rfl
  try simp only [Act.put, List.getElem_toArray, List.getElem_cons_zero, List.getElem_cons_succ, List.setIfInBounds_toArray, List.set_cons_zero, List.set_cons_succ]
  refine anyG_take 16 rfl (by kernel_rfl) (by kernel_rfl) (by kernel_rfl) (by kernel_rfl) (fun _ _ _ h => h) hS (Or.inr ⟨by kernel_rfl, rfl⟩) ?_
  try simp only [Act.put, List.getElem_toArray, List.getElem_cons_zero, List.getElem_cons_succ, List.setIfInBounds_toArray, List.set_cons_zero, List.set_cons_succ]
  refine anyG_take 17 rfl (by kernel_rfl) (by kernel_rfl) (by kernel_rfl) (by kernel_rfl) (fun _ _ _ h => h) hS (Or.inr ⟨by kernel_rfl, rfl⟩) ?_
  try simp only [Act.put, List.getElem_toArray, List.getElem_cons_zero, List.getElem_cons_succ, List.setIfInBounds_toArray, List.set_cons_zero, List.set_cons_succ]
  refine anyG_take 18 rfl (by kernel_rfl) (by kernel_rfl) (by kernel_rfl) (by kernel_rfl) (fun _ _ _ h => h) hS (Or.inr ⟨by kernel_rfl, rfl⟩) ?_
  try simp only [Act.put, List.getElem_toArray, List.getElem_cons_zero, List.getElem_cons_succ, List.setIfInBounds_toArray, List.set_cons_zero, List.set_cons_succ]
  refine anyG_take 19 rfl (by kernel_rfl) (by kernel_rfl) (by kernel_rfl) (by kernel_rfl) (fun _ _ _ h => h) hS (Or.inr ⟨by kernel_rfl, rfl⟩) ?_
  try simp only [Act.put, List.getElem_toArray, List.getElem_cons_zero, List.getElem_cons_succ, List.setIfInBounds_toArray, List.set_cons_zero, List.set_cons_succ]
  refine anyG_take 20 rfl (by kernel_rfl) (by kernel_rfl) (by kernel_rfl) (by kernel_rfl) (fun _ _ _ h => h) hS (Or.inr ⟨by kernel_rfl, rfl⟩) ?_
  try simp only [Act.put, List.getElem_toArray, List.getElem_cons_zero, List.getElem_cons_succ, List.setIfInBounds_toArray, List.set_cons_zero, List.set_cons_succ]
  refine anyG_take 21 (v := ?v21) rfl (by kernel_rfl) (by kernel_rfl) (by kernel_rfl) (by kernel_rfl) (fun _ _ _ h => h) hS (Or.inl ⟨by kernel_rfl, ?hy21⟩) ?rest21
  case hy21 =>
    intro w hw
    have hw : LtB w w0.heap.size b tb line n q mk (.slice A k c) tv T := hw
    have k2 : w.cell? ⟨b, 2, none⟩ = some (.int .i64 (q : Nat)) := cellOf hw.box rfl
    have k3 : w.cell? ⟨b, 3, none⟩ = some (.int .u8 (mk : Nat)) := cellOf hw.box rfl
    have k4 : w.cell? ⟨b, 4, none⟩ = some (.slice A k c) := cellOf hw.box rfl
    have k5 : w.cell? ⟨tb, 0, none⟩ = some tv := cellOf hw.tbox rfl
    have k6 := conv_nb hw.trow
    clear hw
    go_simp
    try with_reducible rfl
  try simp only [Act.put, List.getElem_toArray, List.getElem_cons_zero, List.getElem_cons_succ, List.setIfInBounds_toArray, List.set_cons_zero, List.set_cons_succ]
  refine anyG_take 22 (v := ?v22) rfl (by kernel_rfl) (by kernel_rfl) (by kernel_rfl) (by kernel_rfl) (fun _ _ _ h => h) hS (Or.inl ⟨by kernel_rfl, ?hy22⟩) ?rest22
  case hy22 =>
    intro w hw
    have hw : LtB w w0.heap.size b tb line n q mk (.slice A k c) tv T := hw
    have k2 : w.cell? ⟨b, 2, none⟩ = some (.int .i64 (q : Nat)) := cellOf hw.box rfl
    have k3 : w.cell? ⟨b, 3, none⟩ = some (.int .u8 (mk : Nat)) := cellOf hw.box rfl
    have k4 : w.cell? ⟨b, 4, none⟩ = some (.slice A k c) := cellOf hw.box rfl
    have k5 : w.cell? ⟨tb, 0, none⟩ = some tv := cellOf hw.tbox rfl
    have k6 := conv_nb hw.trow
    clear hw
    go_simp
    try with_reducible rfl
  try simp only [Act.put, List.getElem_toArray, List.getElem_cons_zero, List.getElem_cons_succ, List.setIfInBounds_toArray, List.set_cons_zero, List.set_cons_succ]
  refine anyG_one 23 (by kernel_rfl) rfl rfl (fun K1 hK1 => ?_)
  go_simp
  refine hK1 _ _ (fun _ => ?s23) ?_
  case s23 => exact hS.more (Up.alloc _ _)
  clear hK1 K1
  try simp only [Act.put, List.getElem_toArray, List.getElem_cons_zero, List.getElem_cons_succ, List.setIfInBounds_toArray, List.set_cons_zero, List.set_cons_succ]
  have hb0 : w0.heap.size ≤ (W.drew.alloc (.cells #[Value.int .u8 51, .int .i64 (p : Nat), .int .i64 (q : Nat), .string (toB T), .bool X, .bool false] PT)).heap.size := Nat.le_trans (Below.size HRD.out.up) (Below.size (Up.alloc _ _))
  have HOWN : W.drew.ownsRow w0.heap.size PT 6 (.slice A k c) k (pcC ps) := by have h := HRD.out.row; rwa [HK.out] at h
  refine anyG_one 24 (by kernel_rfl) rfl rfl (fun K1 hK1 => ?_)
  refine wp_append_lies _ _ _ _ rfl w0.heap.size PT i0 (.agg #[.int .u8 0, .int .i64 0, .int .i64 0, .string ⟨#[]⟩, .bool false, .bool false]) 6 48 Tryd.underlying23 hi0 hz0 hz1 hz2 rfl (by decide) (.slice A k c) k (pcC ps) rfl (HOWN.alloc _) ⟨W.drew.heap.size, 0, none⟩ 1 1 [Value.int .u8 51, .int .i64 (p : Nat), .int .i64 (q : Nat), .string (toB T), .bool X, .bool false] rfl rfl (World.news_of_block (cs := #[Value.int .u8 51, .int .i64 (p : Nat), .int .i64 (q : Nat), .string (toB T), .bool X, .bool false]) (t := PT) (fr := (0, 0)) (heap_alloc_new W.drew _)) hnews (by omega) b1 b2 hb0 _ rfl ?_
  intro g5 cap5 w5 hown5 hgrow hat5 hlt5
  have HAP := Lib.hid (HRD.out.app (x := ⟨51, p, q, T, X, false⟩) (Up.alloc W.drew (.cells #[Value.int .u8 51, .int .i64 (p : Nat), .int .i64 (q : Nat), .string (toB T), .bool X, .bool false] PT)) hgrow (by rw [HK.out]; exact hown5))
  have hB5 := HRD.out.mid (Up.alloc W.drew (.cells #[Value.int .u8 51, .int .i64 (p : Nat), .int .i64 (q : Nat), .string (toB T), .bool X, .bool false] PT)) hgrow
  have c5 : w5.cell? ⟨b, 4, none⟩ = some (.slice A k c) := cellOf hB5 rfl
  have z5 : w5.frozen? ⟨b, 4, none⟩ = false := frozenOf hB5
  have hS5 : LtB w5 w0.heap.size b tb line n q mk (.slice A k c) tv T := hS.grown HOWN (Up.alloc W.drew (.cells #[Value.int .u8 51, .int .i64 (p : Nat), .int .i64 (q : Nat), .string (toB T), .bool X, .bool false] PT)) hgrow
  clear hS HOWN hown5 hgrow hat5 hlt5
  have hS := hS5
  clear hS5
  refine hK1 _ _ (fun _ => hS) ?_
  clear hK1 K1
  try simp only [Act.put, List.getElem_toArray, List.getElem_cons_zero, List.getElem_cons_succ, List.setIfInBounds_toArray, List.set_cons_zero, List.set_cons_succ]
  refine anyG_one 25 (by kernel_rfl) rfl rfl (fun K1 hK1 => ?_)
  go_simp
  refine hK1 _ _ (fun _ => hS) ?_
  clear hK1 K1
  try simp only [Act.put, List.getElem_toArray, List.getElem_cons_zero, List.getElem_cons_succ, List.setIfInBounds_toArray, List.set_cons_zero, List.set_cons_succ]
  refine anyG_one 26 (by kernel_rfl) rfl rfl (fun K1 hK1 => ?_)
  go_simp
  refine hK1 _ _ (fun _ => hS) ?_
  clear hK1 K1
  try simp only [Act.put, List.getElem_toArray, List.getElem_cons_zero, List.getElem_cons_succ, List.setIfInBounds_toArray, List.set_cons_zero, List.set_cons_succ]
  refine anyG_one 27 (by kernel_rfl) rfl rfl (fun K1 hK1 => ?_)
  go_simp
  refine hK1 _ _ (fun h => absurd rfl h) ?_
  clear hK1 K1
  try simp only [Act.put, List.getElem_toArray, List.getElem_cons_zero, List.getElem_cons_succ, List.setIfInBounds_toArray, List.set_cons_zero, List.set_cons_succ]
  refine anyG_done (by kernel_rfl) ?_ _
  exact HQ.out _ _ _ _ _ _ _ _ _ _ _ _ _ _ _ _ _ _ _ _ _ _ _ _ _ _ _ _ _ HAP.out
set_option maxRecDepth 1000000 in
set_option maxHeartbeats 16000000 in
theorem word_adds {mk : Nat} {v tv : Value} {T : List Nat} (HL : LtH w0 W b tb line n q mk v ps tv T) (hT : T.length ≤ 1000000) (hs : (line.size : Int) ≤ 1000000) (hn : n ≤ line.size) (Q : Exit → Act → World → Prop) (u1 u2 u3 u5 u6 u7 u8 u9 u10 u11 u12 u13 u14 u15 u16 u17 u18 u19 u20 u21 u22 u23 u24 u25 u26 u27 u28 u29 u30 u31 u32 u33 u34 u35 u36 u37 u38 u39 u40 u41 u42 u43 u44 u45 u46 u47 u48 u49 u50 u51 u52 u53 u54 u55 u56 u57 u58 u59 u60 u61 u62 u63 u64 u65 u66 u67 u68 u69 u70 u71 u72 u73 u74 u75 u76 u77 u78 u79 u80 u81 u82 u83 : Value)
    (hQ : ∀ (y23 y24 y25 y26 y27 y28 y29 y30 y31 y32 y33 : Value) (w' : World) (tv' : Value), LtH w0 w' b tb line n q mk v ps tv' (T ++ (bl line).drop n) → Q .normal ⟨((Value.pointer (some ⟨b, 0, none⟩)) :: u1 :: u2 :: u3 :: (Value.pointer (some ⟨tb, 0, none⟩)) :: u5 :: u6 :: u7 :: u8 :: u9 :: u10 :: u11 :: u12 :: u13 :: u14 :: u15 :: u16 :: u17 :: u18 :: u19 :: u20 :: u21 :: u22 :: y23 :: y24 :: y25 :: y26 :: y27 :: y28 :: y29 :: y30 :: y31 :: y32 :: y33 :: u34 :: u35 :: u36 :: u37 :: u38 :: u39 :: u40 :: u41 :: u42 :: u43 :: u44 :: u45 :: u46 :: u47 :: u48 :: u49 :: u50 :: u51 :: u52 :: u53 :: u54 :: u55 :: u56 :: u57 :: u58 :: u59 :: u60 :: u61 :: u62 :: u63 :: u64 :: u65 :: u66 :: u67 :: u68 :: u69 :: u70 :: u71 :: u72 :: u73 :: u74 :: u75 :: u76 :: u77 :: u78 :: u79 :: u80 :: u81 :: u82 :: u83 :: []).toArray, []⟩ w') :
    Code.wp Tryd.prog wReg4 Q ⟨((Value.pointer (some ⟨b, 0, none⟩)) :: u1 :: u2 :: u3 :: (Value.pointer (some ⟨tb, 0, none⟩)) :: u5 :: u6 :: u7 :: u8 :: u9 :: u10 :: u11 :: u12 :: u13 :: u14 :: u15 :: u16 :: u17 :: u18 :: u19 :: u20 :: u21 :: u22 :: u23 :: u24 :: u25 :: u26 :: u27 :: u28 :: u29 :: u30 :: u31 :: u32 :: u33 :: u34 :: u35 :: u36 :: u37 :: u38 :: u39 :: u40 :: u41 :: u42 :: u43 :: u44 :: u45 :: u46 :: u47 :: u48 :: u49 :: u50 :: u51 :: u52 :: u53 :: u54 :: u55 :: u56 :: u57 :: u58 :: u59 :: u60 :: u61 :: u62 :: u63 :: u64 :: u65 :: u66 :: u67 :: u68 :: u69 :: u70 :: u71 :: u72 :: u73 :: u74 :: u75 :: u76 :: u77 :: u78 :: u79 :: u80 :: u81 :: u82 :: u83 :: []).toArray, []⟩ W := by
  conv => arg 2; whnf
  refine wp_onlyN ?_
  have HQ := Lib.hid hQ
  clear hQ
  have HH := Lib.hid HL
  obtain ⟨i0, hi0, hz0, hz1, hz2⟩ := info_parts infoByte
  have n0 : (0 : Int) ≤ (n : Int) := by omega
  have n1 : (n : Int) ≤ (line.size : Int) := by omega
  have hsz : (line.extract n line.size).size = line.size - n := by rw [ByteArray.size_extract]; omega
  have b1 : T.length + (line.extract n line.size).size ≤ maxLen := by unfold maxLen; omega
  have b2 : T.length + (line.extract n line.size).size ≤ 140737488355328 := by omega
  have hcell : Lib.strCells (line.extract n line.size) = nbC ((bl line).drop n) := by
    rw [strCells_nb, bl_extract, List.take_of_length_le (by rw [bl_len]; exact Nat.le_refl _)]
  have hlen : (T ++ (bl line).drop n).length = T.length + (line.extract n line.size).size := by rw [List.length_append, List.length_drop, bl_len, hsz]
  have HC := Lib.hid hcell
  have HE := Lib.hid hlen
  clear hs hT hsz hcell hlen
  refine wp_region_G (fun w' : World => w'.heap[b]? = some (.cells (rdA line n q mk v) RT) ∧ w'.heap[tb]? = some (.cells #[tv] TT)) 11 (by kernel_rfl) ?_
  have hS : W.drew.heap[b]? = some (.cells (rdA line n q mk v) RT) ∧ W.drew.heap[tb]? = some (.cells #[tv] TT) := ⟨(HL.more (Up.drew W)).rd.box, (HL.more (Up.drew W)).tbox⟩
  have HRD := Lib.hid (HL.more (Up.drew W))
  clear HL
  refine anyG_take 0 (v := ?v0) rfl (by kernel_rfl) (by kernel_rfl) (by kernel_rfl) (by kernel_rfl) (fun _ _ _ h => h) hS (Or.inl ⟨by kernel_rfl, ?hy0⟩) ?rest0
  case hy0 =>
    intro w hw
    have k0 : w.cell? ⟨b, 0, none⟩ = some (.string line) := cellOf hw.1 rfl
    have k1 : w.cell? ⟨b, 1, none⟩ = some (.int .i64 (n : Nat)) := cellOf hw.1 rfl
    have k5 : w.cell? ⟨tb, 0, none⟩ = some tv := cellOf hw.2 rfl
    clear hw
    go_simp
    try with_reducible rfl
  try simp only [Act.put, List.getElem_toArray, List.getElem_cons_zero, List.getElem_cons_succ, List.setIfInBounds_toArray, List.set_cons_zero, List.set_cons_succ]
  refine anyG_take 1 (v := ?v1) rfl (by kernel_rfl) (by kernel_rfl) (by kernel_rfl) (by kernel_rfl) (fun _ _ _ h => h) hS (Or.inl ⟨by kernel_rfl, ?hy1⟩) ?rest1
  case hy1 =>
    intro w hw
    have k0 : w.cell? ⟨b, 0, none⟩ = some (.string line) := cellOf hw.1 rfl
    have k1 : w.cell? ⟨b, 1, none⟩ = some (.int .i64 (n : Nat)) := cellOf hw.1 rfl
    have k5 : w.cell? ⟨tb, 0, none⟩ = some tv := cellOf hw.2 rfl
    clear hw
    go_simp
    try with_reducible rfl
  try simp only [Act.put, List.getElem_toArray, List.getElem_cons_zero, List.getElem_cons_succ, List.setIfInBounds_toArray, List.set_cons_zero, List.set_cons_succ]
  refine anyG_take 2 (v := ?v2) rfl (by kernel_rfl) (by kernel_rfl) (by kernel_rfl) (by kernel_rfl) (fun _ _ _ h => h) hS (Or.inl ⟨by kernel_rfl, ?hy2⟩) ?rest2
  case hy2 =>
    intro w hw
    have k0 : w.cell? ⟨b, 0, none⟩ = some (.string line) := cellOf hw.1 rfl
    have k1 : w.cell? ⟨b, 1, none⟩ = some (.int .i64 (n : Nat)) := cellOf hw.1 rfl
    have k5 : w.cell? ⟨tb, 0, none⟩ = some tv := cellOf hw.2 rfl
    clear hw
    go_simp
    try with_reducible rfl
  try simp only [Act.put, List.getElem_toArray, List.getElem_cons_zero, List.getElem_cons_succ, List.setIfInBounds_toArray, List.set_cons_zero, List.set_cons_succ]
  refine anyG_take 3 (v := ?v3) rfl (by kernel_rfl) (by kernel_rfl) (by kernel_rfl) (by kernel_rfl) (fun _ _ _ h => h) hS (Or.inl ⟨by kernel_rfl, ?hy3⟩) ?rest3
  case hy3 =>
    intro w hw
    have k0 : w.cell? ⟨b, 0, none⟩ = some (.string line) := cellOf hw.1 rfl
    have k1 : w.cell? ⟨b, 1, none⟩ = some (.int .i64 (n : Nat)) := cellOf hw.1 rfl
    have k5 : w.cell? ⟨tb, 0, none⟩ = some tv := cellOf hw.2 rfl
    clear hw
    go_simp
    try with_reducible rfl
  try simp only [Act.put, List.getElem_toArray, List.getElem_cons_zero, List.getElem_cons_succ, List.setIfInBounds_toArray, List.set_cons_zero, List.set_cons_succ]
  refine anyG_take 4 (v := ?v4) rfl (by kernel_rfl) (by kernel_rfl) (by kernel_rfl) (by kernel_rfl) (fun _ _ _ h => h) hS (Or.inl ⟨by kernel_rfl, ?hy4⟩) ?rest4
  case hy4 =>
    intro w hw
    have k0 : w.cell? ⟨b, 0, none⟩ = some (.string line) := cellOf hw.1 rfl
    have k1 : w.cell? ⟨b, 1, none⟩ = some (.int .i64 (n : Nat)) := cellOf hw.1 rfl
    have k5 : w.cell? ⟨tb, 0, none⟩ = some tv := cellOf hw.2 rfl
    clear hw
    go_simp
    try with_reducible rfl
  try simp only [Act.put, List.getElem_toArray, List.getElem_cons_zero, List.getElem_cons_succ, List.setIfInBounds_toArray, List.set_cons_zero, List.set_cons_succ]
  refine anyG_take 5 (v := ?v5) rfl (by kernel_rfl) (by kernel_rfl) (by kernel_rfl) (by kernel_rfl) (fun _ _ _ h => h) hS (Or.inl ⟨by kernel_rfl, ?hy5⟩) ?rest5
  case hy5 =>
    intro w hw
    have k0 : w.cell? ⟨b, 0, none⟩ = some (.string line) := cellOf hw.1 rfl
    have k1 : w.cell? ⟨b, 1, none⟩ = some (.int .i64 (n : Nat)) := cellOf hw.1 rfl
    have k5 : w.cell? ⟨tb, 0, none⟩ = some tv := cellOf hw.2 rfl
    clear hw
    go_simp
    try with_reducible rfl
  try simp only [Act.put, List.getElem_toArray, List.getElem_cons_zero, List.getElem_cons_succ, List.setIfInBounds_toArray, List.set_cons_zero, List.set_cons_succ]
  refine anyG_take 6 (v := ?v6) rfl (by kernel_rfl) (by kernel_rfl) (by kernel_rfl) (by kernel_rfl) (fun _ _ _ h => h) hS (Or.inl ⟨by kernel_rfl, ?hy6⟩) ?rest6
  case hy6 =>
    intro w hw
    have k0 : w.cell? ⟨b, 0, none⟩ = some (.string line) := cellOf hw.1 rfl
    have k1 : w.cell? ⟨b, 1, none⟩ = some (.int .i64 (n : Nat)) := cellOf hw.1 rfl
    have k5 : w.cell? ⟨tb, 0, none⟩ = some tv := cellOf hw.2 rfl
    clear hw
    go_simp
    try with_reducible rfl
  try simp only [Act.put, List.getElem_toArray, List.getElem_cons_zero, List.getElem_cons_succ, List.setIfInBounds_toArray, List.set_cons_zero, List.set_cons_succ]
  refine anyG_take 7 (v := ?v7) rfl (by kernel_rfl) (by kernel_rfl) (by kernel_rfl) (by kernel_rfl) (fun _ _ _ h => h) hS (Or.inl ⟨by kernel_rfl, ?hy7⟩) ?rest7
  case hy7 =>
    intro w hw
    have k0 : w.cell? ⟨b, 0, none⟩ = some (.string line) := cellOf hw.1 rfl
    have k1 : w.cell? ⟨b, 1, none⟩ = some (.int .i64 (n : Nat)) := cellOf hw.1 rfl
    have k5 : w.cell? ⟨tb, 0, none⟩ = some tv := cellOf hw.2 rfl
    clear hw
    go_simp
    try with_reducible rfl
  try simp only [Act.put, List.getElem_toArray, List.getElem_cons_zero, List.getElem_cons_succ, List.setIfInBounds_toArray, List.set_cons_zero, List.set_cons_succ]
  refine anyG_take 8 (v := ?v8) rfl (by kernel_rfl) (by kernel_rfl) (by kernel_rfl) (by kernel_rfl) (fun _ _ _ h => h) hS (Or.inl ⟨by kernel_rfl, ?hy8⟩) ?rest8
  case hy8 =>
    intro w hw
    have k0 : w.cell? ⟨b, 0, none⟩ = some (.string line) := cellOf hw.1 rfl
    have k1 : w.cell? ⟨b, 1, none⟩ = some (.int .i64 (n : Nat)) := cellOf hw.1 rfl
    have k5 : w.cell? ⟨tb, 0, none⟩ = some tv := cellOf hw.2 rfl
    clear hw
    go_simp
    try with_reducible rfl
  try simp only [Act.put, List.getElem_toArray, List.getElem_cons_zero, List.getElem_cons_succ, List.setIfInBounds_toArray, List.set_cons_zero, List.set_cons_succ]
  refine anyG_take 9 (v := ?v9) rfl (by kernel_rfl) (by kernel_rfl) (by kernel_rfl) (by kernel_rfl) (fun _ _ _ h => h) hS (Or.inl ⟨by kernel_rfl, ?hy9⟩) ?rest9
  case hy9 =>
    intro w hw
    have k0 : w.cell? ⟨b, 0, none⟩ = some (.string line) := cellOf hw.1 rfl
    have k1 : w.cell? ⟨b, 1, none⟩ = some (.int .i64 (n : Nat)) := cellOf hw.1 rfl
    have k5 : w.cell? ⟨tb, 0, none⟩ = some tv := cellOf hw.2 rfl
    clear hw
    go_simp
    try with_reducible rfl
  try simp only [Act.put, List.getElem_toArray, List.getElem_cons_zero, List.getElem_cons_succ, List.setIfInBounds_toArray, List.set_cons_zero, List.set_cons_succ]
  have hb0 : w0.heap.size ≤ W.drew.heap.size := Below.size HRD.out.rd.up
  refine anyG_one 10 (by kernel_rfl) rfl rfl (fun K1 hK1 => ?_)
  refine wp_append_str _ _ _ _ rfl w0.heap.size U8 i0 Tryd.underlying51 Tryd.underlying9 hi0 hz0 hz1 hz2 tv T.length (nbC T) rfl HRD.out.trow (line.extract n line.size) rfl b1 b2 hb0 ?_
  intro v5 w5 hown5 hgrow
  rw [HC.out, ← nbC_append, ← HE.out] at hown5
  have HAP := Lib.hid (HRD.out.tapp (l' := T ++ (bl line).drop n) (Up.refl _) hgrow hown5)
  have htb := HRD.out.tmid (Up.refl _) hgrow
  have c5 : w5.cell? ⟨tb, 0, none⟩ = some tv := cellOf htb rfl
  have z5 : w5.frozen? ⟨tb, 0, none⟩ = false := frozenOf htb
  obtain ⟨A5, k5, q5, hv5⟩ : ∃ A5 k5 q5, v5 = Value.slice A5 k5 q5 := by obtain ⟨A5, q5, e⟩ := own_slice hown5; exact ⟨A5, _, q5, e⟩
  have hbx : w5.heap[b]? = some (.cells (rdA line n q mk v) RT) := by
    rw [hgrow.block b (Array.getElem?_eq_some_iff.1 hS.1).1 (fun e => blk_ne ⟨_, _, hS.1⟩ (row_blk HRD.out.trow e.symm) ne_RU rfl)]
    exact hS.1
  clear hS hgrow
  refine hK1 _ _ (fun _ => ?s10) ?_
  case s10 => exact ⟨hbx, htb⟩
  clear hK1 K1
  try simp only [Act.put, List.getElem_toArray, List.getElem_cons_zero, List.getElem_cons_succ, List.setIfInBounds_toArray, List.set_cons_zero, List.set_cons_succ]
  refine anyG_one 11 (by kernel_rfl) rfl rfl (fun K1 hK1 => ?_)
  subst hv5
  go_simp
  refine hK1 _ _ (fun h => absurd rfl h) ?_
  clear hK1 K1
  try simp only [Act.put, List.getElem_toArray, List.getElem_cons_zero, List.getElem_cons_succ, List.setIfInBounds_toArray, List.set_cons_zero, List.set_cons_succ]
  refine anyG_done (by kernel_rfl) ?_ _
  exact HQ.out _ _ _ _ _ _ _ _ _ _ _ _ _ HAP.out
end
end Go.Proofs.YtmeipmkiknekjaaDoor
