/- (Mdmark.) A row of bytes that came of a text ('[]byte(s)'), of which what lies behind its end may be frozen: a byte is put behind it. -/
import Derived.Test.YtopdbilkpkgccaaDoorMkP3
import Derived.OwnWalk
import Derived.Lib.UnsafeStr
import Derived.Laws.IdiomStrings
import Derived.Lib.ConvBytes
import Derived.Laws.AppendOwn
import Derived.Lib.FrozenHead
namespace Go.Proofs.YtopdbilkpkgccaaDoor
open Go.RowKit

theorem infoByte : (Tryd.prog.info? 5).map (fun i => (i.zero, i.size, i.bytes)) = some (some (.int .u8 0), 1, 1) := by kernel_rfl
theorem cell_new0 (W : World) (x : Value) (t : TypeId) : ∀ (j : Nat) (u : Value), [x][j]? = some u → (W.alloc (.cells #[x] t)).cell? ((⟨W.heap.size, 0, none⟩ : Addr).add j) = some u := by
  intro j u hj
  match j, hj with
  | 0, hj => simp at hj; subst hj; simp [Addr.add, go_sem]
abbrev UBS : TypeId := 31
/-- The slice v holds the bytes l, at the head of a block that is new since B. -/
def RowT (w : World) (B : Nat) (v : Value) (l : List UInt8) : Prop :=
  ∃ g cap cur fz, v = .slice (some ⟨g, 0, none⟩) l.length cap ∧ B ≤ g ∧ w.heap[g]? = some (.cells cur UB fz) ∧ (fz.2 = 0 ∨ cur.size ≤ fz.1) ∧ l.length ≤ cap ∧ cap ≤ maxLen ∧ cur.size = cap ∧ cur.toList.take l.length = Lib.byteCells l
theorem byteCells_len (l : List UInt8) : (Lib.byteCells l).length = l.length := by simp [Lib.byteCells]
theorem byteCells_snoc (l : List UInt8) (b : UInt8) : Lib.byteCells (l ++ [b]) = Lib.byteCells l ++ [.int .u8 (b.toNat : Nat)] := by simp [Lib.byteCells]
theorem add_lit' (g j : Nat) : (⟨g, 0, none⟩ : Addr).add j = ⟨g, j, none⟩ := by unfold Addr.add; split <;> simp_all
theorem RowT.cell {w : World} {B g n c : Nat} {l : List UInt8} (h : RowT w B (.slice (some ⟨g, 0, none⟩) n c) l) (j : Nat) (u : Value) (hu : (Lib.byteCells l)[j]? = some u) : w.cell? ⟨g, j, none⟩ = some u := by
  obtain ⟨g', cap, cur, fz, e, -, hg, -, -, -, -, ht⟩ := h
  injection e with e1 e2 e3
  injection e1 with e1
  injection e1 with e1
  subst e1
  rw [← ht, List.getElem?_take] at hu
  split at hu
  · rw [World.cell?, hg]
    simpa using hu
  · cases hu
theorem RowT.kept {w w' : World} {B : Nat} {v : Value} {l : List UInt8} (h : RowT w B v l) (hu : Up w w') : RowT w' B v l := by
  obtain ⟨g, cap, cur, fz, e, hb, hg, rest⟩ := h
  exact ⟨g, cap, cur, fz, e, hb, by rw [Below.block hu g (Array.getElem?_eq_some_iff.1 hg).1]; exact hg, rest⟩
theorem RowT.base {w : World} {B k : Nat} {v : Value} {l : List UInt8} (h : RowT w B v l) (hk : v.ownBlock = some k) : B ≤ k := by
  obtain ⟨g, cap, cur, fz, rfl, hb, -⟩ := h
  obtain rfl : g = k := by simpa [Value.ownBlock] using hk
  exact hb
section
variable (w : World)
theorem run_append_T (ty : TypeId) (B : Nat) (v : Value) (l : List UInt8) (h : RowT w B v l) (ad : Addr) (c : Nat) (b : UInt8) (hnew : w.cell? (ad.add 0) = some (.int .u8 (b.toNat : Nat))) (hl : l.length ≤ 1000000) (hB : B ≤ w.heap.size) :
    ∃ v' w', (Builtin.append_ #[UBS, UBS] ty #[v, .slice (some ad) 1 c]).run Tryd.prog w = .ok v' w' ∧ RowT w' B v' (l ++ [b]) ∧ w.grownBy w' v.ownBlock := by
  obtain ⟨g, cap, cur, fz, rfl, hb, hg, hfz, hnc, hcm, hcs, ht⟩ := h
  obtain ⟨i0, hi0, hz0, hz1, hz2⟩ := info_parts infoByte
  have hnews : ∀ j u, [Value.int .u8 (b.toNat : Nat)][j]? = some u → w.cell? (ad.add j) = some u := fun j u hu => by
    match j, hu with
    | 0, hu => simp at hu; subst hu; exact hnew
  have hu1 := Tryd.underlying31
  by_cases hroom : l.length + 1 ≤ cap
  · have hi : l.length < cur.size := by omega
    have hcell : w.cell? ⟨g, l.length, none⟩ = some cur[l.length] := by simp [World.cell?, hg, hi]
    have hfro : w.frozen? ⟨g, l.length, none⟩ = false := by
      obtain ⟨lo, hi'⟩ := fz
      simp only [World.frozen?, hg, Bool.and_eq_false_iff, decide_eq_false_iff_not]
      simp only at hfz
      omega
    have hst : (storeCells ⟨g, l.length, none⟩ [.int .u8 (b.toNat : Nat)] 0).run Tryd.prog w = .ok () (w.setRow g (cur.setIfInBounds l.length (.int .u8 (b.toNat : Nat)))) := by
      have h0 : (⟨g, l.length, none⟩ : Addr).add 0 = ⟨g, l.length, none⟩ := by unfold Addr.add; split <;> simp_all
      have hs1 : (store ⟨g, l.length, none⟩ (.int .u8 (b.toNat : Nat))).run Tryd.prog w = .ok () (w.setRow g (cur.setIfInBounds l.length (.int .u8 (b.toNat : Nat)))) := by
        rw [run_store Tryd.prog w _ _ _ rfl, hcell]
        simp [hfro, setCell_eq_setRow w g l.length cur UB fz _ hg]
      simp only [storeCells, Sem.run_bind, h0, hs1, Result.andThen_ok]
      rfl
    have hf := run_firstCells_some (P := Tryd.prog) w i0.size 1 ad 1 c [.int .u8 (b.toNat : Nat)] (by rw [hz1]; rfl) hnews
    have hr : (Builtin.append_ #[UBS, UBS] ty #[.slice (some ⟨g, 0, none⟩) l.length cap, .slice (some ad) 1 c]).run Tryd.prog w = .ok (.slice (some ⟨g, 0, none⟩) (l.length + 1) cap) (w.setRow g (cur.setIfInBounds l.length (.int .u8 (b.toNat : Nat)))) := by
      rw [hz1] at hf
      simp [Builtin.append_, run_underlying hu1, sizeOf, typeInfo, hi0, Builtin.lenOf, hroom, hf, Addr.add_lit, hst, hz1]
    refine ⟨_, _, hr, ⟨g, cap, _, fz, by rw [List.length_append]; rfl, hb, setRow_heap w g cur _ UB _ hg, ?_, by rw [List.length_append]; exact hroom, hcm, ?_, ?_⟩, ⟨rfl, rfl, rfl, by simp, fun k _ hk => setRow_other w g k _ (fun e => hk (by simp [Value.ownBlock, e]))⟩⟩
    · simpa using hfz
    · simpa using hcs
    · rw [Array.toList_setIfInBounds, byteCells_snoc, ← ht, List.length_append, List.length_singleton, List.take_add_one, List.take_set_of_le (Nat.le_refl _)]
      simp [hi]
  · have holds : ∀ j u, (Lib.byteCells l)[j]? = some u → w.cell? ((⟨g, 0, none⟩ : Addr).add j) = some u := fun j u hu => by
      rw [add_lit']
      exact RowT.cell ⟨g, cap, cur, fz, rfl, hb, hg, hfz, hnc, hcm, hcs, ht⟩ j u hu
    have hr := run_append_grow (P := Tryd.prog) w UBS ty UB i0 (.int .u8 0) hu1 hi0 hz0 ⟨g, 0, none⟩ l.length cap (Lib.byteCells l) (by rw [hz1, byteCells_len, Nat.mul_one]) holds ad 1 c [.int .u8 (b.toNat : Nat)] (by rw [hz1]; rfl) hnews (by omega) (by omega) (growslice_fits (by omega) (by rw [hz2]; omega))
    have hge := grownCap_ge w (l.length + 1) cap UB
    have hcm2 : grownCap w (l.length + 1) cap UB ≤ maxLen := grownCap_le_maxLen w (l.length + 1) cap UB (by unfold maxLen; omega)
    refine ⟨_, _, hr, ⟨w.heap.size, grownCap w (l.length + 1) cap UB, _, (0, 0), by rw [List.length_append]; rfl, hB, heap_alloc_new w.drew _, .inl rfl, by rw [List.length_append]; exact hge, hcm2, ?_, ?_⟩, ⟨rfl, rfl, rfl, by simp, fun k hk _ => Below.block (Up.alloc w.drew _) k hk⟩⟩
    · simp only [Array.size_append, List.size_toArray, size_zeroCells, byteCells_len, List.length_singleton]
      have : (Value.int .u8 0).cells.size = 1 := rfl
      rw [this]
      omega
    · simp only [Array.toList_append, List.append_assoc]
      rw [← List.append_assoc, byteCells_snoc]
      have hlen : (l ++ [b]).length = (Lib.byteCells l ++ [Value.int .u8 (b.toNat : Nat)]).length := by rw [List.length_append, List.length_append, byteCells_len]; rfl
      rw [hlen]
      exact List.take_left
theorem wpList_append_T {ops : Array Oper} {rest : List Oper} {o : Oper} {a : Act} {Q : Exit → Act → World → Prop} (hgd : o.guard = none) (s x : Operand)
    (ho : o.op = .call { callee := .builtin .append, args := #[s, x], argTypes := #[UBS, UBS] }) (B : Nat) (v : Value) (l : List UInt8) (hs : a.eval s = v) (hown : RowT w B v l)
    (ad : Addr) (c : Nat) (b : UInt8) (hx : a.eval x = .slice (some ad) 1 c) (hnew : w.cell? (ad.add 0) = some (.int .u8 (b.toNat : Nat))) (hl : l.length ≤ 1000000) (hB : B ≤ w.heap.size)
    (h : ∀ v' w', RowT w' B v' (l ++ [b]) → w.grownBy w' v.ownBlock → wpList Tryd.prog ops Q rest (a.put o.dst v') w') : wpList Tryd.prog ops Q (o :: rest) a w := by
  refine wpList_plain hgd fun K hK => ?_
  obtain ⟨v', w', hr, h2, h3⟩ := run_append_T w o.type B v l hown ad c b hnew hl hB
  unfold Oper.wp execOp
  simp only [ho, resolve, invoke, builtin, Sem.run_bind, Sem.run_pure, Result.andThen_ok, List.map_toArray, List.map_cons, List.map_nil, hs, hx, hr]
  exact hK _ _ (h v' w' h2 h3)
end
/-- Behind the conversion of a text. -/
theorem conv_T (w : World) (s : ByteArray) (B : Nat) (hB : B ≤ w.heap.size) (hs : s.size ≤ 1000000) : (convert 9 UBS (.string s)).run Tryd.prog w = .ok (.slice (some ⟨w.heap.size, 0, none⟩) s.size (grownCap w s.size 0 UB)) (Lib.bytesWorld w UB s) ∧
    RowT (Lib.bytesWorld w UB s) B (.slice (some ⟨w.heap.size, 0, none⟩) s.size (grownCap w s.size 0 UB)) s.data.toList ∧ Up w (Lib.bytesWorld w UB s) := by
  have hge := grownCap_ge w s.size 0 UB
  have hcm := grownCap_le_maxLen w s.size 0 UB (by unfold maxLen; omega)
  have hsz : (Lib.bytesCells w UB s).size = grownCap w s.size 0 UB := by
    unfold Lib.bytesCells
    rw [Array.size_append, Array.size_map, Array.size_replicate]
    have : s.data.size = s.size := rfl
    omega
  have hu : Up w (Lib.bytesWorld w UB s) := by
    have h1 : Up w (w.drew.alloc (.cells (Lib.bytesCells w UB s) UB)) := (Up.drew w).trans (Up.alloc _ _)
    refine ⟨h1.os, h1.tape, h1.output, ?_, ?_⟩
    · rw [Lib.bytesWorld_size]; omega
    · intro k hk
      exact Lib.bytesWorld_at_old w UB s k hk
  refine ⟨Lib.run_convert_string_bytes w _ _ _ s Tryd.underlying9 Tryd.underlying31 Tryd.underlying5, ⟨w.heap.size, grownCap w s.size 0 UB, _, _, by rw [← Lib.size_eq], hB, Lib.bytesWorld_at_new w UB s, .inr (Nat.le_refl _), by rw [← Lib.size_eq]; exact hge, hcm, hsz, ?_⟩, hu⟩
  unfold Lib.bytesCells Lib.byteCells
  rw [Array.toList_append, Array.toList_map]
  have : s.data.toList.length = (List.map (fun b : UInt8 => Value.int .u8 (b.toNat : Nat)) s.data.toList).length := by rw [List.length_map]
  rw [this]
  exact List.take_left
/-- The text of such a row. -/
theorem back_T {w : World} {B : Nat} {v : Value} {l : List UInt8} (h : RowT w B v l) : (convert UBS 9 v).run Tryd.prog w = .ok (.string ⟨l.toArray⟩) w := by
  have h0 := h
  obtain ⟨g, cap, cur, fz, rfl, -⟩ := h
  exact run_convert_bytes_back (P := Tryd.prog) w UBS 9 UB ⟨g, 0, none⟩ cap l Tryd.underlying31 Tryd.underlying5 Tryd.underlying9 (fun j hj => by
    rw [add_lit']
    exact h0.cell j _ (by simp [Lib.byteCells, hj]))
theorem rowT_up {w W w2 : World} {v : Value} {l : List UInt8} {tmp : Obj} (hu : Up w W) (ho : RowT W w.heap.size v l) (hgrow : (W.alloc tmp).grownBy w2 v.ownBlock) : Up w w2 :=
  (hu.trans (Up.alloc W tmp)).grown hgrow (by have := Below.size hu; rw [World.size_alloc]; omega) fun k hk => ho.base hk
theorem bl_mk (l : List UInt8) : bl ⟨l.toArray⟩ = l.map (·.toNat) := by simp [bl]
/-- The shape of such a row. -/
theorem RowT.shape {w : World} {B : Nat} {v : Value} {l : List UInt8} (h : RowT w B v l) : ∃ g cap, v = .slice (some ⟨g, 0, none⟩) l.length cap ∧ l.length ≤ cap ∧ cap ≤ maxLen := by
  obtain ⟨g, cap, cur, fz, e, -, -, -, h1, h2, -⟩ := h
  exact ⟨g, cap, e, h1, h2⟩
/-- Its beginning. -/
theorem RowT.cut {w : World} {B g k c n : Nat} {l : List UInt8} (h : RowT w B (.slice (some ⟨g, 0, none⟩) k c) l) (hn : n ≤ l.length) : RowT w B (.slice (some ⟨g, 0, none⟩) n c) (l.take n) := by
  obtain ⟨g', cap, cur, fz, e, hb, hg, hfz, hnc, hcm, hcs, ht⟩ := h
  injection e with e1 e2 e3
  injection e1 with e1
  injection e1 with e1
  subst e1 e3
  have hl : (l.take n).length = n := by rw [List.length_take]; omega
  refine ⟨g, c, cur, fz, by rw [hl], hb, hg, hfz, by rw [hl]; omega, hcm, hcs, ?_⟩
  rw [hl]
  have : cur.toList.take n = (cur.toList.take l.length).take n := by rw [List.take_take, Nat.min_eq_left hn]
  rw [this, ht]
  unfold Lib.byteCells
  rw [List.map_take]
end Go.Proofs.YtopdbilkpkgccaaDoor
