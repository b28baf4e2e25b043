/- The open nodes of a node: the program's down. -/
import Derived.Test.YtidnldchdahgeaaDoorTCheck
namespace Go.Proofs.YtidnldchdahgeaaDoor
open Go.RowKit

set_option maxRecDepth 100000 in
set_option maxHeartbeats 4000000 in
theorem down_any (w : World) (A : Option Addr) (n c : Nat) (L : List Nd) (hL : Nds w A n L) (hc : n ≤ c) (hn : n ≤ 10000) (hG : Good L n) (i : Nat) (hi : i < n) :
    Calls Tryd.prog 38 #[.slice A n c, .int .i64 (i : Nat)] w fun e w' => ∃ g cp, e = .returned (.slice (some ⟨g, 0, none⟩) (st L i).length cp) ∧ RowI w' w.heap.size (.slice (some ⟨g, 0, none⟩) (st L i).length cp) (idx L i) ∧ Up w w' := by
  have HL := Lib.hid hL
  have HG := Lib.hid hG
  obtain ⟨b, o, rfl, -, -⟩ := nds_nd hL 0 (by omega)
  have q0 : IntKind.i64.wrap ((i : Int) + 1) = (i : Int) + 1 := IntWalk.i64_in _ (by omega)
  have q1 : ((i : Int) + 1).toNat = i + 1 := by omega
  have g1 : (i : Int) + 1 ≤ c := by omega
  have g2 : (0 : Int) ≤ (i : Int) + 1 := by omega
  have HI := Lib.hid hi
  clear hL hG
  go_enter Tryd.func38, Tryd.ntmps38
  go_wp2
  go_loopg [5, 6, 7, 13] (i + 1) (fun g ov _ _ kv wr => ∃ (k : Nat) (O : List Int), g = i + 1 - k ∧ kv = .int .i64 (k : Nat) ∧ k ≤ i + 1 ∧ Hid ((k = 0 ∧ O = []) ∨ ∃ j, k = j + 1 ∧ O = idx L j) ∧ Hid (RowI wr w.heap.size ov O) ∧ Hid (Up w wr))
  case atStart => exact ⟨0, [], rfl, rfl, by omega, Lib.hid (.inl ⟨rfl, rfl⟩), Lib.hid (World.ownsRow_nil _ _ _ _), Lib.hid (Up.refl _)⟩
  case round =>
    obtain ⟨k, O, hg, rfl, hk, HK, HO, HU⟩ := hrel
    have HGg := Lib.hid hg
    clear hg
    by_cases hlt : k < i + 1
    · obtain ⟨b2, o2, hA2, -, d0, d1, d2, d3⟩ := nds_nd (HL.out.up HU.out) k (by omega)
      obtain ⟨rfl, rfl⟩ : b2 = b ∧ o2 = o := by injection hA2 with e; injection e with e1 e2; exact ⟨e1.symm, e2.symm⟩
      obtain ⟨x, hx⟩ : ∃ x, nd L k = x := ⟨_, rfl⟩
      rw [hx] at d0 d1 d2 d3
      obtain ⟨x0, x1, x2, x3⟩ := x
      dsimp only at d0 d1 d2 d3
      obtain ⟨D, hD⟩ : ∃ D : Nat, x3 = (D : Nat) := ⟨x3.toNat, by
        have h1 := (HG.out.len (show k < n by omega)).2
        unfold dep at h1
        rw [hx] at h1
        dsimp only at h1
        omega⟩
      have hDk : dep L k = (D : Nat) := by unfold dep; rw [hx]; exact hD
      subst hD
      have hDO : D ≤ O.length := by
        rcases HK.out with ⟨rfl, rfl⟩ | ⟨j, rfl, rfl⟩
        · have := HG.out.1; simp; omega
        · have h1 := (HG.out.2 j (by omega)).2.1
          have h2 := HG.out.len (show j < n by omega)
          rw [idx_len]
          omega
      have HNX := Lib.hid (show O.take D ++ [(k : Int)] = idx L k by
        rcases HK.out with ⟨rfl, rfl⟩ | ⟨j, rfl, rfl⟩
        · rw [List.take_nil]; rfl
        · have h1 := (HG.out.2 j (by omega)).1
          obtain ⟨E, rfl⟩ : ∃ E, D = E + 1 := ⟨D - 1, by omega⟩
          rw [idx_next (by rw [hDk]; rfl)]
          rfl)
      have hDn : D ≤ 10000 := by
        have h2 := HG.out.len (show k < n by omega)
        have h3 := st_lenle L k
        omega
      have hOl : O.length ≤ 10001 := by
        rcases HK.out with ⟨rfl, rfl⟩ | ⟨j, rfl, rfl⟩
        · simp
        · rw [idx_len]; have := st_lenle L j; omega
      have hk1 : (k : Int) < (i : Int) + 1 := by omega
      have HDk := Lib.hid hDk
      have hua := Up.alloc wr (.cells #[.int .u8 x0, .int .i64 x1, .int .i64 x2, .int .i64 (D : Nat)] 40)
      have n3 : (wr.alloc (.cells #[.int .u8 x0, .int .i64 x1, .int .i64 x2, .int .i64 (D : Nat)] 40)).cell? ⟨wr.heap.size, 3, none⟩ = some (.int .i64 (D : Nat)) := cellOf (Go.heap_alloc_new _ _) rfl
      have HO1 := Lib.hid (rowI_up HO.out hua)
      have HU1 := Lib.hid (HU.out.trans hua)
      have hsz : w.heap.size ≤ wr.heap.size := Below.size HU.out
      clear hx hDk hua hA2
      rcases owns_cell HO1.out with ⟨rfl, hz⟩ | ⟨g, cp, rfl, hg, hgl, -⟩
      · have hO0 : O = [] := List.eq_nil_of_length_eq_zero hz
        subst hO0
        obtain rfl : D = 0 := by simpa using hDO
        have HNX0 := Lib.hid (show [(k : Int)] = idx L k from HNX.out)
        go_wp2_with (at_builtin; (obtain ⟨i0, hi0, hz0, hz1, hz2⟩ := info_parts infoInt; refine wpList_append_lies _ rfl _ _ 30 rfl w.heap.size 3 i0 (.int .i64 0) 1 8 Tryd.underlying30 hi0 hz0 hz1 hz2 rfl (by decide) _ 0 [] rfl (World.ownsRow_nil _ _ _ _) ⟨wr.heap.size + 1, 0, none⟩ 1 1 [.int .i64 (k : Nat)] rfl rfl (World.news_of_block (cs := #[.int .i64 (k : Nat)]) (t := 3) (fr := (0, 0)) (heap_new2 wr _ _)) (by simp [Value.oneCell']) (by omega) (by unfold maxLen; omega) (by omega) (by simp; omega) (wr.heap.size + 1 + 1) (by simp) ?_; clear hi0 hz0 hz1 hz2; intro g5 c5 w5 hown5 hgrow5 hat5 _))
        have HO5 := Lib.hid (show RowI w5 w.heap.size (.slice (some ⟨g5, 0, none⟩) 1 c5) (idx L k) by
          rw [← HNX0.out]
          exact hown5)
        have HU5 := Lib.hid (show Up w w5 from (HU1.out.trans (Up.alloc _ _)).grown hgrow5 (by simp; omega) (fun q hq => by cases hq))
        clear hown5 hgrow5 hat5
        go_roundg (i + 1 - (k + 1))
        case measure => rw [HGg.out]; omega
        case rel => exact ⟨k + 1, idx L k, rfl, by go_num, by omega, Lib.hid (.inr ⟨k, rfl, rfl⟩), HO5, HU5⟩
      · have hw1 := owns_cap HO1.out
        have hOT : (wr.alloc (.cells #[.int .u8 x0, .int .i64 x1, .int .i64 x2, .int .i64 (D : Nat)] 40)).ownsRow w.heap.size 3 1 (.slice (some ⟨g, 0, none⟩) D cp) D (inCells (O.take D)) := by
          have h1 := RowI.take HO1.out hDO
          unfold RowI at h1
          rw [show (O.take D).length = D from by rw [List.length_take]; omega] at h1
          exact h1
        have g3 : (D : Int) ≤ cp := by omega
        have g4 : (0 : Int) ≤ (D : Int) := by omega
        clear hw1
        go_wp2_with (at_builtin; (obtain ⟨i0, hi0, hz0, hz1, hz2⟩ := info_parts infoInt; refine wpList_append_lies _ rfl _ _ 30 rfl w.heap.size 3 i0 (.int .i64 0) 1 8 Tryd.underlying30 hi0 hz0 hz1 hz2 rfl (by decide) (.slice (some ⟨g, 0, none⟩) D cp) D (inCells (O.take D)) rfl (hOT.alloc _) ⟨wr.heap.size + 1, 0, none⟩ 1 1 [.int .i64 (k : Nat)] rfl rfl (World.news_of_block (cs := #[.int .i64 (k : Nat)]) (t := 3) (fr := (0, 0)) (heap_new2 wr _ _)) (by simp [Value.oneCell']) (by omega) (by unfold maxLen; omega) (by omega) (by simp; omega) (wr.heap.size + 1 + 1) (by simp) ?_; clear hi0 hz0 hz1 hz2; intro g5 c5 w5 hown5 hgrow5 hat5 _))
        have HO5 := Lib.hid (show RowI w5 w.heap.size (.slice (some ⟨g5, 0, none⟩) (D + 1) c5) (idx L k) by
          rw [← HNX.out]
          unfold RowI
          rw [show (O.take D ++ [(k : Int)]).length = D + 1 from by rw [List.length_append, List.length_take, List.length_singleton]; omega, inCells_append]
          exact hown5)
        have HU5 := Lib.hid (show Up w w5 from (HU1.out.trans (Up.alloc _ _)).grown hgrow5 (by simp; omega) (fun q hq => by
          have : g = q := by simpa [Value.ownBlock] using hq
          omega))
        clear hown5 hgrow5 hat5
        go_roundg (i + 1 - (k + 1))
        case measure => rw [HGg.out]; omega
        case rel => exact ⟨k + 1, idx L k, rfl, by go_num, by omega, Lib.hid (.inr ⟨k, rfl, rfl⟩), HO5, HU5⟩
    · have hk2 : k = i + 1 := by omega
      have hO : O = idx L i := by
        rcases HK.out with ⟨rfl, rfl⟩ | ⟨j, rfl, rfl⟩
        · omega
        · rw [show j = i from by omega]
      have HO1 := Lib.hid (hO ▸ HO.out)
      have f3 : decide ((k : Int) < (i : Int) + 1) = false := decide_eq_false (by omega)
      have HLen := Lib.hid (show 0 < (st L i).length by obtain ⟨P, hP⟩ := st_last L i; rw [hP]; simp)
      clear hlt hO
      rcases owns_cell HO1.out with ⟨rfl, hz⟩ | ⟨g, cp, rfl, -, -, -⟩
      · exfalso
        have := HLen.out
        rw [idx_len] at hz
        omega
      · go_wp2
        go_ret
        have hil : (idx L i).length = (st L i).length := idx_len L i
        refine ⟨g, cp, by rw [hil]; rfl, ?_, HU.out⟩
        have h5 := HO1.out
        rw [hil] at h5
        exact h5
end Go.Proofs.YtidnldchdahgeaaDoor
