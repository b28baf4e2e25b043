/- A node's path: the document's Path. -/
import Derived.Test.YtidnldchdahgeaaDoorTLeaves
namespace Go.Proofs.YtidnldchdahgeaaDoor
open Go.RowKit

theorem parN_in (L : List Nd) (d : Int) : ∀ k : Nat, parN L d k = -1 ∨ (0 ≤ parN L d k ∧ parN L d k < k)
  | 0 => .inl rfl
  | k + 1 => by
    show (if dep L k = d then (k : Int) else parN L d k) = -1 ∨ (0 ≤ (if dep L k = d then (k : Int) else parN L d k) ∧ (if dep L k = d then (k : Int) else parN L d k) < ((k + 1 : Nat) : Int))
    split
    · exact .inr ⟨by omega, by omega⟩
    · rcases parN_in L d k with h | h
      · exact .inl h
      · exact .inr ⟨h.1, by omega⟩
theorem par_in (L : List Nd) (i : Nat) : par L i = -1 ∨ (0 ≤ par L i ∧ par L i < i) := parN_in L _ i
/-- From a node to the root. -/
def pathR (L : List Nd) : Nat → Nat → List Nat
  | 0, _ => []
  | m + 1, i => i :: (if 0 ≤ par L i then pathR L m (par L i).toNat else [])
theorem pathR_fuel (L : List Nd) : ∀ (m m' i : Nat), i < m → i < m' → pathR L m i = pathR L m' i
  | 0, _, _, h, _ => absurd h (Nat.not_lt_zero _)
  | _ + 1, 0, _, _, h => absurd h (Nat.not_lt_zero _)
  | m + 1, m' + 1, i, h, h' => by
    show i :: _ = i :: _
    rcases par_in L i with e | e
    · rw [if_neg (by omega), if_neg (by omega)]
    · rw [if_pos e.1, if_pos e.1, pathR_fuel L m m' _ (by omega) (by omega)]
def pathL (L : List Nd) (i : Nat) : List Nat := pathR L (i + 1) i
theorem pathL_eq (L : List Nd) (i : Nat) : pathL L i = i :: (if 0 ≤ par L i then pathL L (par L i).toNat else []) := by
  show i :: (if 0 ≤ par L i then pathR L i (par L i).toNat else []) = _
  rcases par_in L i with e | e
  · rw [if_neg (by omega), if_neg (by omega)]
  · rw [if_pos e.1, if_pos e.1]
    unfold pathL
    rw [pathR_fuel L i ((par L i).toNat + 1) _ (by omega) (by omega)]
theorem pathR_len (L : List Nd) : ∀ m i, (pathR L m i).length ≤ m
  | 0, _ => Nat.le_refl _
  | m + 1, i => by
    have := pathR_len L m (par L i).toNat
    show (_ :: _ : List Nat).length ≤ m + 1
    rw [List.length_cons]
    split
    · omega
    · simp
set_option maxRecDepth 100000 in
set_option maxHeartbeats 2000000 in
theorem refPath_any (w : World) (A : Option Addr) (n c : Nat) (L : List Nd) (hL : Nds w A n L) (hn : n ≤ 10000) (i : Nat) (hi : i < n) (hd : ∀ k, k < n → 0 ≤ dep L k ∧ dep L k ≤ 10000) :
    Calls Tryd.prog 25 #[.slice A n c, .int .i64 (i : Nat)] w fun e w' => ∃ v, e = .returned v ∧ RowI w' w.heap.size v (toI (pathL L i)) ∧ Up w w' := by
  have HL := Lib.hid hL
  have HD := Lib.hid hd
  have HPl := Lib.hid (show (pathL L i).length ≤ 10000 by unfold pathL; have := pathR_len L (i + 1) i; omega)
  obtain ⟨P, hP⟩ : ∃ P, pathL L i = P := ⟨_, rfl⟩
  rw [hP] at HPl
  rw [hP]
  have HP := Lib.hid hP
  clear hL hd hP
  go_enter Tryd.func25, Tryd.ntmps25
  go_wp2
  go_loopg [1, 5] (i + 1) (fun g zv ov wr => ∃ (z : Int) (O : List Nat), g = (z + 1).toNat ∧ zv = .int .i64 z ∧ -1 ≤ z ∧ z < n ∧ Hid (O ++ (if 0 ≤ z then pathL L z.toNat else []) = P) ∧ Hid (RowI wr w.heap.size ov (toI O)) ∧ Hid (Up w wr))
  case atStart => exact ⟨i, [], by omega, rfl, by omega, by omega, Lib.hid (by rw [if_pos (by omega)]; exact HP.out), Lib.hid (World.ownsRow_nil _ _ _ _), Lib.hid (Up.refl _)⟩
  case round =>
    obtain ⟨z, O, hg, rfl, hz, hzn, HK, HO, HU⟩ := hrel
    have HG := Lib.hid hg
    clear hg
    by_cases h0 : 0 ≤ z
    · obtain ⟨k, rfl⟩ : ∃ k : Nat, z = k := ⟨z.toNat, by omega⟩
      have hkn : k < n := by omega
      have HK2 := Lib.hid (show (O ++ [k]) ++ (if 0 ≤ par L k then pathL L (par L k).toNat else []) = P by
        rw [← HK.out, if_pos h0, Int.toNat_natCast, pathL_eq L k, List.append_assoc]
        rfl)
      have HPar := Lib.hid (fun W (hu : Up w W) => refParent_any W A n c L (HL.out.up hu) hn k hkn (HD.out k hkn))
      have hpk := par_in L k
      obtain ⟨z', hz'⟩ : ∃ z', par L k = z' := ⟨_, rfl⟩
      rw [hz'] at HK2 HPar hpk
      have hOl : (toI O).length ≤ 10000 := by unfold toI; rw [List.length_map]; have h1 := HPl.out; rw [← HK.out, List.length_append] at h1; omega
      have ho := HO.out
      unfold RowI at ho
      have hsz : w.heap.size ≤ wr.heap.size := Below.size HU.out
      clear hz'
      go_wp2_with (first
        | (at_builtin; (obtain ⟨i0, hi0, hz0, hz1, hz2⟩ := info_parts infoInt; refine wpList_append_own _ rfl _ _ 30 rfl w.heap.size 3 i0 (.int .i64 0) 1 8 Tryd.underlying30 hi0 hz0 hz1 hz2 rfl (by decide) _ _ _ rfl (ho.alloc _) ⟨wr.heap.size, 0, none⟩ 1 1 [.int .i64 (k : Nat)] rfl rfl (cell_one_new _ _ _) (by simp [Value.oneCell']) (by unfold maxLen; omega) (by omega) (by simp; omega) ?_; clear hi0 hz0 hz1 hz2; intro v5 w5 hown5 hgrow5 _; have HO5 := Lib.hid (show RowI w5 w.heap.size v5 (toI (O ++ [k])) from (by unfold RowI; rw [show toI (O ++ [k]) = toI O ++ [(k : Int)] from (by unfold toI; rw [List.map_append]; rfl), inCells_append, List.length_append]; exact hown5)); have HU5 := Lib.hid (show Up w w5 from (HU.out.trans (Up.alloc wr _)).grown hgrow5 (by simp; omega) (fun q hq => own_base ho hq)); clear hown5 hgrow5))
        | (go_at_call 23; ((with_reducible refine (HPar.out w5 HU5.out).mono ?_); rintro e w6 ⟨rfl, hu6⟩; have HO6 := Lib.hid (rowI_up HO5.out hu6); have HU6 := Lib.hid (HU5.out.trans hu6); clear hu6)))
      go_roundg (z' + 1).toNat
      case measure => rw [HG.out]; omega
      case rel => exact ⟨z', O ++ [k], rfl, rfl, by omega, by omega, HK2, HO6, HU6⟩
    · have f0 : decide (0 ≤ z) = false := decide_eq_false h0
      have HZ := Lib.hid (show O = P by rw [← HK.out, if_neg h0, List.append_nil])
      clear h0
      go_wp2
      go_ret
      exact ⟨_, rfl, by rw [← HZ.out]; exact HO.out, HU.out⟩
end Go.Proofs.YtidnldchdahgeaaDoor
