/- The pieces that a text is cut into, and the program's iterator over them: for every loop body that keeps the text's place. -/
import Derived.RangeFuncNested
import Derived.RangeFuncBound
import Derived.RangeFuncCalls
import Derived.RangeFuncLeaves
import Derived.Shelf.Abstract
import Derived.Shelf.RegionOpen
import Derived.WalkKit
import Derived.OwnWalkIn
import Derived.TacticsInMore
import Derived.LoopNIn
import Derived.LoopIn
import Derived.Test.YtcbmigkdmmmahaaDoorLeaf
namespace Go.Proofs.YtcbmigkdmmmahaaDoor
open Go.RowKit Go.Shelf
attribute [local go_sem] Oper.semAt_some

/-- How many pieces, and each. -/
def pcn (s : ByteArray) : Nat := (s.size + 511) / 512
def pc (s : ByteArray) (i : Nat) : ByteArray := s.extract (i * s.size / pcn s) ((i + 1) * s.size / pcn s)
def pcs (s : ByteArray) : List ByteArray := (List.range (pcn s)).map (pc s)

/-- A text that is not too long. -/
def Pc : Type := { x : ByteArray // (x.size : Int) ≤ 1048576 }
abbrev encPc (x : Pc) : Array Value := #[.string x.1]
theorem pc_size (s : ByteArray) (i : Nat) : (pc s i).size ≤ s.size := by unfold pc; rw [ByteArray.size_extract]; exact Nat.le_trans (Nat.sub_le _ _) (Nat.min_le_right _ _)
def pcv (s : ByteArray) (hs : (s.size : Int) ≤ 1048576) (i : Nat) : Pc := ⟨pc s i, by have := pc_size s i; omega⟩
def pcsv (s : ByteArray) (hs : (s.size : Int) ≤ 1048576) : List Pc := (List.range (pcn s)).map (pcv s hs)
theorem pcsv_map (s : ByteArray) (hs : (s.size : Int) ≤ 1048576) : (pcsv s hs).map (·.1) = pcs s := by unfold pcsv pcs; rw [List.map_map]; rfl

theorem pcs_prefix {s : ByteArray} {hs : (s.size : Int) ≤ 1048576} {x : Pc} {k : Nat} (h : k < pcn s) (hx : pcv s hs k = x) : (List.range k).map (pcv s hs) ++ [x] <+: pcsv s hs := by
  refine ⟨((List.range (pcn s)).drop (k + 1)).map (pcv s hs), ?_⟩
  rw [← hx]
  unfold pcsv
  have e : List.range (pcn s) = List.range k ++ [k] ++ (List.range (pcn s)).drop (k + 1) := by
    conv => lhs; rw [← List.take_append_drop (k + 1) (List.range (pcn s))]
    congr 1
    rw [List.take_range, show min (k + 1) (pcn s) = k + 1 from by omega, List.range_succ]
  conv => rhs; rw [e]
  simp
theorem said_bool {e : Ending} {A B : Prop} (h : (e = .returned (.bool true) ∧ A) ∨ (e = .returned (.bool false) ∧ B)) : ∃ b : Bool, e = .returned (.bool b) ∧ ((b = true ∧ A) ∨ (b = false ∧ B)) := by
  rcases h with ⟨h1, h2⟩ | ⟨h1, h2⟩
  · exact ⟨true, h1, .inl ⟨rfl, h2⟩⟩
  · exact ⟨false, h1, .inr ⟨rfl, h2⟩⟩
set_option maxRecDepth 100000 in
set_option maxHeartbeats 4000000 in
theorem pieces1_in (n : Nat) (hn : 1 ≤ n) (l Bn n₀ : Nat) (s : ByteArray) (hs : (s.size : Int) ≤ 1048576) (J Jx : List Pc → World → Prop) (B : Nat) (hJ : AbidesFrom B J)
    (hY : ∀ pre (x : Pc) W, J pre W → pre.length < pcn s → YieldAt Fence.wide (n - 1) Tryd.prog l (encPc x) W fun e W' =>
      (e = .returned (.bool true) ∧ J (pre ++ [x]) W' ∧ KpS n₀ Bn W W') ∨ (e = .returned (.bool false) ∧ Jx (pre ++ [x]) W'))
    (W : World) (hBn : W.cell? ⟨Bn, 0, none⟩ = some (.string s)) (h0 : J [] W) :
    CallsIn Fence.wide n Tryd.prog 51 #[.func (.yield l) #[] #[], .pointer (some ⟨Bn, 0, none⟩)] W fun e W' => (∃ v, e = .returned v) ∧
      ((∃ ys, ys = pcsv s hs ∧ J ys W') ∨ (∃ pre, pre <+: pcsv s hs ∧ Jx pre W')) := by
  obtain ⟨N, hN⟩ : ∃ N, pcn s = N := ⟨_, rfl⟩
  have hNd : N = (s.size + 511) / 512 := hN.symm
  have e1 : IntKind.i64.wrap ((s.size : Int) + 512) = (s.size : Int) + 512 := IntWalk.i64_in _ (by omega)
  have e3 : ((s.size : Int) + 512 - 1) / 512 = (N : Int) := by omega
  have hN0 : (N : Int) ≤ 2049 := by omega
  have HN := Lib.hid hN
  clear hNd hN
  refine callsIn_of_wp Tryd.func51 rfl trivial ?_ rfl
  simp only [Tryd.ntmps51, List.size_toArray, List.length_cons, List.length_nil, Nat.reduceAdd, Nat.reduceSub, Array.replicate_succ, Array.replicate_zero, List.push_toArray, List.append_toArray, List.nil_append, List.cons_append]
  gi_wp2
  simp only [e3]
  clear e3
  gi_loopw [11] (fun iv wr => ∃ (k : Nat), iv = .int .i64 (k : Nat) ∧ k ≤ N ∧ wr.cell? ⟨Bn, 0, none⟩ = some (.string s) ∧ Hid (J ((List.range k).map (pcv s hs)) wr))
    (fun iv _ => N - (intOf iv).toNat)
  case atStart => exact ⟨0, rfl, by omega, hBn, Lib.hid h0⟩
  case round =>
    obtain ⟨k, rfl, hk, hc, hJs⟩ := hrel
    by_cases hlt : k < N
    · have a1 : IntKind.i64.wrap ((k : Int) + 1) = ((k + 1 : Nat) : Int) := (IntWalk.i64_in _ (by omega)).trans (by omega)
      have hkb : k * s.size ≤ 2049 * 1048576 := Nat.mul_le_mul (by omega) (by omega)
      have hkb2 : (k + 1) * s.size ≤ 2049 * 1048576 := Nat.mul_le_mul (by omega) (by omega)
      obtain ⟨A, hA⟩ : ∃ A, k * s.size = A := ⟨_, rfl⟩
      obtain ⟨C, hC⟩ : ∃ C, (k + 1) * s.size = C := ⟨_, rfl⟩
      rw [hA] at hkb
      rw [hC] at hkb2
      obtain ⟨a, ha⟩ : ∃ a, A / N = a := ⟨_, rfl⟩
      obtain ⟨c, hcc⟩ : ∃ c, C / N = c := ⟨_, rfl⟩
      have hac : a ≤ c := by rw [← ha, ← hcc]; exact Nat.div_le_div_right (by rw [← hA, ← hC]; exact Nat.mul_le_mul_right _ (by omega))
      have hcs : c ≤ s.size := by rw [← hcc, ← hC]; exact Nat.div_le_of_le_mul (Nat.mul_le_mul_right _ (by omega))
      have m1 : IntKind.i64.wrap ((k : Int) * s.size) = (A : Int) := (IntWalk.i64_in _ (by rw [← Int.natCast_mul, hA]; omega)).trans (by rw [← Int.natCast_mul, hA])
      have m2 : IntKind.i64.wrap (((k + 1 : Nat) : Int) * s.size) = (C : Int) := (IntWalk.i64_in _ (by rw [← Int.natCast_mul, hC]; omega)).trans (by rw [← Int.natCast_mul, hC])
      have m3 : IntKind.i64.wrap (((k : Int) + 1) * s.size) = (C : Int) := by rw [← m2, Int.natCast_add]; rfl
      have q1 : (A : Int).tdiv N = (a : Int) := by rw [← ha]; exact Int.ofNat_tdiv _ _
      have q2 : (C : Int).tdiv N = (c : Int) := by rw [← hcc]; exact Int.ofNat_tdiv _ _
      have r1 : IntKind.i64.wrap (a : Int) = a := IntWalk.i64_in _ (by omega)
      have r2 : IntKind.i64.wrap (c : Int) = c := IntWalk.i64_in _ (by omega)
      have z0 : ((N : Int) == 0) = false := by simp; omega
      have z1 : ¬ ((N : Int) = 0) := by omega
      have z2 : ¬ (N = 0) := by omega
      have b0 : (0 : Int) ≤ a := by omega
      have b1 : (a : Int) ≤ c := by omega
      have b2 : (c : Int) ≤ s.size := by omega
      have hx1 : ((s.extract a c).size : Int) ≤ 1048576 := by rw [ByteArray.size_extract]; omega
      have HP : Hid (pcv s hs k = (⟨s.extract a c, hx1⟩ : Pc)) := Lib.hid (Subtype.ext (by show pc s k = _; unfold pc; rw [HN.out, hA, hC, ha, hcc]))
      have hlt' : (k : Int) < N := by omega
      clear hkb hkb2 hA hC ha hcc hac hcs hk hlt
      have hmx : Tryd.prog.follows .mixedOrders = true := by kernel_rfl
      have hlen : ((List.range k).map (pcv s hs)).length < pcn s := by rw [List.length_map, List.length_range, HN.out]; omega
      have hc1 : wr.drew.cell? ⟨Bn, 0, none⟩ = some (.string s) := hc
      obtain ⟨fn, tmps, assign, body, hy, hR⟩ := hY _ (⟨s.extract a c, hx1⟩ : Pc) wr.drew (hJ _ wr wr.drew none hJs.out (Up.drew wr).grownBy (fun r e => by cases e)) hlen
      dsimp only [encPc] at hy
      have hR' := Lib.hid hR
      clear hR hlen hN0
      gi_wp2
      refine wpIn_region_any hmx ?_
      change wpAnyIn _ _ _ _ _ _ _ _ _ (World.drew _)
      refine wpAnyIn_take (i := 0) (v := .func (.yield l) #[] #[]) rfl rfl (by kernel_rfl) (by kernel_rfl) (by kernel_rfl) (fun _ _ _ h => h) ⟨Or.inl ⟨by rfl, ?_⟩, fun _ => rfl⟩ ?_
      · intro w; go_simp
      refine wpAnyIn_take (i := 2) (v := .int .i64 (k : Nat)) rfl rfl (by kernel_rfl) (by kernel_rfl) (by kernel_rfl) (fun _ _ _ h => h) ⟨Or.inl ⟨by rfl, ?_⟩, fun _ => rfl⟩ ?_
      · intro w; go_simp
      refine wpAnyIn_take (i := 6) (v := .int .i64 (N : Nat)) rfl rfl (by kernel_rfl) (by kernel_rfl) (by kernel_rfl) (fun _ _ _ h => h) ⟨Or.inl ⟨by rfl, ?_⟩, fun _ => rfl⟩ ?_
      · intro w; go_simp
      refine wpAnyIn_take (i := 8) (v := .int .i64 (k : Nat)) rfl rfl (by kernel_rfl) (by kernel_rfl) (by kernel_rfl) (fun _ _ _ h => h) ⟨Or.inl ⟨by rfl, ?_⟩, fun _ => rfl⟩ ?_
      · intro w; go_simp
      refine wpAnyIn_take (i := 9) (v := .int .i64 ((k + 1 : Nat) : Int)) rfl rfl (by kernel_rfl) (by kernel_rfl) (by kernel_rfl) (fun _ _ _ h => h) ⟨Or.inl ⟨by rfl, ?_⟩, fun _ => rfl⟩ ?_
      · intro w; go_simp
      refine wpAnyIn_take (i := 13) (v := .int .i64 (N : Nat)) rfl rfl (by kernel_rfl) (by kernel_rfl) (by kernel_rfl) (fun _ _ _ h => h) ⟨Or.inl ⟨by rfl, ?_⟩, fun _ => rfl⟩ ?_
      · intro w; go_simp
      refine wpAnyIn_ready (rs := [1, 3, 10]) (by kernel_rfl) (by simp) ?_
      refine (AllReadyIn.cons rfl (fun K hK => ?_) (AllReadyIn.cons rfl (fun K hK => ?_) (AllReadyIn.cons rfl (fun K hK => ?_) AllReadyIn.nil)))
      · go_simp
        refine hK _ _ ?_
        clear hK K
        refine wpAnyIn_ready (rs := [3, 10]) (by kernel_rfl) (by simp) ?_
        refine (AllReadyIn.cons rfl (fun K hK => ?_) (AllReadyIn.cons rfl (fun K hK => ?_) AllReadyIn.nil))
        · go_simp
          refine hK _ _ ?_
          clear hK K
          refine wpAnyIn_take (i := 4) (v := .int .i64 (s.size : Nat)) rfl rfl (by kernel_rfl) (by kernel_rfl) (by kernel_rfl) (fun _ _ _ h => h) ⟨Or.inl ⟨by rfl, ?_⟩, fun _ => rfl⟩ ?_
          · intro w; go_simp
          refine wpAnyIn_take (i := 5) (v := .int .i64 (A : Nat)) rfl rfl (by kernel_rfl) (by kernel_rfl) (by kernel_rfl) (fun _ _ _ h => h) ⟨Or.inl ⟨by rfl, ?_⟩, fun _ => rfl⟩ ?_
          · intro w; go_simp
          refine wpAnyIn_take (i := 7) (v := .int .i64 (a : Nat)) rfl rfl (by kernel_rfl) (by kernel_rfl) (by kernel_rfl) (fun _ _ _ h => h) ⟨Or.inl ⟨by rfl, ?_⟩, fun _ => rfl⟩ ?_
          · intro w; go_simp
          refine wpAnyIn_ready (rs := [10]) (by kernel_rfl) (by simp) ?_
          refine (AllReadyIn.cons rfl (fun K hK => ?_) AllReadyIn.nil)
          · go_simp
            refine hK _ _ ?_
            clear hK K
            refine wpAnyIn_take (i := 11) (v := .int .i64 (s.size : Nat)) rfl rfl (by kernel_rfl) (by kernel_rfl) (by kernel_rfl) (fun _ _ _ h => h) ⟨Or.inl ⟨by rfl, ?_⟩, fun _ => rfl⟩ ?_
            · intro w; go_simp
            refine wpAnyIn_take (i := 12) (v := .int .i64 (C : Nat)) rfl rfl (by kernel_rfl) (by kernel_rfl) (by kernel_rfl) (fun _ _ _ h => h) ⟨Or.inl ⟨by rfl, ?_⟩, fun _ => rfl⟩ ?_
            · intro w; go_simp
            refine wpAnyIn_take (i := 14) (v := .int .i64 (c : Nat)) rfl rfl (by kernel_rfl) (by kernel_rfl) (by kernel_rfl) (fun _ _ _ h => h) ⟨Or.inl ⟨by rfl, ?_⟩, fun _ => rfl⟩ ?_
            · intro w; go_simp
            refine wpAnyIn_take (i := 15) (v := .string (s.extract a c)) rfl rfl (by kernel_rfl) (by kernel_rfl) (by kernel_rfl) (fun _ _ _ h => h) ⟨Or.inl ⟨by rfl, ?_⟩, fun _ => rfl⟩ ?_
            · intro w; go_simp
            refine wpAnyIn_ready (rs := [16]) (by kernel_rfl) (by simp) ?_
            refine AllReadyIn.cons rfl (fun K hK => ?_) AllReadyIn.nil
            go_simp
            gi_wp2_with ((with_reducible refine hR'.out.mono ?_); intro e W3 h3; obtain ⟨b, rfl, hb⟩ := said_bool h3; clear h3)
            rcases hb with ⟨rfl, hJ3, hk3⟩ | ⟨rfl, hJx3⟩
            · have hc3 : W3.cell? ⟨Bn, 0, none⟩ = some (.string s) := hk3.2.trans hc1
              have HJ3 := Lib.hid hJ3
              clear hJ3 hk3 hc1 hy hc
              refine wpAnyIn_take (i := 17) (v := .bool false) rfl rfl (by kernel_rfl) (by kernel_rfl) (by kernel_rfl) (fun _ _ _ h => h) ⟨Or.inl ⟨by rfl, ?_⟩, fun _ => rfl⟩ ?_
              · intro w; go_simp
              refine wpAnyIn_done (by kernel_rfl) ?_ _
              gi_wp2
              go_roundw
              case rel => exact ⟨k + 1, by go_num, by omega, hc3, Lib.hid (by rw [List.range_succ, List.map_append, List.map_cons, List.map_nil, HP.out]; exact HJ3.out)⟩
              case measure => simp [intOf]; omega
            · refine wpAnyIn_take (i := 17) (v := .bool true) rfl rfl (by kernel_rfl) (by kernel_rfl) (by kernel_rfl) (fun _ _ _ h => h) ⟨Or.inl ⟨by rfl, ?_⟩, fun _ => rfl⟩ ?_
              · intro w; go_simp
              refine wpAnyIn_done (by kernel_rfl) ?_ _
              gi_wp2
              refine bodyPost_ret (results_none rfl _ _ _) rfl ?_
              exact ⟨⟨_, rfl⟩, .inr ⟨_, pcs_prefix (by rw [HN.out]; omega) HP.out, hJx3⟩⟩
        · go_simp
          refine hK _ _ ?_
          clear hK K
          refine wpAnyIn_take (i := 11) (v := .int .i64 (s.size : Nat)) rfl rfl (by kernel_rfl) (by kernel_rfl) (by kernel_rfl) (fun _ _ _ h => h) ⟨Or.inl ⟨by rfl, ?_⟩, fun _ => rfl⟩ ?_
          · intro w; go_simp
          refine wpAnyIn_take (i := 12) (v := .int .i64 (C : Nat)) rfl rfl (by kernel_rfl) (by kernel_rfl) (by kernel_rfl) (fun _ _ _ h => h) ⟨Or.inl ⟨by rfl, ?_⟩, fun _ => rfl⟩ ?_
          · intro w; go_simp
          refine wpAnyIn_take (i := 14) (v := .int .i64 (c : Nat)) rfl rfl (by kernel_rfl) (by kernel_rfl) (by kernel_rfl) (fun _ _ _ h => h) ⟨Or.inl ⟨by rfl, ?_⟩, fun _ => rfl⟩ ?_
          · intro w; go_simp
          refine wpAnyIn_ready (rs := [3]) (by kernel_rfl) (by simp) ?_
          refine (AllReadyIn.cons rfl (fun K hK => ?_) AllReadyIn.nil)
          · go_simp
            refine hK _ _ ?_
            clear hK K
            refine wpAnyIn_take (i := 4) (v := .int .i64 (s.size : Nat)) rfl rfl (by kernel_rfl) (by kernel_rfl) (by kernel_rfl) (fun _ _ _ h => h) ⟨Or.inl ⟨by rfl, ?_⟩, fun _ => rfl⟩ ?_
            · intro w; go_simp
            refine wpAnyIn_take (i := 5) (v := .int .i64 (A : Nat)) rfl rfl (by kernel_rfl) (by kernel_rfl) (by kernel_rfl) (fun _ _ _ h => h) ⟨Or.inl ⟨by rfl, ?_⟩, fun _ => rfl⟩ ?_
            · intro w; go_simp
            refine wpAnyIn_take (i := 7) (v := .int .i64 (a : Nat)) rfl rfl (by kernel_rfl) (by kernel_rfl) (by kernel_rfl) (fun _ _ _ h => h) ⟨Or.inl ⟨by rfl, ?_⟩, fun _ => rfl⟩ ?_
            · intro w; go_simp
            refine wpAnyIn_take (i := 15) (v := .string (s.extract a c)) rfl rfl (by kernel_rfl) (by kernel_rfl) (by kernel_rfl) (fun _ _ _ h => h) ⟨Or.inl ⟨by rfl, ?_⟩, fun _ => rfl⟩ ?_
            · intro w; go_simp
            refine wpAnyIn_ready (rs := [16]) (by kernel_rfl) (by simp) ?_
            refine AllReadyIn.cons rfl (fun K hK => ?_) AllReadyIn.nil
            go_simp
            gi_wp2_with ((with_reducible refine hR'.out.mono ?_); intro e W3 h3; obtain ⟨b, rfl, hb⟩ := said_bool h3; clear h3)
            rcases hb with ⟨rfl, hJ3, hk3⟩ | ⟨rfl, hJx3⟩
            · have hc3 : W3.cell? ⟨Bn, 0, none⟩ = some (.string s) := hk3.2.trans hc1
              have HJ3 := Lib.hid hJ3
              clear hJ3 hk3 hc1 hy hc
              refine wpAnyIn_take (i := 17) (v := .bool false) rfl rfl (by kernel_rfl) (by kernel_rfl) (by kernel_rfl) (fun _ _ _ h => h) ⟨Or.inl ⟨by rfl, ?_⟩, fun _ => rfl⟩ ?_
              · intro w; go_simp
              refine wpAnyIn_done (by kernel_rfl) ?_ _
              gi_wp2
              go_roundw
              case rel => exact ⟨k + 1, by go_num, by omega, hc3, Lib.hid (by rw [List.range_succ, List.map_append, List.map_cons, List.map_nil, HP.out]; exact HJ3.out)⟩
              case measure => simp [intOf]; omega
            · refine wpAnyIn_take (i := 17) (v := .bool true) rfl rfl (by kernel_rfl) (by kernel_rfl) (by kernel_rfl) (fun _ _ _ h => h) ⟨Or.inl ⟨by rfl, ?_⟩, fun _ => rfl⟩ ?_
              · intro w; go_simp
              refine wpAnyIn_done (by kernel_rfl) ?_ _
              gi_wp2
              refine bodyPost_ret (results_none rfl _ _ _) rfl ?_
              exact ⟨⟨_, rfl⟩, .inr ⟨_, pcs_prefix (by rw [HN.out]; omega) HP.out, hJx3⟩⟩
      · go_simp
        refine hK _ _ ?_
        clear hK K
        refine wpAnyIn_take (i := 4) (v := .int .i64 (s.size : Nat)) rfl rfl (by kernel_rfl) (by kernel_rfl) (by kernel_rfl) (fun _ _ _ h => h) ⟨Or.inl ⟨by rfl, ?_⟩, fun _ => rfl⟩ ?_
        · intro w; go_simp
        refine wpAnyIn_take (i := 5) (v := .int .i64 (A : Nat)) rfl rfl (by kernel_rfl) (by kernel_rfl) (by kernel_rfl) (fun _ _ _ h => h) ⟨Or.inl ⟨by rfl, ?_⟩, fun _ => rfl⟩ ?_
        · intro w; go_simp
        refine wpAnyIn_take (i := 7) (v := .int .i64 (a : Nat)) rfl rfl (by kernel_rfl) (by kernel_rfl) (by kernel_rfl) (fun _ _ _ h => h) ⟨Or.inl ⟨by rfl, ?_⟩, fun _ => rfl⟩ ?_
        · intro w; go_simp
        refine wpAnyIn_ready (rs := [1, 10]) (by kernel_rfl) (by simp) ?_
        refine (AllReadyIn.cons rfl (fun K hK => ?_) (AllReadyIn.cons rfl (fun K hK => ?_) AllReadyIn.nil))
        · go_simp
          refine hK _ _ ?_
          clear hK K
          refine wpAnyIn_ready (rs := [10]) (by kernel_rfl) (by simp) ?_
          refine (AllReadyIn.cons rfl (fun K hK => ?_) AllReadyIn.nil)
          · go_simp
            refine hK _ _ ?_
            clear hK K
            refine wpAnyIn_take (i := 11) (v := .int .i64 (s.size : Nat)) rfl rfl (by kernel_rfl) (by kernel_rfl) (by kernel_rfl) (fun _ _ _ h => h) ⟨Or.inl ⟨by rfl, ?_⟩, fun _ => rfl⟩ ?_
            · intro w; go_simp
            refine wpAnyIn_take (i := 12) (v := .int .i64 (C : Nat)) rfl rfl (by kernel_rfl) (by kernel_rfl) (by kernel_rfl) (fun _ _ _ h => h) ⟨Or.inl ⟨by rfl, ?_⟩, fun _ => rfl⟩ ?_
            · intro w; go_simp
            refine wpAnyIn_take (i := 14) (v := .int .i64 (c : Nat)) rfl rfl (by kernel_rfl) (by kernel_rfl) (by kernel_rfl) (fun _ _ _ h => h) ⟨Or.inl ⟨by rfl, ?_⟩, fun _ => rfl⟩ ?_
            · intro w; go_simp
            refine wpAnyIn_take (i := 15) (v := .string (s.extract a c)) rfl rfl (by kernel_rfl) (by kernel_rfl) (by kernel_rfl) (fun _ _ _ h => h) ⟨Or.inl ⟨by rfl, ?_⟩, fun _ => rfl⟩ ?_
            · intro w; go_simp
            refine wpAnyIn_ready (rs := [16]) (by kernel_rfl) (by simp) ?_
            refine AllReadyIn.cons rfl (fun K hK => ?_) AllReadyIn.nil
            go_simp
            gi_wp2_with ((with_reducible refine hR'.out.mono ?_); intro e W3 h3; obtain ⟨b, rfl, hb⟩ := said_bool h3; clear h3)
            rcases hb with ⟨rfl, hJ3, hk3⟩ | ⟨rfl, hJx3⟩
            · have hc3 : W3.cell? ⟨Bn, 0, none⟩ = some (.string s) := hk3.2.trans hc1
              have HJ3 := Lib.hid hJ3
              clear hJ3 hk3 hc1 hy hc
              refine wpAnyIn_take (i := 17) (v := .bool false) rfl rfl (by kernel_rfl) (by kernel_rfl) (by kernel_rfl) (fun _ _ _ h => h) ⟨Or.inl ⟨by rfl, ?_⟩, fun _ => rfl⟩ ?_
              · intro w; go_simp
              refine wpAnyIn_done (by kernel_rfl) ?_ _
              gi_wp2
              go_roundw
              case rel => exact ⟨k + 1, by go_num, by omega, hc3, Lib.hid (by rw [List.range_succ, List.map_append, List.map_cons, List.map_nil, HP.out]; exact HJ3.out)⟩
              case measure => simp [intOf]; omega
            · refine wpAnyIn_take (i := 17) (v := .bool true) rfl rfl (by kernel_rfl) (by kernel_rfl) (by kernel_rfl) (fun _ _ _ h => h) ⟨Or.inl ⟨by rfl, ?_⟩, fun _ => rfl⟩ ?_
              · intro w; go_simp
              refine wpAnyIn_done (by kernel_rfl) ?_ _
              gi_wp2
              refine bodyPost_ret (results_none rfl _ _ _) rfl ?_
              exact ⟨⟨_, rfl⟩, .inr ⟨_, pcs_prefix (by rw [HN.out]; omega) HP.out, hJx3⟩⟩
        · go_simp
          refine hK _ _ ?_
          clear hK K
          refine wpAnyIn_take (i := 11) (v := .int .i64 (s.size : Nat)) rfl rfl (by kernel_rfl) (by kernel_rfl) (by kernel_rfl) (fun _ _ _ h => h) ⟨Or.inl ⟨by rfl, ?_⟩, fun _ => rfl⟩ ?_
          · intro w; go_simp
          refine wpAnyIn_take (i := 12) (v := .int .i64 (C : Nat)) rfl rfl (by kernel_rfl) (by kernel_rfl) (by kernel_rfl) (fun _ _ _ h => h) ⟨Or.inl ⟨by rfl, ?_⟩, fun _ => rfl⟩ ?_
          · intro w; go_simp
          refine wpAnyIn_take (i := 14) (v := .int .i64 (c : Nat)) rfl rfl (by kernel_rfl) (by kernel_rfl) (by kernel_rfl) (fun _ _ _ h => h) ⟨Or.inl ⟨by rfl, ?_⟩, fun _ => rfl⟩ ?_
          · intro w; go_simp
          refine wpAnyIn_ready (rs := [1]) (by kernel_rfl) (by simp) ?_
          refine (AllReadyIn.cons rfl (fun K hK => ?_) AllReadyIn.nil)
          · go_simp
            refine hK _ _ ?_
            clear hK K
            refine wpAnyIn_take (i := 15) (v := .string (s.extract a c)) rfl rfl (by kernel_rfl) (by kernel_rfl) (by kernel_rfl) (fun _ _ _ h => h) ⟨Or.inl ⟨by rfl, ?_⟩, fun _ => rfl⟩ ?_
            · intro w; go_simp
            refine wpAnyIn_ready (rs := [16]) (by kernel_rfl) (by simp) ?_
            refine AllReadyIn.cons rfl (fun K hK => ?_) AllReadyIn.nil
            go_simp
            gi_wp2_with ((with_reducible refine hR'.out.mono ?_); intro e W3 h3; obtain ⟨b, rfl, hb⟩ := said_bool h3; clear h3)
            rcases hb with ⟨rfl, hJ3, hk3⟩ | ⟨rfl, hJx3⟩
            · have hc3 : W3.cell? ⟨Bn, 0, none⟩ = some (.string s) := hk3.2.trans hc1
              have HJ3 := Lib.hid hJ3
              clear hJ3 hk3 hc1 hy hc
              refine wpAnyIn_take (i := 17) (v := .bool false) rfl rfl (by kernel_rfl) (by kernel_rfl) (by kernel_rfl) (fun _ _ _ h => h) ⟨Or.inl ⟨by rfl, ?_⟩, fun _ => rfl⟩ ?_
              · intro w; go_simp
              refine wpAnyIn_done (by kernel_rfl) ?_ _
              gi_wp2
              go_roundw
              case rel => exact ⟨k + 1, by go_num, by omega, hc3, Lib.hid (by rw [List.range_succ, List.map_append, List.map_cons, List.map_nil, HP.out]; exact HJ3.out)⟩
              case measure => simp [intOf]; omega
            · refine wpAnyIn_take (i := 17) (v := .bool true) rfl rfl (by kernel_rfl) (by kernel_rfl) (by kernel_rfl) (fun _ _ _ h => h) ⟨Or.inl ⟨by rfl, ?_⟩, fun _ => rfl⟩ ?_
              · intro w; go_simp
              refine wpAnyIn_done (by kernel_rfl) ?_ _
              gi_wp2
              refine bodyPost_ret (results_none rfl _ _ _) rfl ?_
              exact ⟨⟨_, rfl⟩, .inr ⟨_, pcs_prefix (by rw [HN.out]; omega) HP.out, hJx3⟩⟩
      · go_simp
        refine hK _ _ ?_
        clear hK K
        refine wpAnyIn_take (i := 11) (v := .int .i64 (s.size : Nat)) rfl rfl (by kernel_rfl) (by kernel_rfl) (by kernel_rfl) (fun _ _ _ h => h) ⟨Or.inl ⟨by rfl, ?_⟩, fun _ => rfl⟩ ?_
        · intro w; go_simp
        refine wpAnyIn_take (i := 12) (v := .int .i64 (C : Nat)) rfl rfl (by kernel_rfl) (by kernel_rfl) (by kernel_rfl) (fun _ _ _ h => h) ⟨Or.inl ⟨by rfl, ?_⟩, fun _ => rfl⟩ ?_
        · intro w; go_simp
        refine wpAnyIn_take (i := 14) (v := .int .i64 (c : Nat)) rfl rfl (by kernel_rfl) (by kernel_rfl) (by kernel_rfl) (fun _ _ _ h => h) ⟨Or.inl ⟨by rfl, ?_⟩, fun _ => rfl⟩ ?_
        · intro w; go_simp
        refine wpAnyIn_ready (rs := [1, 3]) (by kernel_rfl) (by simp) ?_
        refine (AllReadyIn.cons rfl (fun K hK => ?_) (AllReadyIn.cons rfl (fun K hK => ?_) AllReadyIn.nil))
        · go_simp
          refine hK _ _ ?_
          clear hK K
          refine wpAnyIn_ready (rs := [3]) (by kernel_rfl) (by simp) ?_
          refine (AllReadyIn.cons rfl (fun K hK => ?_) AllReadyIn.nil)
          · go_simp
            refine hK _ _ ?_
            clear hK K
            refine wpAnyIn_take (i := 4) (v := .int .i64 (s.size : Nat)) rfl rfl (by kernel_rfl) (by kernel_rfl) (by kernel_rfl) (fun _ _ _ h => h) ⟨Or.inl ⟨by rfl, ?_⟩, fun _ => rfl⟩ ?_
            · intro w; go_simp
            refine wpAnyIn_take (i := 5) (v := .int .i64 (A : Nat)) rfl rfl (by kernel_rfl) (by kernel_rfl) (by kernel_rfl) (fun _ _ _ h => h) ⟨Or.inl ⟨by rfl, ?_⟩, fun _ => rfl⟩ ?_
            · intro w; go_simp
            refine wpAnyIn_take (i := 7) (v := .int .i64 (a : Nat)) rfl rfl (by kernel_rfl) (by kernel_rfl) (by kernel_rfl) (fun _ _ _ h => h) ⟨Or.inl ⟨by rfl, ?_⟩, fun _ => rfl⟩ ?_
            · intro w; go_simp
            refine wpAnyIn_take (i := 15) (v := .string (s.extract a c)) rfl rfl (by kernel_rfl) (by kernel_rfl) (by kernel_rfl) (fun _ _ _ h => h) ⟨Or.inl ⟨by rfl, ?_⟩, fun _ => rfl⟩ ?_
            · intro w; go_simp
            refine wpAnyIn_ready (rs := [16]) (by kernel_rfl) (by simp) ?_
            refine AllReadyIn.cons rfl (fun K hK => ?_) AllReadyIn.nil
            go_simp
            gi_wp2_with ((with_reducible refine hR'.out.mono ?_); intro e W3 h3; obtain ⟨b, rfl, hb⟩ := said_bool h3; clear h3)
            rcases hb with ⟨rfl, hJ3, hk3⟩ | ⟨rfl, hJx3⟩
            · have hc3 : W3.cell? ⟨Bn, 0, none⟩ = some (.string s) := hk3.2.trans hc1
              have HJ3 := Lib.hid hJ3
              clear hJ3 hk3 hc1 hy hc
              refine wpAnyIn_take (i := 17) (v := .bool false) rfl rfl (by kernel_rfl) (by kernel_rfl) (by kernel_rfl) (fun _ _ _ h => h) ⟨Or.inl ⟨by rfl, ?_⟩, fun _ => rfl⟩ ?_
              · intro w; go_simp
              refine wpAnyIn_done (by kernel_rfl) ?_ _
              gi_wp2
              go_roundw
              case rel => exact ⟨k + 1, by go_num, by omega, hc3, Lib.hid (by rw [List.range_succ, List.map_append, List.map_cons, List.map_nil, HP.out]; exact HJ3.out)⟩
              case measure => simp [intOf]; omega
            · refine wpAnyIn_take (i := 17) (v := .bool true) rfl rfl (by kernel_rfl) (by kernel_rfl) (by kernel_rfl) (fun _ _ _ h => h) ⟨Or.inl ⟨by rfl, ?_⟩, fun _ => rfl⟩ ?_
              · intro w; go_simp
              refine wpAnyIn_done (by kernel_rfl) ?_ _
              gi_wp2
              refine bodyPost_ret (results_none rfl _ _ _) rfl ?_
              exact ⟨⟨_, rfl⟩, .inr ⟨_, pcs_prefix (by rw [HN.out]; omega) HP.out, hJx3⟩⟩
        · go_simp
          refine hK _ _ ?_
          clear hK K
          refine wpAnyIn_take (i := 4) (v := .int .i64 (s.size : Nat)) rfl rfl (by kernel_rfl) (by kernel_rfl) (by kernel_rfl) (fun _ _ _ h => h) ⟨Or.inl ⟨by rfl, ?_⟩, fun _ => rfl⟩ ?_
          · intro w; go_simp
          refine wpAnyIn_take (i := 5) (v := .int .i64 (A : Nat)) rfl rfl (by kernel_rfl) (by kernel_rfl) (by kernel_rfl) (fun _ _ _ h => h) ⟨Or.inl ⟨by rfl, ?_⟩, fun _ => rfl⟩ ?_
          · intro w; go_simp
          refine wpAnyIn_take (i := 7) (v := .int .i64 (a : Nat)) rfl rfl (by kernel_rfl) (by kernel_rfl) (by kernel_rfl) (fun _ _ _ h => h) ⟨Or.inl ⟨by rfl, ?_⟩, fun _ => rfl⟩ ?_
          · intro w; go_simp
          refine wpAnyIn_ready (rs := [1]) (by kernel_rfl) (by simp) ?_
          refine (AllReadyIn.cons rfl (fun K hK => ?_) AllReadyIn.nil)
          · go_simp
            refine hK _ _ ?_
            clear hK K
            refine wpAnyIn_take (i := 15) (v := .string (s.extract a c)) rfl rfl (by kernel_rfl) (by kernel_rfl) (by kernel_rfl) (fun _ _ _ h => h) ⟨Or.inl ⟨by rfl, ?_⟩, fun _ => rfl⟩ ?_
            · intro w; go_simp
            refine wpAnyIn_ready (rs := [16]) (by kernel_rfl) (by simp) ?_
            refine AllReadyIn.cons rfl (fun K hK => ?_) AllReadyIn.nil
            go_simp
            gi_wp2_with ((with_reducible refine hR'.out.mono ?_); intro e W3 h3; obtain ⟨b, rfl, hb⟩ := said_bool h3; clear h3)
            rcases hb with ⟨rfl, hJ3, hk3⟩ | ⟨rfl, hJx3⟩
            · have hc3 : W3.cell? ⟨Bn, 0, none⟩ = some (.string s) := hk3.2.trans hc1
              have HJ3 := Lib.hid hJ3
              clear hJ3 hk3 hc1 hy hc
              refine wpAnyIn_take (i := 17) (v := .bool false) rfl rfl (by kernel_rfl) (by kernel_rfl) (by kernel_rfl) (fun _ _ _ h => h) ⟨Or.inl ⟨by rfl, ?_⟩, fun _ => rfl⟩ ?_
              · intro w; go_simp
              refine wpAnyIn_done (by kernel_rfl) ?_ _
              gi_wp2
              go_roundw
              case rel => exact ⟨k + 1, by go_num, by omega, hc3, Lib.hid (by rw [List.range_succ, List.map_append, List.map_cons, List.map_nil, HP.out]; exact HJ3.out)⟩
              case measure => simp [intOf]; omega
            · refine wpAnyIn_take (i := 17) (v := .bool true) rfl rfl (by kernel_rfl) (by kernel_rfl) (by kernel_rfl) (fun _ _ _ h => h) ⟨Or.inl ⟨by rfl, ?_⟩, fun _ => rfl⟩ ?_
              · intro w; go_simp
              refine wpAnyIn_done (by kernel_rfl) ?_ _
              gi_wp2
              refine bodyPost_ret (results_none rfl _ _ _) rfl ?_
              exact ⟨⟨_, rfl⟩, .inr ⟨_, pcs_prefix (by rw [HN.out]; omega) HP.out, hJx3⟩⟩
    · have hNk : Hid (k = N) := Lib.hid (by omega)
      have hge : (N : Int) ≤ k := by omega
      gi_wp2
      go_end0
      exact ⟨⟨_, rfl⟩, .inl ⟨_, by unfold pcsv; rw [HN.out, hNk.out], hJs.out⟩⟩

set_option maxHeartbeats 1000000 in
theorem pieces_any (s : ByteArray) (w : World) :
    Calls Tryd.prog 39 #[.string s] w fun e w' => e = .returned (.func (.func 51) #[] #[.pointer (some ⟨w.heap.size, 0, none⟩)]) ∧ w' = w.alloc (.cells #[.string s] 9) := by
  go_enter Tryd.func39, Tryd.ntmps39
  go_wp2
  go_ret
  exact ⟨rfl, rfl⟩

theorem pieces_stops (n : Nat) (hn : 1 ≤ n) (Bn n₀ : Nat) (s : ByteArray) (hs : (s.size : Int) ≤ 1048576) (w : World) (hc : w.cell? ⟨Bn, 0, none⟩ = some (.string s)) :
    SeqStopsK Fence.wide n Tryd.prog 51 #[.pointer (some ⟨Bn, 0, none⟩)] encPc (KpS n₀ Bn) (fun ys => ys = pcsv s hs) (fun pre => pre <+: pcsv s hs) (pcn s) w := fun l J Jx W hW hJ _ hY h0 =>
  pieces1_in n hn l Bn n₀ s hs J Jx _ hJ hY W ((hW.cell (p := ⟨Bn, 0, none⟩) (cell_lt hc)).trans hc) h0
end Go.Proofs.YtcbmigkdmmmahaaDoor
