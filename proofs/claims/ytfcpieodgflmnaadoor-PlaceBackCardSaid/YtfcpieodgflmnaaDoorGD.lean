/- The pieces that a text is cut into, and the program's iterator over them: for every loop body that keeps the text's place. The pieces of a text: put together they are the text, and each has what a leaf may have. The program's stack: a tree of a row of leaves. -/
import Derived.RangeFuncNested
import Derived.RangeFuncBound
import Derived.RangeFuncCalls
import Derived.RangeFuncLeaves
import Derived.Shelf.Abstract
import Derived.Shelf.RegionOpen
import Derived.WalkKit
import Derived.OwnWalkIn
import Derived.TacticsInMore
import Derived.LoopNIn
import Derived.LoopIn
import Derived.Test.YtfcpieodgflmnaaDoorGB
import Derived.Test.YtfcpieodgflmnaaDoorGC
namespace Go.Proofs.YtfcpieodgflmnaaDoor
open Go.RowKit Go.Shelf
attribute [local go_sem] Oper.semAt_some

/-- How many pieces, and each. -/
def pcn (s : ByteArray) : Nat := (s.size + 511) / 512
def pc (s : ByteArray) (i : Nat) : ByteArray := s.extract (i * s.size / pcn s) ((i + 1) * s.size / pcn s)
def pcs (s : ByteArray) : List ByteArray := (List.range (pcn s)).map (pc s)

/-- A text that is not too long. -/
def Pc : Type := { x : ByteArray // (x.size : Int) ≤ 1048576 }
abbrev encPc (x : Pc) : Array Value := #[.string x.1]
theorem pc_size (s : ByteArray) (i : Nat) : (pc s i).size ≤ s.size := by unfold pc; rw [ByteArray.size_extract]; exact Nat.le_trans (Nat.sub_le _ _) (Nat.min_le_right _ _)
def pcv (s : ByteArray) (hs : (s.size : Int) ≤ 1048576) (i : Nat) : Pc := ⟨pc s i, by have := pc_size s i; omega⟩
def pcsv (s : ByteArray) (hs : (s.size : Int) ≤ 1048576) : List Pc := (List.range (pcn s)).map (pcv s hs)
theorem pcsv_map (s : ByteArray) (hs : (s.size : Int) ≤ 1048576) : (pcsv s hs).map (·.1) = pcs s := by unfold pcsv pcs; rw [List.map_map]; rfl

theorem pcs_prefix {s : ByteArray} {hs : (s.size : Int) ≤ 1048576} {x : Pc} {k : Nat} (h : k < pcn s) (hx : pcv s hs k = x) : (List.range k).map (pcv s hs) ++ [x] <+: pcsv s hs := by
  refine ⟨((List.range (pcn s)).drop (k + 1)).map (pcv s hs), ?_⟩
  rw [← hx]
  unfold pcsv
  have e : List.range (pcn s) = List.range k ++ [k] ++ (List.range (pcn s)).drop (k + 1) := by
    conv => lhs; rw [← List.take_append_drop (k + 1) (List.range (pcn s))]
    congr 1
    rw [List.take_range, show min (k + 1) (pcn s) = k + 1 from by omega, List.range_succ]
  conv => rhs; rw [e]
  simp
theorem said_bool {e : Ending} {A B : Prop} (h : (e = .returned (.bool true) ∧ A) ∨ (e = .returned (.bool false) ∧ B)) : ∃ b : Bool, e = .returned (.bool b) ∧ ((b = true ∧ A) ∨ (b = false ∧ B)) := by
  rcases h with ⟨h1, h2⟩ | ⟨h1, h2⟩
  · exact ⟨true, h1, .inl ⟨rfl, h2⟩⟩
  · exact ⟨false, h1, .inr ⟨rfl, h2⟩⟩
set_option maxRecDepth 100000 in
set_option maxHeartbeats 4000000 in
theorem pieces1_in (n : Nat) (hn : 1 ≤ n) (l Bn n₀ : Nat) (s : ByteArray) (hs : (s.size : Int) ≤ 1048576) (J Jx : List Pc → World → Prop) (B : Nat) (hJ : AbidesFrom B J)
    (hY : ∀ pre (x : Pc) W, J pre W → pre.length < pcn s → YieldAt Fence.wide (n - 1) Tryd.prog l (encPc x) W fun e W' =>
      (e = .returned (.bool true) ∧ J (pre ++ [x]) W' ∧ KpS n₀ Bn W W') ∨ (e = .returned (.bool false) ∧ Jx (pre ++ [x]) W'))
    (W : World) (hBn : W.cell? ⟨Bn, 0, none⟩ = some (.string s)) (h0 : J [] W) :
    CallsIn Fence.wide n Tryd.prog 55 #[.func (.yield l) #[] #[], .pointer (some ⟨Bn, 0, none⟩)] W fun e W' => (∃ v, e = .returned v) ∧
      ((∃ ys, ys = pcsv s hs ∧ J ys W') ∨ (∃ pre, pre <+: pcsv s hs ∧ Jx pre W')) := by
  obtain ⟨N, hN⟩ : ∃ N, pcn s = N := ⟨_, rfl⟩
  have hNd : N = (s.size + 511) / 512 := hN.symm
  have e1 : IntKind.i64.wrap ((s.size : Int) + 512) = (s.size : Int) + 512 := IntWalk.i64_in _ (by omega)
  have e3 : ((s.size : Int) + 512 - 1) / 512 = (N : Int) := by omega
  have hN0 : (N : Int) ≤ 2049 := by omega
  have HN := Lib.hid hN
  clear hNd hN
  refine callsIn_of_wp Tryd.func55 rfl trivial ?_ rfl
  simp only [Tryd.ntmps55, List.size_toArray, List.length_cons, List.length_nil, Nat.reduceAdd, Nat.reduceSub, Array.replicate_succ, Array.replicate_zero, List.push_toArray, List.append_toArray, List.nil_append, List.cons_append]
  gi_wp2
  simp only [e3]
  clear e3
  gi_loopw [11] (fun iv wr => ∃ (k : Nat), iv = .int .i64 (k : Nat) ∧ k ≤ N ∧ wr.cell? ⟨Bn, 0, none⟩ = some (.string s) ∧ Hid (J ((List.range k).map (pcv s hs)) wr))
    (fun iv _ => N - (intOf iv).toNat)
  case atStart => exact ⟨0, rfl, by omega, hBn, Lib.hid h0⟩
  case round =>
    obtain ⟨k, rfl, hk, hc, hJs⟩ := hrel
    by_cases hlt : k < N
    · have a1 : IntKind.i64.wrap ((k : Int) + 1) = ((k + 1 : Nat) : Int) := (IntWalk.i64_in _ (by omega)).trans (by omega)
      have hkb : k * s.size ≤ 2049 * 1048576 := Nat.mul_le_mul (by omega) (by omega)
      have hkb2 : (k + 1) * s.size ≤ 2049 * 1048576 := Nat.mul_le_mul (by omega) (by omega)
      obtain ⟨A, hA⟩ : ∃ A, k * s.size = A := ⟨_, rfl⟩
      obtain ⟨C, hC⟩ : ∃ C, (k + 1) * s.size = C := ⟨_, rfl⟩
      rw [hA] at hkb
      rw [hC] at hkb2
      obtain ⟨a, ha⟩ : ∃ a, A / N = a := ⟨_, rfl⟩
      obtain ⟨c, hcc⟩ : ∃ c, C / N = c := ⟨_, rfl⟩
      have hac : a ≤ c := by rw [← ha, ← hcc]; exact Nat.div_le_div_right (by rw [← hA, ← hC]; exact Nat.mul_le_mul_right _ (by omega))
      have hcs : c ≤ s.size := by rw [← hcc, ← hC]; exact Nat.div_le_of_le_mul (Nat.mul_le_mul_right _ (by omega))
      have m1 : IntKind.i64.wrap ((k : Int) * s.size) = (A : Int) := (IntWalk.i64_in _ (by rw [← Int.natCast_mul, hA]; omega)).trans (by rw [← Int.natCast_mul, hA])
      have m2 : IntKind.i64.wrap (((k + 1 : Nat) : Int) * s.size) = (C : Int) := (IntWalk.i64_in _ (by rw [← Int.natCast_mul, hC]; omega)).trans (by rw [← Int.natCast_mul, hC])
      have m3 : IntKind.i64.wrap (((k : Int) + 1) * s.size) = (C : Int) := by rw [← m2, Int.natCast_add]; rfl
      have q1 : (A : Int).tdiv N = (a : Int) := by rw [← ha]; exact Int.ofNat_tdiv _ _
      have q2 : (C : Int).tdiv N = (c : Int) := by rw [← hcc]; exact Int.ofNat_tdiv _ _
      have r1 : IntKind.i64.wrap (a : Int) = a := IntWalk.i64_in _ (by omega)
      have r2 : IntKind.i64.wrap (c : Int) = c := IntWalk.i64_in _ (by omega)
      have z0 : ((N : Int) == 0) = false := by simp; omega
      have z1 : ¬ ((N : Int) = 0) := by omega
      have z2 : ¬ (N = 0) := by omega
      have b0 : (0 : Int) ≤ a := by omega
      have b1 : (a : Int) ≤ c := by omega
      have b2 : (c : Int) ≤ s.size := by omega
      have hx1 : ((s.extract a c).size : Int) ≤ 1048576 := by rw [ByteArray.size_extract]; omega
      have HP : Hid (pcv s hs k = (⟨s.extract a c, hx1⟩ : Pc)) := Lib.hid (Subtype.ext (by show pc s k = _; unfold pc; rw [HN.out, hA, hC, ha, hcc]))
      have hlt' : (k : Int) < N := by omega
      clear hkb hkb2 hA hC ha hcc hac hcs hk hlt
      have hmx : Tryd.prog.follows .mixedOrders = true := by kernel_rfl
      have hlen : ((List.range k).map (pcv s hs)).length < pcn s := by rw [List.length_map, List.length_range, HN.out]; omega
      have hc1 : wr.drew.cell? ⟨Bn, 0, none⟩ = some (.string s) := hc
      obtain ⟨fn, tmps, assign, body, hy, hR⟩ := hY _ (⟨s.extract a c, hx1⟩ : Pc) wr.drew (hJ _ wr wr.drew none hJs.out (Up.drew wr).grownBy (fun r e => by cases e)) hlen
      dsimp only [encPc] at hy
      have hR' := Lib.hid hR
      clear hR hlen hN0
      gi_wp2
      refine wpIn_region_any hmx ?_
      change wpAnyIn _ _ _ _ _ _ _ _ _ (World.drew _)
      refine wpAnyIn_take (i := 0) (v := .func (.yield l) #[] #[]) rfl rfl (by kernel_rfl) (by kernel_rfl) (by kernel_rfl) (fun _ _ _ h => h) ⟨Or.inl ⟨by rfl, ?_⟩, fun _ => rfl⟩ ?_
      · intro w; go_simp
      refine wpAnyIn_take (i := 2) (v := .int .i64 (k : Nat)) rfl rfl (by kernel_rfl) (by kernel_rfl) (by kernel_rfl) (fun _ _ _ h => h) ⟨Or.inl ⟨by rfl, ?_⟩, fun _ => rfl⟩ ?_
      · intro w; go_simp
      refine wpAnyIn_take (i := 6) (v := .int .i64 (N : Nat)) rfl rfl (by kernel_rfl) (by kernel_rfl) (by kernel_rfl) (fun _ _ _ h => h) ⟨Or.inl ⟨by rfl, ?_⟩, fun _ => rfl⟩ ?_
      · intro w; go_simp
      refine wpAnyIn_take (i := 8) (v := .int .i64 (k : Nat)) rfl rfl (by kernel_rfl) (by kernel_rfl) (by kernel_rfl) (fun _ _ _ h => h) ⟨Or.inl ⟨by rfl, ?_⟩, fun _ => rfl⟩ ?_
      · intro w; go_simp
      refine wpAnyIn_take (i := 9) (v := .int .i64 ((k + 1 : Nat) : Int)) rfl rfl (by kernel_rfl) (by kernel_rfl) (by kernel_rfl) (fun _ _ _ h => h) ⟨Or.inl ⟨by rfl, ?_⟩, fun _ => rfl⟩ ?_
      · intro w; go_simp
      refine wpAnyIn_take (i := 13) (v := .int .i64 (N : Nat)) rfl rfl (by kernel_rfl) (by kernel_rfl) (by kernel_rfl) (fun _ _ _ h => h) ⟨Or.inl ⟨by rfl, ?_⟩, fun _ => rfl⟩ ?_
      · intro w; go_simp
      refine wpAnyIn_ready (rs := [1, 3, 10]) (by kernel_rfl) (by simp) ?_
      refine (AllReadyIn.cons rfl (fun K hK => ?_) (AllReadyIn.cons rfl (fun K hK => ?_) (AllReadyIn.cons rfl (fun K hK => ?_) AllReadyIn.nil)))
      · go_simp
        refine hK _ _ ?_
        clear hK K
        refine wpAnyIn_ready (rs := [3, 10]) (by kernel_rfl) (by simp) ?_
        refine (AllReadyIn.cons rfl (fun K hK => ?_) (AllReadyIn.cons rfl (fun K hK => ?_) AllReadyIn.nil))
        · go_simp
          refine hK _ _ ?_
          clear hK K
          refine wpAnyIn_take (i := 4) (v := .int .i64 (s.size : Nat)) rfl rfl (by kernel_rfl) (by kernel_rfl) (by kernel_rfl) (fun _ _ _ h => h) ⟨Or.inl ⟨by rfl, ?_⟩, fun _ => rfl⟩ ?_
          · intro w; go_simp
          refine wpAnyIn_take (i := 5) (v := .int .i64 (A : Nat)) rfl rfl (by kernel_rfl) (by kernel_rfl) (by kernel_rfl) (fun _ _ _ h => h) ⟨Or.inl ⟨by rfl, ?_⟩, fun _ => rfl⟩ ?_
          · intro w; go_simp
          refine wpAnyIn_take (i := 7) (v := .int .i64 (a : Nat)) rfl rfl (by kernel_rfl) (by kernel_rfl) (by kernel_rfl) (fun _ _ _ h => h) ⟨Or.inl ⟨by rfl, ?_⟩, fun _ => rfl⟩ ?_
          · intro w; go_simp
          refine wpAnyIn_ready (rs := [10]) (by kernel_rfl) (by simp) ?_
          refine (AllReadyIn.cons rfl (fun K hK => ?_) AllReadyIn.nil)
          · go_simp
            refine hK _ _ ?_
            clear hK K
            refine wpAnyIn_take (i := 11) (v := .int .i64 (s.size : Nat)) rfl rfl (by kernel_rfl) (by kernel_rfl) (by kernel_rfl) (fun _ _ _ h => h) ⟨Or.inl ⟨by rfl, ?_⟩, fun _ => rfl⟩ ?_
            · intro w; go_simp
            refine wpAnyIn_take (i := 12) (v := .int .i64 (C : Nat)) rfl rfl (by kernel_rfl) (by kernel_rfl) (by kernel_rfl) (fun _ _ _ h => h) ⟨Or.inl ⟨by rfl, ?_⟩, fun _ => rfl⟩ ?_
            · intro w; go_simp
            refine wpAnyIn_take (i := 14) (v := .int .i64 (c : Nat)) rfl rfl (by kernel_rfl) (by kernel_rfl) (by kernel_rfl) (fun _ _ _ h => h) ⟨Or.inl ⟨by rfl, ?_⟩, fun _ => rfl⟩ ?_
            · intro w; go_simp
            refine wpAnyIn_take (i := 15) (v := .string (s.extract a c)) rfl rfl (by kernel_rfl) (by kernel_rfl) (by kernel_rfl) (fun _ _ _ h => h) ⟨Or.inl ⟨by rfl, ?_⟩, fun _ => rfl⟩ ?_
            · intro w; go_simp
            refine wpAnyIn_ready (rs := [16]) (by kernel_rfl) (by simp) ?_
            refine AllReadyIn.cons rfl (fun K hK => ?_) AllReadyIn.nil
            go_simp
            gi_wp2_with ((with_reducible refine hR'.out.mono ?_); intro e W3 h3; obtain ⟨b, rfl, hb⟩ := said_bool h3; clear h3)
            rcases hb with ⟨rfl, hJ3, hk3⟩ | ⟨rfl, hJx3⟩
            · have hc3 : W3.cell? ⟨Bn, 0, none⟩ = some (.string s) := hk3.2.trans hc1
              have HJ3 := Lib.hid hJ3
              clear hJ3 hk3 hc1 hy hc
              refine wpAnyIn_take (i := 17) (v := .bool false) rfl rfl (by kernel_rfl) (by kernel_rfl) (by kernel_rfl) (fun _ _ _ h => h) ⟨Or.inl ⟨by rfl, ?_⟩, fun _ => rfl⟩ ?_
              · intro w; go_simp
              refine wpAnyIn_done (by kernel_rfl) ?_ _
              gi_wp2
              go_roundw
              case rel => exact ⟨k + 1, by go_num, by omega, hc3, Lib.hid (by rw [List.range_succ, List.map_append, List.map_cons, List.map_nil, HP.out]; exact HJ3.out)⟩
              case measure => simp [intOf]; omega
            · refine wpAnyIn_take (i := 17) (v := .bool true) rfl rfl (by kernel_rfl) (by kernel_rfl) (by kernel_rfl) (fun _ _ _ h => h) ⟨Or.inl ⟨by rfl, ?_⟩, fun _ => rfl⟩ ?_
              · intro w; go_simp
              refine wpAnyIn_done (by kernel_rfl) ?_ _
              gi_wp2
              refine bodyPost_ret (results_none rfl _ _ _) rfl ?_
              exact ⟨⟨_, rfl⟩, .inr ⟨_, pcs_prefix (by rw [HN.out]; omega) HP.out, hJx3⟩⟩
        · go_simp
          refine hK _ _ ?_
          clear hK K
          refine wpAnyIn_take (i := 11) (v := .int .i64 (s.size : Nat)) rfl rfl (by kernel_rfl) (by kernel_rfl) (by kernel_rfl) (fun _ _ _ h => h) ⟨Or.inl ⟨by rfl, ?_⟩, fun _ => rfl⟩ ?_
          · intro w; go_simp
          refine wpAnyIn_take (i := 12) (v := .int .i64 (C : Nat)) rfl rfl (by kernel_rfl) (by kernel_rfl) (by kernel_rfl) (fun _ _ _ h => h) ⟨Or.inl ⟨by rfl, ?_⟩, fun _ => rfl⟩ ?_
          · intro w; go_simp
          refine wpAnyIn_take (i := 14) (v := .int .i64 (c : Nat)) rfl rfl (by kernel_rfl) (by kernel_rfl) (by kernel_rfl) (fun _ _ _ h => h) ⟨Or.inl ⟨by rfl, ?_⟩, fun _ => rfl⟩ ?_
          · intro w; go_simp
          refine wpAnyIn_ready (rs := [3]) (by kernel_rfl) (by simp) ?_
          refine (AllReadyIn.cons rfl (fun K hK => ?_) AllReadyIn.nil)
          · go_simp
            refine hK _ _ ?_
            clear hK K
            refine wpAnyIn_take (i := 4) (v := .int .i64 (s.size : Nat)) rfl rfl (by kernel_rfl) (by kernel_rfl) (by kernel_rfl) (fun _ _ _ h => h) ⟨Or.inl ⟨by rfl, ?_⟩, fun _ => rfl⟩ ?_
            · intro w; go_simp
            refine wpAnyIn_take (i := 5) (v := .int .i64 (A : Nat)) rfl rfl (by kernel_rfl) (by kernel_rfl) (by kernel_rfl) (fun _ _ _ h => h) ⟨Or.inl ⟨by rfl, ?_⟩, fun _ => rfl⟩ ?_
            · intro w; go_simp
            refine wpAnyIn_take (i := 7) (v := .int .i64 (a : Nat)) rfl rfl (by kernel_rfl) (by kernel_rfl) (by kernel_rfl) (fun _ _ _ h => h) ⟨Or.inl ⟨by rfl, ?_⟩, fun _ => rfl⟩ ?_
            · intro w; go_simp
            refine wpAnyIn_take (i := 15) (v := .string (s.extract a c)) rfl rfl (by kernel_rfl) (by kernel_rfl) (by kernel_rfl) (fun _ _ _ h => h) ⟨Or.inl ⟨by rfl, ?_⟩, fun _ => rfl⟩ ?_
            · intro w; go_simp
            refine wpAnyIn_ready (rs := [16]) (by kernel_rfl) (by simp) ?_
            refine AllReadyIn.cons rfl (fun K hK => ?_) AllReadyIn.nil
            go_simp
            gi_wp2_with ((with_reducible refine hR'.out.mono ?_); intro e W3 h3; obtain ⟨b, rfl, hb⟩ := said_bool h3; clear h3)
            rcases hb with ⟨rfl, hJ3, hk3⟩ | ⟨rfl, hJx3⟩
            · have hc3 : W3.cell? ⟨Bn, 0, none⟩ = some (.string s) := hk3.2.trans hc1
              have HJ3 := Lib.hid hJ3
              clear hJ3 hk3 hc1 hy hc
              refine wpAnyIn_take (i := 17) (v := .bool false) rfl rfl (by kernel_rfl) (by kernel_rfl) (by kernel_rfl) (fun _ _ _ h => h) ⟨Or.inl ⟨by rfl, ?_⟩, fun _ => rfl⟩ ?_
              · intro w; go_simp
              refine wpAnyIn_done (by kernel_rfl) ?_ _
              gi_wp2
              go_roundw
              case rel => exact ⟨k + 1, by go_num, by omega, hc3, Lib.hid (by rw [List.range_succ, List.map_append, List.map_cons, List.map_nil, HP.out]; exact HJ3.out)⟩
              case measure => simp [intOf]; omega
            · refine wpAnyIn_take (i := 17) (v := .bool true) rfl rfl (by kernel_rfl) (by kernel_rfl) (by kernel_rfl) (fun _ _ _ h => h) ⟨Or.inl ⟨by rfl, ?_⟩, fun _ => rfl⟩ ?_
              · intro w; go_simp
              refine wpAnyIn_done (by kernel_rfl) ?_ _
              gi_wp2
              refine bodyPost_ret (results_none rfl _ _ _) rfl ?_
              exact ⟨⟨_, rfl⟩, .inr ⟨_, pcs_prefix (by rw [HN.out]; omega) HP.out, hJx3⟩⟩
      · go_simp
        refine hK _ _ ?_
        clear hK K
        refine wpAnyIn_take (i := 4) (v := .int .i64 (s.size : Nat)) rfl rfl (by kernel_rfl) (by kernel_rfl) (by kernel_rfl) (fun _ _ _ h => h) ⟨Or.inl ⟨by rfl, ?_⟩, fun _ => rfl⟩ ?_
        · intro w; go_simp
        refine wpAnyIn_take (i := 5) (v := .int .i64 (A : Nat)) rfl rfl (by kernel_rfl) (by kernel_rfl) (by kernel_rfl) (fun _ _ _ h => h) ⟨Or.inl ⟨by rfl, ?_⟩, fun _ => rfl⟩ ?_
        · intro w; go_simp
        refine wpAnyIn_take (i := 7) (v := .int .i64 (a : Nat)) rfl rfl (by kernel_rfl) (by kernel_rfl) (by kernel_rfl) (fun _ _ _ h => h) ⟨Or.inl ⟨by rfl, ?_⟩, fun _ => rfl⟩ ?_
        · intro w; go_simp
        refine wpAnyIn_ready (rs := [1, 10]) (by kernel_rfl) (by simp) ?_
        refine (AllReadyIn.cons rfl (fun K hK => ?_) (AllReadyIn.cons rfl (fun K hK => ?_) AllReadyIn.nil))
        · go_simp
          refine hK _ _ ?_
          clear hK K
          refine wpAnyIn_ready (rs := [10]) (by kernel_rfl) (by simp) ?_
          refine (AllReadyIn.cons rfl (fun K hK => ?_) AllReadyIn.nil)
          · go_simp
            refine hK _ _ ?_
            clear hK K
            refine wpAnyIn_take (i := 11) (v := .int .i64 (s.size : Nat)) rfl rfl (by kernel_rfl) (by kernel_rfl) (by kernel_rfl) (fun _ _ _ h => h) ⟨Or.inl ⟨by rfl, ?_⟩, fun _ => rfl⟩ ?_
            · intro w; go_simp
            refine wpAnyIn_take (i := 12) (v := .int .i64 (C : Nat)) rfl rfl (by kernel_rfl) (by kernel_rfl) (by kernel_rfl) (fun _ _ _ h => h) ⟨Or.inl ⟨by rfl, ?_⟩, fun _ => rfl⟩ ?_
            · intro w; go_simp
            refine wpAnyIn_take (i := 14) (v := .int .i64 (c : Nat)) rfl rfl (by kernel_rfl) (by kernel_rfl) (by kernel_rfl) (fun _ _ _ h => h) ⟨Or.inl ⟨by rfl, ?_⟩, fun _ => rfl⟩ ?_
            · intro w; go_simp
            refine wpAnyIn_take (i := 15) (v := .string (s.extract a c)) rfl rfl (by kernel_rfl) (by kernel_rfl) (by kernel_rfl) (fun _ _ _ h => h) ⟨Or.inl ⟨by rfl, ?_⟩, fun _ => rfl⟩ ?_
            · intro w; go_simp
            refine wpAnyIn_ready (rs := [16]) (by kernel_rfl) (by simp) ?_
            refine AllReadyIn.cons rfl (fun K hK => ?_) AllReadyIn.nil
            go_simp
            gi_wp2_with ((with_reducible refine hR'.out.mono ?_); intro e W3 h3; obtain ⟨b, rfl, hb⟩ := said_bool h3; clear h3)
            rcases hb with ⟨rfl, hJ3, hk3⟩ | ⟨rfl, hJx3⟩
            · have hc3 : W3.cell? ⟨Bn, 0, none⟩ = some (.string s) := hk3.2.trans hc1
              have HJ3 := Lib.hid hJ3
              clear hJ3 hk3 hc1 hy hc
              refine wpAnyIn_take (i := 17) (v := .bool false) rfl rfl (by kernel_rfl) (by kernel_rfl) (by kernel_rfl) (fun _ _ _ h => h) ⟨Or.inl ⟨by rfl, ?_⟩, fun _ => rfl⟩ ?_
              · intro w; go_simp
              refine wpAnyIn_done (by kernel_rfl) ?_ _
              gi_wp2
              go_roundw
              case rel => exact ⟨k + 1, by go_num, by omega, hc3, Lib.hid (by rw [List.range_succ, List.map_append, List.map_cons, List.map_nil, HP.out]; exact HJ3.out)⟩
              case measure => simp [intOf]; omega
            · refine wpAnyIn_take (i := 17) (v := .bool true) rfl rfl (by kernel_rfl) (by kernel_rfl) (by kernel_rfl) (fun _ _ _ h => h) ⟨Or.inl ⟨by rfl, ?_⟩, fun _ => rfl⟩ ?_
              · intro w; go_simp
              refine wpAnyIn_done (by kernel_rfl) ?_ _
              gi_wp2
              refine bodyPost_ret (results_none rfl _ _ _) rfl ?_
              exact ⟨⟨_, rfl⟩, .inr ⟨_, pcs_prefix (by rw [HN.out]; omega) HP.out, hJx3⟩⟩
        · go_simp
          refine hK _ _ ?_
          clear hK K
          refine wpAnyIn_take (i := 11) (v := .int .i64 (s.size : Nat)) rfl rfl (by kernel_rfl) (by kernel_rfl) (by kernel_rfl) (fun _ _ _ h => h) ⟨Or.inl ⟨by rfl, ?_⟩, fun _ => rfl⟩ ?_
          · intro w; go_simp
          refine wpAnyIn_take (i := 12) (v := .int .i64 (C : Nat)) rfl rfl (by kernel_rfl) (by kernel_rfl) (by kernel_rfl) (fun _ _ _ h => h) ⟨Or.inl ⟨by rfl, ?_⟩, fun _ => rfl⟩ ?_
          · intro w; go_simp
          refine wpAnyIn_take (i := 14) (v := .int .i64 (c : Nat)) rfl rfl (by kernel_rfl) (by kernel_rfl) (by kernel_rfl) (fun _ _ _ h => h) ⟨Or.inl ⟨by rfl, ?_⟩, fun _ => rfl⟩ ?_
          · intro w; go_simp
          refine wpAnyIn_ready (rs := [1]) (by kernel_rfl) (by simp) ?_
          refine (AllReadyIn.cons rfl (fun K hK => ?_) AllReadyIn.nil)
          · go_simp
            refine hK _ _ ?_
            clear hK K
            refine wpAnyIn_take (i := 15) (v := .string (s.extract a c)) rfl rfl (by kernel_rfl) (by kernel_rfl) (by kernel_rfl) (fun _ _ _ h => h) ⟨Or.inl ⟨by rfl, ?_⟩, fun _ => rfl⟩ ?_
            · intro w; go_simp
            refine wpAnyIn_ready (rs := [16]) (by kernel_rfl) (by simp) ?_
            refine AllReadyIn.cons rfl (fun K hK => ?_) AllReadyIn.nil
            go_simp
            gi_wp2_with ((with_reducible refine hR'.out.mono ?_); intro e W3 h3; obtain ⟨b, rfl, hb⟩ := said_bool h3; clear h3)
            rcases hb with ⟨rfl, hJ3, hk3⟩ | ⟨rfl, hJx3⟩
            · have hc3 : W3.cell? ⟨Bn, 0, none⟩ = some (.string s) := hk3.2.trans hc1
              have HJ3 := Lib.hid hJ3
              clear hJ3 hk3 hc1 hy hc
              refine wpAnyIn_take (i := 17) (v := .bool false) rfl rfl (by kernel_rfl) (by kernel_rfl) (by kernel_rfl) (fun _ _ _ h => h) ⟨Or.inl ⟨by rfl, ?_⟩, fun _ => rfl⟩ ?_
              · intro w; go_simp
              refine wpAnyIn_done (by kernel_rfl) ?_ _
              gi_wp2
              go_roundw
              case rel => exact ⟨k + 1, by go_num, by omega, hc3, Lib.hid (by rw [List.range_succ, List.map_append, List.map_cons, List.map_nil, HP.out]; exact HJ3.out)⟩
              case measure => simp [intOf]; omega
            · refine wpAnyIn_take (i := 17) (v := .bool true) rfl rfl (by kernel_rfl) (by kernel_rfl) (by kernel_rfl) (fun _ _ _ h => h) ⟨Or.inl ⟨by rfl, ?_⟩, fun _ => rfl⟩ ?_
              · intro w; go_simp
              refine wpAnyIn_done (by kernel_rfl) ?_ _
              gi_wp2
              refine bodyPost_ret (results_none rfl _ _ _) rfl ?_
              exact ⟨⟨_, rfl⟩, .inr ⟨_, pcs_prefix (by rw [HN.out]; omega) HP.out, hJx3⟩⟩
      · go_simp
        refine hK _ _ ?_
        clear hK K
        refine wpAnyIn_take (i := 11) (v := .int .i64 (s.size : Nat)) rfl rfl (by kernel_rfl) (by kernel_rfl) (by kernel_rfl) (fun _ _ _ h => h) ⟨Or.inl ⟨by rfl, ?_⟩, fun _ => rfl⟩ ?_
        · intro w; go_simp
        refine wpAnyIn_take (i := 12) (v := .int .i64 (C : Nat)) rfl rfl (by kernel_rfl) (by kernel_rfl) (by kernel_rfl) (fun _ _ _ h => h) ⟨Or.inl ⟨by rfl, ?_⟩, fun _ => rfl⟩ ?_
        · intro w; go_simp
        refine wpAnyIn_take (i := 14) (v := .int .i64 (c : Nat)) rfl rfl (by kernel_rfl) (by kernel_rfl) (by kernel_rfl) (fun _ _ _ h => h) ⟨Or.inl ⟨by rfl, ?_⟩, fun _ => rfl⟩ ?_
        · intro w; go_simp
        refine wpAnyIn_ready (rs := [1, 3]) (by kernel_rfl) (by simp) ?_
        refine (AllReadyIn.cons rfl (fun K hK => ?_) (AllReadyIn.cons rfl (fun K hK => ?_) AllReadyIn.nil))
        · go_simp
          refine hK _ _ ?_
          clear hK K
          refine wpAnyIn_ready (rs := [3]) (by kernel_rfl) (by simp) ?_
          refine (AllReadyIn.cons rfl (fun K hK => ?_) AllReadyIn.nil)
          · go_simp
            refine hK _ _ ?_
            clear hK K
            refine wpAnyIn_take (i := 4) (v := .int .i64 (s.size : Nat)) rfl rfl (by kernel_rfl) (by kernel_rfl) (by kernel_rfl) (fun _ _ _ h => h) ⟨Or.inl ⟨by rfl, ?_⟩, fun _ => rfl⟩ ?_
            · intro w; go_simp
            refine wpAnyIn_take (i := 5) (v := .int .i64 (A : Nat)) rfl rfl (by kernel_rfl) (by kernel_rfl) (by kernel_rfl) (fun _ _ _ h => h) ⟨Or.inl ⟨by rfl, ?_⟩, fun _ => rfl⟩ ?_
            · intro w; go_simp
            refine wpAnyIn_take (i := 7) (v := .int .i64 (a : Nat)) rfl rfl (by kernel_rfl) (by kernel_rfl) (by kernel_rfl) (fun _ _ _ h => h) ⟨Or.inl ⟨by rfl, ?_⟩, fun _ => rfl⟩ ?_
            · intro w; go_simp
            refine wpAnyIn_take (i := 15) (v := .string (s.extract a c)) rfl rfl (by kernel_rfl) (by kernel_rfl) (by kernel_rfl) (fun _ _ _ h => h) ⟨Or.inl ⟨by rfl, ?_⟩, fun _ => rfl⟩ ?_
            · intro w; go_simp
            refine wpAnyIn_ready (rs := [16]) (by kernel_rfl) (by simp) ?_
            refine AllReadyIn.cons rfl (fun K hK => ?_) AllReadyIn.nil
            go_simp
            gi_wp2_with ((with_reducible refine hR'.out.mono ?_); intro e W3 h3; obtain ⟨b, rfl, hb⟩ := said_bool h3; clear h3)
            rcases hb with ⟨rfl, hJ3, hk3⟩ | ⟨rfl, hJx3⟩
            · have hc3 : W3.cell? ⟨Bn, 0, none⟩ = some (.string s) := hk3.2.trans hc1
              have HJ3 := Lib.hid hJ3
              clear hJ3 hk3 hc1 hy hc
              refine wpAnyIn_take (i := 17) (v := .bool false) rfl rfl (by kernel_rfl) (by kernel_rfl) (by kernel_rfl) (fun _ _ _ h => h) ⟨Or.inl ⟨by rfl, ?_⟩, fun _ => rfl⟩ ?_
              · intro w; go_simp
              refine wpAnyIn_done (by kernel_rfl) ?_ _
              gi_wp2
              go_roundw
              case rel => exact ⟨k + 1, by go_num, by omega, hc3, Lib.hid (by rw [List.range_succ, List.map_append, List.map_cons, List.map_nil, HP.out]; exact HJ3.out)⟩
              case measure => simp [intOf]; omega
            · refine wpAnyIn_take (i := 17) (v := .bool true) rfl rfl (by kernel_rfl) (by kernel_rfl) (by kernel_rfl) (fun _ _ _ h => h) ⟨Or.inl ⟨by rfl, ?_⟩, fun _ => rfl⟩ ?_
              · intro w; go_simp
              refine wpAnyIn_done (by kernel_rfl) ?_ _
              gi_wp2
              refine bodyPost_ret (results_none rfl _ _ _) rfl ?_
              exact ⟨⟨_, rfl⟩, .inr ⟨_, pcs_prefix (by rw [HN.out]; omega) HP.out, hJx3⟩⟩
        · go_simp
          refine hK _ _ ?_
          clear hK K
          refine wpAnyIn_take (i := 4) (v := .int .i64 (s.size : Nat)) rfl rfl (by kernel_rfl) (by kernel_rfl) (by kernel_rfl) (fun _ _ _ h => h) ⟨Or.inl ⟨by rfl, ?_⟩, fun _ => rfl⟩ ?_
          · intro w; go_simp
          refine wpAnyIn_take (i := 5) (v := .int .i64 (A : Nat)) rfl rfl (by kernel_rfl) (by kernel_rfl) (by kernel_rfl) (fun _ _ _ h => h) ⟨Or.inl ⟨by rfl, ?_⟩, fun _ => rfl⟩ ?_
          · intro w; go_simp
          refine wpAnyIn_take (i := 7) (v := .int .i64 (a : Nat)) rfl rfl (by kernel_rfl) (by kernel_rfl) (by kernel_rfl) (fun _ _ _ h => h) ⟨Or.inl ⟨by rfl, ?_⟩, fun _ => rfl⟩ ?_
          · intro w; go_simp
          refine wpAnyIn_ready (rs := [1]) (by kernel_rfl) (by simp) ?_
          refine (AllReadyIn.cons rfl (fun K hK => ?_) AllReadyIn.nil)
          · go_simp
            refine hK _ _ ?_
            clear hK K
            refine wpAnyIn_take (i := 15) (v := .string (s.extract a c)) rfl rfl (by kernel_rfl) (by kernel_rfl) (by kernel_rfl) (fun _ _ _ h => h) ⟨Or.inl ⟨by rfl, ?_⟩, fun _ => rfl⟩ ?_
            · intro w; go_simp
            refine wpAnyIn_ready (rs := [16]) (by kernel_rfl) (by simp) ?_
            refine AllReadyIn.cons rfl (fun K hK => ?_) AllReadyIn.nil
            go_simp
            gi_wp2_with ((with_reducible refine hR'.out.mono ?_); intro e W3 h3; obtain ⟨b, rfl, hb⟩ := said_bool h3; clear h3)
            rcases hb with ⟨rfl, hJ3, hk3⟩ | ⟨rfl, hJx3⟩
            · have hc3 : W3.cell? ⟨Bn, 0, none⟩ = some (.string s) := hk3.2.trans hc1
              have HJ3 := Lib.hid hJ3
              clear hJ3 hk3 hc1 hy hc
              refine wpAnyIn_take (i := 17) (v := .bool false) rfl rfl (by kernel_rfl) (by kernel_rfl) (by kernel_rfl) (fun _ _ _ h => h) ⟨Or.inl ⟨by rfl, ?_⟩, fun _ => rfl⟩ ?_
              · intro w; go_simp
              refine wpAnyIn_done (by kernel_rfl) ?_ _
              gi_wp2
              go_roundw
              case rel => exact ⟨k + 1, by go_num, by omega, hc3, Lib.hid (by rw [List.range_succ, List.map_append, List.map_cons, List.map_nil, HP.out]; exact HJ3.out)⟩
              case measure => simp [intOf]; omega
            · refine wpAnyIn_take (i := 17) (v := .bool true) rfl rfl (by kernel_rfl) (by kernel_rfl) (by kernel_rfl) (fun _ _ _ h => h) ⟨Or.inl ⟨by rfl, ?_⟩, fun _ => rfl⟩ ?_
              · intro w; go_simp
              refine wpAnyIn_done (by kernel_rfl) ?_ _
              gi_wp2
              refine bodyPost_ret (results_none rfl _ _ _) rfl ?_
              exact ⟨⟨_, rfl⟩, .inr ⟨_, pcs_prefix (by rw [HN.out]; omega) HP.out, hJx3⟩⟩
    · have hNk : Hid (k = N) := Lib.hid (by omega)
      have hge : (N : Int) ≤ k := by omega
      gi_wp2
      go_end0
      exact ⟨⟨_, rfl⟩, .inl ⟨_, by unfold pcsv; rw [HN.out, hNk.out], hJs.out⟩⟩

set_option maxHeartbeats 1000000 in
theorem pieces_any (s : ByteArray) (w : World) :
    Calls Tryd.prog 35 #[.string s] w fun e w' => e = .returned (.func (.func 55) #[] #[.pointer (some ⟨w.heap.size, 0, none⟩)]) ∧ w' = w.alloc (.cells #[.string s] 9) := by
  go_enter Tryd.func35, Tryd.ntmps35
  go_wp2
  go_ret
  exact ⟨rfl, rfl⟩

theorem pieces_stops (n : Nat) (hn : 1 ≤ n) (Bn n₀ : Nat) (s : ByteArray) (hs : (s.size : Int) ≤ 1048576) (w : World) (hc : w.cell? ⟨Bn, 0, none⟩ = some (.string s)) :
    SeqStopsK Fence.wide n Tryd.prog 55 #[.pointer (some ⟨Bn, 0, none⟩)] encPc (KpS n₀ Bn) (fun ys => ys = pcsv s hs) (fun pre => pre <+: pcsv s hs) (pcn s) w := fun l J Jx W hW hJ _ hY h0 =>
  pieces1_in n hn l Bn n₀ s hs J Jx _ hJ hY W ((hW.cell (p := ⟨Bn, 0, none⟩) (cell_lt hc)).trans hc) h0
end Go.Proofs.YtfcpieodgflmnaaDoor

namespace Go.Proofs.YtfcpieodgflmnaaDoor

theorem extract_join {s : ByteArray} {a c : Nat} (h1 : a ≤ c) (h2 : c ≤ s.size) : s.extract 0 a ++ s.extract a c = s.extract 0 c := by
  have z1 : (s.extract 0 a).size = a := by rw [ByteArray.size_extract]; omega
  have z2 : (s.extract a c).size = c - a := by rw [ByteArray.size_extract]; omega
  refine ext_bt (by rw [ByteArray.size_append, z1, z2, ByteArray.size_extract]; omega) fun i hi => ?_
  rw [ByteArray.size_append, z1, z2] at hi
  have e0 := bt_extract (s := s) (a := 0) (n := c) (i := i) (by omega) (by omega)
  rw [Nat.zero_add, Nat.zero_add] at e0
  rw [e0]
  by_cases h : i < a
  · rw [bt_append_left (by omega)]
    have e1 := bt_extract (s := s) (a := 0) (n := a) (i := i) (by omega) h
    rw [Nat.zero_add, Nat.zero_add] at e1
    exact e1
  · have e2 := bt_append_right (a := s.extract 0 a) (b := s.extract a c) (i := i - a) (by omega)
    rw [z1, show a + (i - a) = i from by omega] at e2
    rw [e2]
    have e3 := bt_extract (s := s) (a := a) (n := c - a) (i := i - a) (by omega) (by omega)
    rw [show a + (c - a) = c from by omega, show a + (i - a) = i from by omega] at e3
    exact e3
theorem pcn_bounds {s : ByteArray} (h : 1 ≤ s.size) : 1 ≤ pcn s ∧ 512 * (pcn s - 1) < s.size ∧ s.size ≤ 512 * pcn s := by unfold pcn; omega
theorem pc_le {s : ByteArray} (h : 1 ≤ s.size) (k : Nat) (hk : k ≤ pcn s) : k * s.size / pcn s ≤ s.size := by
  have := pcn_bounds h
  exact Nat.div_le_of_le_mul (Nat.mul_le_mul_right _ hk)
theorem pc_mono (s : ByteArray) (k : Nat) : k * s.size / pcn s ≤ (k + 1) * s.size / pcn s := Nat.div_le_div_right (Nat.mul_le_mul_right _ (by omega))
theorem cat_upto {s : ByteArray} (h : 1 ≤ s.size) : ∀ k, k ≤ pcn s → cat ((List.range k).map (pc s)) = s.extract 0 (k * s.size / pcn s) := by
  intro k
  induction k with
  | zero => intro _; simp [cat]; rfl
  | succ k ih =>
    intro hk
    rw [List.range_succ, List.map_append, cat_append, ih (by omega)]
    show _ ++ cat [pc s k] = _
    rw [cat_one]
    exact extract_join (pc_mono s k) (pc_le h _ hk)
theorem cat_pcs {s : ByteArray} (h : 1 ≤ s.size) : cat (pcs s) = s := by
  have hb := pcn_bounds h
  unfold pcs
  rw [cat_upto h _ (Nat.le_refl _), Nat.mul_div_cancel_left _ (by omega)]
  simp
theorem pcs_length (s : ByteArray) : (pcs s).length = pcn s := by unfold pcs; simp
theorem piece_len (n m k : Nat) (h0 : 2 ≤ n) (h1 : 512 * (n - 1) < m) (h2 : m ≤ 512 * n) : k * m / n + 256 ≤ (k + 1) * m / n ∧ (k + 1) * m / n ≤ k * m / n + 512 := by
  have hn0 : 0 < n := by omega
  have a1 := Nat.div_mul_le_self (k * m) n
  have a2 := Nat.lt_div_mul_add (a := k * m) hn0
  have c1 := Nat.div_mul_le_self (k * m + m) n
  have c2 := Nat.lt_div_mul_add (a := k * m + m) hn0
  rw [show (k + 1) * m = k * m + m from Nat.succ_mul k m]
  obtain ⟨q, hq⟩ : ∃ q, k * m = q := ⟨_, rfl⟩
  rw [hq] at a1 a2 c1 c2 ⊢
  obtain ⟨a, ha⟩ : ∃ a, q / n = a := ⟨_, rfl⟩
  obtain ⟨c, hc⟩ : ∃ c, (q + m) / n = c := ⟨_, rfl⟩
  rw [ha] at a1 a2 ⊢
  rw [hc] at c1 c2 ⊢
  constructor
  · by_cases hlt : a + 256 ≤ c
    · exact hlt
    · exfalso
      have := Nat.mul_le_mul_right n (show c + 1 ≤ a + 256 from by omega)
      rw [Nat.add_mul, Nat.add_mul] at this
      omega
  · by_cases hlt : c ≤ a + 512
    · exact hlt
    · exfalso
      have := Nat.mul_le_mul_right n (show a + 512 + 1 ≤ c from by omega)
      rw [Nat.add_mul, Nat.add_mul] at this
      omega
theorem pcs_piece {s : ByteArray} (h : 1 ≤ s.size) (h2 : 2 ≤ pcn s) : ∀ x ∈ pcs s, Piece x := by
  intro x hx
  unfold pcs at hx
  obtain ⟨k, hk, rfl⟩ := List.mem_map.1 hx
  have hk' : k < pcn s := List.mem_range.1 hk
  have hb := pcn_bounds h
  have hle := pc_le h (k + 1) (by omega)
  have hl := piece_len (pcn s) s.size k h2 hb.2.1 hb.2.2
  unfold Piece pc
  rw [ByteArray.size_extract]
  omega
theorem pcs_one {s : ByteArray} (h1 : pcn s = 1) : pcs s = [s] := by
  unfold pcs
  rw [h1]
  show [pc s 0] = [s]
  unfold pc
  rw [h1]
  simp
theorem pcs_all {s : ByteArray} (h : 1 ≤ s.size) : ∀ x ∈ pcs s, 1 ≤ x.size ∧ x.size ≤ 512 := by
  intro x hx
  by_cases h1 : pcn s = 1
  · rw [pcs_one h1] at hx
    have hb := pcn_bounds h
    obtain rfl : x = s := by simpa using hx
    omega
  · have hb := pcn_bounds h
    have := pcs_piece h (by omega) x hx
    unfold Piece at this
    omega

/-- What grow makes of a text. -/
def GrowSpec (s : ByteArray) (t : T) : Prop := Ok t ∧ t.text = s ∧ (256 ≤ s.size → Big t) ∧ (s.size ≤ 512 → t.dp = 1) ∧ (s.size ≤ 1024 → t.dp ≤ 2)
theorem grow_spec {s : ByteArray} (h : 1 ≤ s.size) {t : T} (ht : StkSpec (pcs s) t) : GrowSpec s t := by
  obtain ⟨e1, e2, e3, e4⟩ := ht
  have hb := pcn_bounds h
  rw [cat_pcs h] at e1
  rw [pcs_length] at e2
  by_cases h1 : pcn s = 1
  · have e5 := e4 s (pcs_one h1)
    subst e5
    refine ⟨⟨h, by omega⟩, rfl, fun h2 => ⟨h2, by omega⟩, fun _ => rfl, fun _ => by show 1 ≤ 2; omega⟩
  · have hbig := e3 (pcs_piece h (by omega))
    refine ⟨hbig.ok, e1, fun _ => hbig, fun h2 => ?_, fun h2 => ?_⟩
    · exfalso; unfold pcn at *; omega
    · have : pcn s = 2 := by unfold pcn at *; omega
      rw [e2, this, dn_step 2 (by omega)]
      simp [dn_one]
end Go.Proofs.YtfcpieodgflmnaaDoor

namespace Go.Proofs.YtfcpieodgflmnaaDoor
open Go.RowKit

/-- A row of pointers to leaves. -/
def LeafRow (w : World) (b off : Nat) (ts : List ByteArray) : Prop := ∀ i x, ts[i]? = some x → ∃ c, w.cell? ⟨b, off + i, none⟩ = some (.pointer (some ⟨c, 0, none⟩)) ∧ Node w (.leaf x) c
theorem LeafRow.up {w w' : World} {b off : Nat} {ts : List ByteArray} (h : LeafRow w b off ts) (hu : Up w w') : LeafRow w' b off ts := fun i x hx => by
  obtain ⟨c, h1, h2⟩ := h i x hx
  exact ⟨c, cell_up hu h1, h2.up hu⟩
def StkPost (ts : List ByteArray) (w : World) (e : Ending) (w' : World) : Prop := ∃ t, StkSpec ts t ∧ NewT t w e w'

set_option maxRecDepth 100000 in
set_option maxHeartbeats 1000000 in
theorem stack_two (w : World) (b off len cap h : Nat) (l m : List ByteArray) (hT : Tabs w) (h2 : (2 : Int) ≤ len) (hc : (len : Int) ≤ cap) (hc2 : (cap : Int) ≤ 9223372036854775807) (hh : (len : Int) / 2 = h)
    (P1 : ∀ W, Up w W → Tabs W → Calls Tryd.prog 37 #[.slice (some ⟨b, off, none⟩) h cap] W (StkPost l W))
    (P2 : ∀ W, Up w W → Tabs W → Calls Tryd.prog 37 #[.slice (some ⟨b, off + h, none⟩) (len - h) (cap - h)] W (StkPost m W))
    (P3 : ∀ W b1 b2 ta tb, Up w W → Tabs W → StkSpec l ta → StkSpec m tb → Node W ta b1 → Node W tb b2 → Calls Tryd.prog 54 #[.pointer (some ⟨b1, 0, none⟩), .pointer (some ⟨b2, 0, none⟩)] W (NewT (.node ta tb) W))
    (h3 : ∀ ta tb, StkSpec l ta → StkSpec m tb → StkSpec (l ++ m) (.node ta tb)) :
    Calls Tryd.prog 37 #[.slice (some ⟨b, off, none⟩) len cap] w (StkPost (l ++ m) w) := by
  have HP1 := Lib.hid P1
  have HP2 := Lib.hid P2
  have HP3 := Lib.hid P3
  have H3 := Lib.hid h3
  have z0 : ((len : Int) == 0) = false := by simp; omega
  have z1 : ((len : Int) == 1) = false := by simp; omega
  have b0 : (0 : Int) ≤ h := by omega
  have b1 : (h : Int) ≤ len := by omega
  have b2 : (h : Int) ≤ cap := by omega
  clear P1 P2 P3 h3
  go_enter Tryd.func37, Tryd.ntmps37
  go_wp2_with fail
  have hS : Up w w ∧ Tabs w := ⟨Up.refl w, hT⟩
  go_region_held3 (fun w' => Up w w' ∧ Tabs w')
    (first | assumption | with_reducible exact keep0 hu3 (by assumption) | with_reducible exact keep0 hu2 (by assumption) | with_reducible exact keep0 hu1 (by assumption) | with_reducible exact keep0 (Up.drew _) (by assumption))
    (first | (go_at_call 37; ((with_reducible refine (HP1.out _ ?_ ?_).mono ?_); (exact (by assumption : _ ∧ Tabs _).1); (exact (by assumption : _ ∧ Tabs _).2); rintro e w1 ⟨t1, hs1, g1, rfl, hn1, hu1⟩)) | (go_at_call 37; ((with_reducible refine (HP2.out _ ?_ ?_).mono ?_); (exact (by assumption : _ ∧ Tabs _).1); (exact (by assumption : _ ∧ Tabs _).2); rintro e w2 ⟨t2, hs2, g2, rfl, hn2, hu2⟩)) | (go_at_call 54; ((with_reducible refine (HP3.out _ _ _ _ _ ?_ ?_ hs1 hs2 ?_ ?_).mono ?_); (exact (by assumption : _ ∧ Tabs _).1); (exact (by assumption : _ ∧ Tabs _).2); (exact hn1.up hu2); (exact hn2); rintro e w3 ⟨g3, rfl, hn3, hu3⟩)))
  have HF := Lib.hid (by assumption : Up w w3 ∧ _).1
  go_wp2
  go_ret
  exact ⟨_, H3.out _ _ hs1 hs2, g3, rfl, hn3, HF.out⟩

set_option maxRecDepth 100000 in
set_option maxHeartbeats 1000000 in
theorem stack_one (w : World) (b off cap c : Nat) (x : ByteArray) (h0 : w.cell? ⟨b, off, none⟩ = some (.pointer (some ⟨c, 0, none⟩))) (hn : Node w (.leaf x) c) :
    Calls Tryd.prog 37 #[.slice (some ⟨b, off, none⟩) 1 cap] w (StkPost [x] w) := by
  have HN := Lib.hid hn
  clear hn
  go_enter Tryd.func37, Tryd.ntmps37
  go_wp2
  go_ret
  exact ⟨_, stk_one x, c, rfl, HN.out, Up.refl _⟩

theorem stack_any : ∀ (n : Nat) (ts : List ByteArray) (b off cap : Nat) (w : World), ts.length = n → 1 ≤ n → n ≤ cap → (cap : Int) ≤ 9223372036854775807 → (2 ≤ n → ∀ x ∈ ts, Piece x) → ((cat ts).size : Int) ≤ 1048576 → Tabs w → LeafRow w b off ts →
    Calls Tryd.prog 37 #[.slice (some ⟨b, off, none⟩) n cap] w (StkPost ts w) := by
  intro n
  induction n using Nat.strongRecOn with
  | ind n ih =>
    intro ts b off cap w hl h1 hcap hc2 hp hs hT hrow
    by_cases e : n = 1
    · subst e
      match ts, hl with
      | [x], _ =>
        obtain ⟨c, hc, hn⟩ := hrow 0 x rfl
        exact stack_one w b off cap c x hc hn
    · have hpp := hp (by omega)
      have hcp := cat_pieces hpp
      obtain ⟨l, m, rfl, hll⟩ : ∃ l m, ts = l ++ m ∧ l.length = n / 2 := ⟨ts.take (n / 2), ts.drop (n / 2), (List.take_append_drop _ _).symm, by rw [List.length_take]; omega⟩
      rw [List.length_append] at hl
      have hlm : m.length = n - n / 2 := by omega
      rw [cat_append, ByteArray.size_append] at hs
      have hpl : ∀ x ∈ l, Piece x := fun x hx => hpp x (List.mem_append.2 (.inl hx))
      have hpm : ∀ x ∈ m, Piece x := fun x hx => hpp x (List.mem_append.2 (.inr hx))
      have rl : LeafRow w b off l := fun i x hx => hrow i x (by rw [List.getElem?_append_left (List.getElem?_eq_some_iff.1 hx).1]; exact hx)
      have rm : LeafRow w b (off + n / 2) m := fun i x hx => by
        have := hrow (n / 2 + i) x (by rw [List.getElem?_append_right (by omega), hll, show n / 2 + i - n / 2 = i from by omega]; exact hx)
        rw [Nat.add_assoc]; exact this
      refine stack_two w b off n cap (n / 2) l m hT (by omega) (by omega) hc2 (by omega)
        (fun W hu ht => ih (n / 2) (by omega) l b off cap W hll (by omega) (by omega) hc2 (fun _ => hpl) (by omega) ht (rl.up hu))
        (fun W hu ht => ih (n - n / 2) (by omega) m b (off + n / 2) (cap - n / 2) W hlm (by omega) (by omega) (by omega) (fun _ => hpm) (by omega) ht (rm.up hu))
        (fun W b1 b2 ta tb hu ht sa sb n1 n2 => pair_big n1 n2 (sa.2.2.1 hpl) (sb.2.2.1 hpm) (by rw [sa.1, sb.1]; omega) ht)
        (fun ta tb sa sb => stk_two sa sb (by omega) (by omega))

set_option maxHeartbeats 1000000 in
theorem stack_nil (w : World) : Calls Tryd.prog 37 #[.slice none 0 0] w fun e w' => e = .returned (.pointer none) ∧ w = w' := by
  go_enter Tryd.func37, Tryd.ntmps37
  go_wp2
  go_ret
  exact ⟨rfl, rfl⟩
end Go.Proofs.YtfcpieodgflmnaaDoor
