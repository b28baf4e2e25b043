/- A tree's text: the program's Print. -/
import Derived.Test.YtidnldchdahgeaaDoorTTab
import Derived.Test.YtidnldchdahgeaaDoorTSeeP
import Derived.Laws.IdiomStrings
namespace Go.Proofs.YtidnldchdahgeaaDoor
open Go.RowKit

theorem endB_nat (j : Nat) : ((endB j).toNat : Int) = if j = 3 then 10 else 32 := by
  unfold endB
  split <;> rfl
theorem behind_any (j : Nat) (w : World) : Calls Tryd.prog 43 #[.int .i64 (j : Nat)] w fun e w' => e = .returned (.int .u8 ((endB j).toNat : Nat)) ∧ w = w' := by
  have h := endB_nat j
  by_cases hj : j = 3
  · rw [if_pos hj] at h
    have H := Lib.hid h
    subst hj
    clear h
    go_enter Tryd.func43, Tryd.ntmps43
    go_wp2
    go_ret
    exact ⟨ret_int H.out.symm, rfl⟩
  · rw [if_neg hj] at h
    have H := Lib.hid h
    have f0 : ((j : Int) == 3) = false := beq_false_of_ne (by omega)
    clear h hj
    go_enter Tryd.func43, Tryd.ntmps43
    go_wp2
    go_ret
    exact ⟨ret_int H.out.symm, rfl⟩
theorem take_next {L : List Nd} {k : Nat} (h : k < L.length) : L.take (k + 1) = L.take k ++ [nd L k] := by
  rw [List.take_succ_eq_append_getElem h, nd_eq h]
theorem prL_next {L : List Nd} {k : Nat} (h : k < L.length) : prL (L.take (k + 1)) = prL (L.take k) ++ prN (nd L k) := by
  rw [take_next h, prL_append]
  show _ ++ (prN (nd L k) ++ []) = _
  rw [List.append_nil]
noncomputable def prS (L : List Nd) : ByteArray := if fitB L = true then ⟨(prL L).toArray⟩ else ByteArray.empty
set_option maxRecDepth 100000 in
set_option maxHeartbeats 8000000 in
theorem print_any (w : World) (hT : Tab w) (A : Option Addr) (n c : Nat) (L : List Nd) (hL : NArg w A n L) (hc : n ≤ c) (hn : n ≤ 10000) :
    Calls Tryd.prog 28 #[.slice A n c] w fun e w' => e = .returned (.tuple #[.string (prS L), .int .i64 (fitE L)]) ∧ Up w w' := by
  have HC := Lib.hid (checkF_any w A n c L hL hc hn)
  have hl := hL.nds.len
  have HL := Lib.hid hL.nds
  have HT := Lib.hid hT
  have hfe : fitE L = if fitB L = true then 0 else 60 := rfl
  have hps : prS L = if fitB L = true then ⟨(prL L).toArray⟩ else ByteArray.empty := rfl
  cases hF : fitB L with
  | false =>
    rw [hF, if_neg (by decide)] at hfe hps
    rw [hfe] at HC ⊢
    have HP := Lib.hid hps
    clear hL hl hF hfe hps
    go_enter Tryd.func28, Tryd.ntmps28
    go_wp2_with (go_at_call 41; ((with_reducible refine HC.out.mono ?_); rintro e w1 ⟨rfl, hu⟩; have HU := Lib.hid hu; clear hu))
    go_ret2
    exact ⟨by rw [HP.out]; rfl, HU.out⟩
  | true =>
    rw [hF, if_pos rfl] at hfe hps
    rw [hfe] at HC ⊢
    have HP := Lib.hid hps
    have hfit := fit_of hF
    have hpos : 0 < n := by have := hfit.pos; omega
    obtain ⟨b0, o0, rfl, hb, -⟩ := nds_nd hL.nds 0 hpos
    have HIn := Lib.hid (fit_all hfit hL.ok (by omega))
    have HLen := Lib.hid hl
    have HNz := Lib.hid hpos
    clear hL hl hF hfe hb hps hfit
    go_enter Tryd.func28, Tryd.ntmps28
    go_wp2_with (go_at_call 41; ((with_reducible refine HC.out.mono ?_); rintro e w1 ⟨rfl, hu⟩; have HU1 := Lib.hid hu; clear hu))
    go_loopg [5, 7, 8, 9, 17] n (fun g ov _ _ _ iv wr => ∃ k : Nat, g = n - k ∧ iv = .int .i64 (k : Nat) ∧ k ≤ n ∧ Hid (RowB wr w.heap.size ov (prL (L.take k))) ∧ Hid (Up w wr))
    case atStart => exact ⟨0, rfl, rfl, by omega, Lib.hid (World.ownsRow_nil _ _ _ _), HU1⟩
    case round =>
      obtain ⟨k, hg, rfl, hk, HO, HU⟩ := hrel
      have HG := Lib.hid hg
      clear hg
      by_cases hlt : k < n
      · obtain ⟨a, o, hA, -, x0', x1', x2', x3'⟩ := nds_nd (HL.out.up HU.out) k hlt
        obtain ⟨rfl, rfl⟩ : a = b0 ∧ o = o0 := by injection hA with e; injection e with e1 e2; exact ⟨e1.symm, e2.symm⟩
        have HNX := Lib.hid (prL_next (L := L) (k := k) (by rw [HLen.out]; exact hlt))
        have hx0 : NdIn (nd L k) := by
          rw [← nd_eq (show k < L.length by rw [HLen.out]; exact hlt)]
          exact HIn.out _ (List.getElem_mem _)
        obtain ⟨x, hx⟩ : ∃ x, nd L k = x := ⟨_, rfl⟩
        rw [hx] at x0' x1' x2' x3' HNX hx0
        obtain ⟨x0, f, t, d⟩ := x
        dsimp only at x0' x1' x2' x3'
        have hpl : (prL (L.take k)).length ≤ 880000 := by
          have h1 := prL_len (L := L.take k) (fun y hy => HIn.out y (List.mem_of_mem_take hy))
          rw [List.length_take] at h1
          omega
        have hua := Up.alloc wr (.cells #[.int .u8 x0, .int .i64 f, .int .i64 t, .int .i64 d] 40)
        have HUa := Lib.hid (HU.out.trans hua)
        have HOa := Lib.hid (rowB_up HO.out hua)
        have n0 : (wr.alloc (.cells #[.int .u8 x0, .int .i64 f, .int .i64 t, .int .i64 d] 40)).cell? ⟨wr.heap.size, 0, none⟩ = some (.int .u8 x0) := cellOf (Go.heap_alloc_new _ _) rfl
        have n1 : (wr.alloc (.cells #[.int .u8 x0, .int .i64 f, .int .i64 t, .int .i64 d] 40)).cell? ⟨wr.heap.size, 1, none⟩ = some (.int .i64 f) := cellOf (Go.heap_alloc_new _ _) rfl
        have n2 : (wr.alloc (.cells #[.int .u8 x0, .int .i64 f, .int .i64 t, .int .i64 d] 40)).cell? ⟨wr.heap.size, 2, none⟩ = some (.int .i64 t) := cellOf (Go.heap_alloc_new _ _) rfl
        have n3 : (wr.alloc (.cells #[.int .u8 x0, .int .i64 f, .int .i64 t, .int .i64 d] 40)).cell? ⟨wr.heap.size, 3, none⟩ = some (.int .i64 d) := cellOf (Go.heap_alloc_new _ _) rfl
        have j1 : (k : Int) < n := by omega
        have hw0 : IntKind.i64.wrap x0 = x0 := IntWalk.i64_in _ (by have h1 := hx0.1; dsimp only at h1; omega)
        have HX0 := Lib.hid hx0
        clear hua hA hx hx0
        have HIX : Hid (∀ j : Nat, j < 4 → ∀ W, (Instr.index 61 (.agg #[.int .i64 d, .int .i64 x0, .int .i64 f, .int .i64 t]) (.int .i64 (j : Nat))).run Tryd.prog W = .ok (.int .i64 (colV (x0, f, t, d) j)) W) := Lib.hid fun j hj W => by
          have h4 : j = 0 ∨ j = 1 ∨ j = 2 ∨ j = 3 := by omega
          rcases h4 with rfl | rfl | rfl | rfl <;> rfl
        go_wp2
        clear n0 n1 n2 n3 x0' x1' x2' x3' j1 hw0
        go_loopg [5, 8, 9, 31] 4 (fun g ov _ _ iv wq => ∃ j : Nat, g = 4 - j ∧ iv = .int .i64 (j : Nat) ∧ j ≤ 4 ∧ Hid (RowB wq w.heap.size ov (prL (L.take k) ++ prC (x0, f, t, d) j)) ∧ Hid (Up w wq))
        case atStart => exact ⟨0, rfl, rfl, by omega, Lib.hid (by show RowB _ _ _ (_ ++ []); rw [List.append_nil]; exact HOa.out), HUa⟩
        case round =>
          obtain ⟨j, hg, rfl, hj, HOj, HUj⟩ := hrel
          have HGj := Lib.hid hg
          clear hg
          by_cases hj4 : j < 4
          · have ix := HIX.out j hj4
            obtain ⟨z0, z1⟩ := colV_in HX0.out j
            have hcl := prC_len HX0.out j
            have HCn := Lib.hid (show prC (x0, f, t, d) (j + 1) = prC (x0, f, t, d) j ++ dig (colV (x0, f, t, d) j) ++ [endB j] from rfl)
            obtain ⟨z, hz⟩ : ∃ z, colV (x0, f, t, d) j = z := ⟨_, rfl⟩
            rw [hz] at ix z0 z1 HCn
            have hdl := dig_len z0 (by omega)
            obtain ⟨l, hl⟩ : ∃ l, prL (L.take k) ++ prC (x0, f, t, d) j = l := ⟨_, rfl⟩
            have hll : l.length ≤ 900000 := by rw [← hl, List.length_append]; omega
            rw [hl] at HOj
            have HLj := Lib.hid (show prL (L.take k) ++ prC (x0, f, t, d) (j + 1) = l ++ dig z ++ [endB j] by rw [HCn.out, ← hl]; simp only [List.append_assoc])
            have HAI := Lib.hid (fun v W (hu : Up w W) (h : RowB W w.heap.size v l) => appendInt_any w W hu HT.out v l h (by omega) z z0 (by omega))
            have HBh := Lib.hid (fun W => behind_any j W)
            have j1 : (j : Int) < 4 := by omega
            have hlz : (l ++ dig z).length ≤ 900100 := by rw [List.length_append]; omega
            clear hz hl hcl hdl hll
            go_wp2_with (first
              | (go_at_call 42; ((with_reducible refine (HAI.out _ _ HUj.out HOj.out).mono ?_); rintro e w5 ⟨v5, rfl, hr5, hu5⟩; have HR5 := Lib.hid hr5; have HU5 := Lib.hid hu5; clear hr5 hu5))
              | (go_at_call 43; ((with_reducible refine (HBh.out _).mono ?_); rintro e w6 ⟨rfl, rfl⟩; have hsz5 : w.heap.size ≤ w5.heap.size := Below.size HU5.out; have ho := HR5.out; unfold RowB at ho))
              | (at_builtin; (obtain ⟨i0, hi0, hz0, hz1, hz2⟩ := info_parts infoByte; refine wpList_append_own _ rfl _ _ 60 rfl w.heap.size 5 i0 (.int .u8 0) 1 1 Tryd.underlying60 hi0 hz0 hz1 hz2 rfl (by decide) _ _ _ rfl (ho.alloc _) ⟨w5.heap.size, 0, none⟩ 1 1 [.int .u8 ((endB j).toNat : Nat)] rfl rfl (cell_one_new _ _ _) (by simp [Value.oneCell']) (by unfold maxLen; omega) (by omega) (by simp; omega) ?_; clear hi0 hz0 hz1 hz2; intro v7 w7 hown7 hgrow7 _)))
            have HO7 := Lib.hid (show RowB w7 w.heap.size v7 (prL (L.take k) ++ prC (x0, f, t, d) (j + 1)) by
              rw [HLj.out]
              unfold RowB
              rw [byteCells_app, List.length_append]
              exact hown7)
            have HU7 := Lib.hid (show Up w w7 from (HU5.out.trans (Up.alloc w5 _)).grown hgrow7 (by simp; omega) (fun q hq => own_base ho hq))
            clear hown7 hgrow7 ho
            go_roundg (4 - (j + 1))
            case measure => rw [HGj.out]; omega
            case rel => exact ⟨j + 1, rfl, by go_num, by omega, HO7, HU7⟩
          · obtain rfl : j = 4 := by omega
            have HO8 := Lib.hid (show RowB wr w.heap.size _ (prL (L.take (k + 1))) from by
              rw [HNX.out, ← prC_four]
              exact HOj.out)
            clear hj4
            go_wp2
            go_roundg (n - (k + 1))
            case measure => rw [HG.out]; omega
            case rel => exact ⟨k + 1, rfl, by go_num, by omega, HO8, HUj⟩
      · obtain rfl : k = n := by omega
        have f0 : decide (k < k) = false := decide_eq_false hlt
        have hO := HO.out
        rw [List.take_of_length_le (by rw [HLen.out]; exact Nat.le_refl _)] at hO
        have hne : 0 < (prL L).length := by
          have h1 := HNz.out
          cases L with
          | nil => exact absurd h1 (by have := HLen.out; simp at this; omega)
          | cons x t =>
            show 0 < (prN x ++ prL t).length
            unfold prN
            simp
            omega
        obtain ⟨l, hl⟩ : ∃ l, prL L = l := ⟨_, rfl⟩
        rw [hl] at hO hne HP
        rcases owns_cell hO with ⟨rfl, hz⟩ | ⟨g, cp, rfl, -, -, hcc⟩
        · exact absurd hz (by omega)
        have hcv := run_convert_bytes_back (P := Tryd.prog) wr 60 9 5 ⟨g, 0, none⟩ cp l Tryd.underlying60 Tryd.underlying5 Tryd.underlying9 (fun j hj => by
          have h1 := hcc j (.int .u8 (l[j].toNat : Int)) (by simp [Lib.byteCells, hj])
          rw [add_flat rfl]
          simpa using h1)
        have HO2 := Lib.hid hO
        clear hlt hO hl hcc hne
        go_wp2
        go_ret2
        exact ⟨by rw [HP.out]; rfl, HU.out⟩
end Go.Proofs.YtidnldchdahgeaaDoor
