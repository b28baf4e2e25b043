/- The program's same, closed, content. -/
import Derived.Test.YtopdbilkpkgccaaDoorMkP2
import Derived.Test.YtopdbilkpkgccaaDoorMkMath2
import Derived.Lib.ConvBytes
import Derived.Lib.RowBridge
namespace Go.Proofs.YtopdbilkpkgccaaDoor
open Go.RowKit Go.Shelf

abbrev UB : TypeId := 5
set_option maxRecDepth 100000 in
theorem same_any (c : Nat) (w : World) : Calls Tryd.prog 17 #[.int .u8 (c : Nat)] w fun e w' => ∃ b, e = .returned (.func (.func 30) #[] #[.pointer (some ⟨b, 0, none⟩)]) ∧ w.heap.size ≤ b ∧ w'.cell? ⟨b, 0, none⟩ = some (.int .u8 (c : Nat)) ∧ Up w w' := by
  have hb := box_cell w (.int .u8 (c : Nat)) UB
  have hu := Up.alloc w (.cells #[.int .u8 (c : Nat)] UB)
  have HB := Lib.hid hb
  have HU := Lib.hid hu
  clear hb hu
  go_enter Tryd.func17, Tryd.ntmps17
  go_wp2
  go_ret
  exact ⟨_, rfl, Nat.le_refl _, HB.out, HU.out⟩
def encN (x : Nat) : Value := .int .u8 (x : Nat)
theorem encN_one : OneCell encN := fun _ => rfl
theorem setCells_up {w0 W : World} {g : Nat} (hg : w0.heap.size ≤ g) : ∀ (xs : List Value) (o : Nat), Up w0 W → Up w0 (W.setCells g o xs) := by
  intro xs
  induction xs generalizing W with
  | nil => intro o h; exact h
  | cons x r ih => intro o h; exact ih (o + 1) (Below.setCell h (p := ⟨g, o, none⟩) hg x)
/-- The bytes of a row, in reverse. -/
theorem rev_any {w0 : World} (g cap : Nat) (zs : List Nat) (W : World) (hz : zs.length ≤ 1000000) (hg : w0.heap.size ≤ g) (hu : Up w0 W) (hc : ∀ (i x : Nat), zs[i]? = some x → W.cell? ⟨g, i, none⟩ = some (.int .u8 (x : Nat)) ∧ W.frozen? ⟨g, i, none⟩ = false) :
    Calls Tryd.prog 43 #[.slice (some ⟨g, 0, none⟩) zs.length cap] W fun e w' => e = .returned (.tuple #[]) ∧ (∀ (i x : Nat), zs.reverse[i]? = some x → w'.cell? ⟨g, i, none⟩ = some (.int .u8 (x : Nat))) ∧ Up w0 w' := by
  have hH : Go.Sort.Holds encN W g 0 zs.toArray := fun j hj => by
    have hj' : j < zs.length := by simpa using hj
    have := hc j zs[j] (List.getElem?_eq_getElem hj')
    rw [Nat.zero_add]
    have e : zs.toArray[j]! = zs[j] := by simp [hj']
    rw [e]
    exact this
  have h := AnyE.slices_Reverse Tryd.revLays encN encN_one g 0 cap zs W hH (by omega)
  change Calls Tryd.prog 43 #[.slice (some ⟨g, 0, none⟩) zs.length cap] W _ at h
  refine h.mono ?_
  rintro e w' ⟨rfl, n, rfl⟩
  refine ⟨rfl, fun i x hx => ?_, ?_⟩
  · have hH2 := Go.Sort.holds_putRow encN (Go.Sort.ahead W n) g 0 zs.toArray zs.reverse.toArray (Go.Sort.holds_ahead encN W n g 0 zs.toArray hH) (by simp)
    have hi := (List.getElem?_eq_some_iff.1 hx).1
    have := (hH2 i (by simpa using hi)).1
    rw [Nat.zero_add] at this
    rw [this]
    have e : zs.reverse.toArray[i]! = x := by
      rw [getElem!_pos _ i (by simpa using hi)]
      rw [List.getElem?_eq_getElem hi] at hx
      injection hx with hx
    rw [e, encN]
  · rw [Lib.putRow_eq_setCells encN W g 0 zs.toArray zs.reverse n hH (by simp)]
    exact setCells_up hg _ _ (hu.trans (Up.drewN _ _))
theorem conv_any (w : World) (s : ByteArray) : ∃ cap W1, (convert 9 31 (.string s)).run Tryd.prog w = .ok (.slice (some ⟨w.heap.size, 0, none⟩) s.size cap) W1 ∧ Up w W1 ∧ s.size ≤ cap ∧ (∀ (i x : Nat), (bl s)[i]? = some x → W1.cell? ⟨w.heap.size, i, none⟩ = some (.int .u8 (x : Nat)) ∧ W1.frozen? ⟨w.heap.size, i, none⟩ = false) := by
  have hge := grownCap_ge w s.size 0 UB
  have hsz : (Lib.bytesCells w UB s).size = grownCap w s.size 0 UB := by
    unfold Lib.bytesCells
    rw [Array.size_append, Array.size_map, Array.size_replicate]
    have : s.data.size = s.size := rfl
    omega
  have hu : Up w (Lib.bytesWorld w UB s) := by
    have h1 : Up w (w.drew.alloc (.cells (Lib.bytesCells w UB s) UB)) := (Up.drew w).trans (Up.alloc _ _)
    refine ⟨h1.os, h1.tape, h1.output, ?_, ?_⟩
    · rw [Lib.bytesWorld_size]; omega
    · intro k hk
      exact Lib.bytesWorld_at_old w UB s k hk
  refine ⟨_, _, Lib.run_convert_string_bytes w _ _ _ s Tryd.underlying9 Tryd.underlying31 Tryd.underlying5, hu, hge, fun i x hx => ?_⟩
  have hb := Lib.bytesWorld_at_new w UB s
  have hi : i < s.size := by
    have := (List.getElem?_eq_some_iff.1 hx).1
    rw [bl_len] at this
    exact this
  have hcell : (Lib.bytesCells w UB s)[i]? = some (.int .u8 (x : Nat)) := by
    unfold Lib.bytesCells
    rw [Array.getElem?_append_left (by rw [Array.size_map]; exact hi), Array.getElem?_map]
    unfold bl at hx
    rw [List.getElem?_map] at hx
    rw [← Array.getElem?_toList]
    cases hq : s.data.toList[i]? with
    | none => rw [hq] at hx; cases hx
    | some y =>
      rw [hq] at hx
      injection hx with hx
      rw [← hx]
      rfl
  refine ⟨by simp [World.cell?, hb, hcell], ?_⟩
  simp only [World.frozen?, hb, Bool.and_eq_false_iff, decide_eq_false_iff_not]
  left
  omega
set_option maxRecDepth 100000 in
set_option maxHeartbeats 4000000 in
theorem closed_any (o : ByteArray) (w : World) (hs : (o.size : Int) ≤ 1000000) : Calls Tryd.prog 32 #[.string o] w fun e w' => e = .returned (.int .i64 ((clL (bl o) : Nat) : Int)) ∧ Up w w' := by
  obtain ⟨cap, W1, hconv, hu1, hcap, hcells⟩ := conv_any w o
  have hl : (bl o).length = o.size := bl_len o
  have HRv0 := rev_any (w0 := w) w.heap.size cap (bl o) W1 (by omega) (Nat.le_refl _) hu1 hcells
  rw [hl] at HRv0
  have HRv := Lib.hid HRv0
  have HSm := Lib.hid (fun W => by have h := same_any 35 W; rw [show ((35 : Nat) : Int) = 35 from rfl] at h; exact h)
  obtain ⟨T, hT⟩ : ∃ T, tlL 35 (bl o) = T := ⟨_, rfl⟩
  have hTl : T ≤ o.size := by rw [← hT, ← hl]; exact tlL_le 35 (bl o)
  have HRow := Lib.hid (fun (W : World) (b : Nat) (hc : W.cell? ⟨b, 0, none⟩ = some (.int .u8 35)) (hL : ∀ (i x : Nat), (bl o).reverse[i]? = some x → W.cell? ⟨w.heap.size, i, none⟩ = some (.int .u8 (x : Nat))) => by
    have h := rowBy_any (bl o).reverse w.heap.size cap 35 b W (by rw [List.length_reverse, hl]; exact hs) hc hL
    rw [List.length_reverse, hl, show rwL (· == 35) (bl o).reverse = T from hT] at h
    exact h)
  obtain ⟨k, hk⟩ : ∃ k, o.size - T = k := ⟨_, rfl⟩
  have HE := Lib.hid (show IntKind.i64.wrap ((o.size : Int) - (T : Nat)) = (k : Nat) from (IntWalk.i64_in _ (by omega)).trans (by omega))
  have hcl : clL (bl o) = if 0 < k ∧ bk ((bl o).getD (k - 1) 0) = true then k else o.size := by unfold clL; rw [hT, hl, hk]
  rw [hcl]
  have HBk := Lib.hid (fun x W => isBk_any x W)
  have hne : bl o ≠ [] ∨ bl o = [] := by by_cases h : bl o = [] <;> simp [h]
  clear hcl HRv0 hT hcells hu1 hcap hne
  by_cases hk0 : k = 0
  · rw [if_neg (by omega)]
    have g0 : ¬ ((0 : Int) < (k : Int)) := by omega
    have g1 : decide (0 < k) = false := decide_eq_false (by omega)
    have g2 : decide ((0 : Int) < (k : Int)) = false := decide_eq_false g0
    clear hk hTl hs hl hk0 g0
    go_enter Tryd.func32, Tryd.ntmps32
    have e1 := HE.out
    go_wp2_with (first
      | (go_at_call 43; ((with_reducible refine HRv.out.mono ?_); rintro e w2 ⟨rfl, hrv, hu2⟩; have HV := Lib.hid hrv; have HU2 := Lib.hid hu2; clear hrv hu2))
      | (go_at_call 17; ((with_reducible refine (HSm.out _).mono ?_); rintro e w3 ⟨b, rfl, hb0, hb, hu3⟩; have HB := Lib.hid hb; have HU3 := Lib.hid (HU2.out.trans hu3); have HV3 := Lib.hid (fun i x h => cell_up hu3 (HV.out i x h)); clear hb hb0 hu3))
      | (go_at_call 44; ((with_reducible refine (HRow.out _ _ HB.out HV3.out).mono ?_); rintro e w4 ⟨rfl, rfl⟩)))
    go_ret
    exact ⟨rfl, HU3.out⟩
  obtain ⟨j, rfl⟩ : ∃ j, k = j + 1 := ⟨k - 1, by omega⟩
  have hj : j < o.size := by omega
  obtain ⟨x, hx0⟩ : ∃ x, bt o j = x := ⟨_, rfl⟩
  have hx : o[j].toNat = x := by rw [bt_eq hj]; exact hx0
  have hgd : (bl o).getD (j + 1 - 1) 0 = x := by
    rw [Nat.add_sub_cancel, List.getD_eq_getElem?_getD, bl_at hj, hx0]
    rfl
  rw [hgd]
  have p0 : (0 : Int) ≤ (j : Int) := by omega
  have p1 : (j : Int) < o.size := by omega
  have p2 : (0 : Int) < ((j + 1 : Nat) : Int) := by omega
  have HE2 := Lib.hid (show wrap64 (j : Int) = (j : Nat) from IntWalk.wrap64_in _ (by omega))
  cases hb : bk x with
  | true =>
    rw [if_pos ⟨by omega, rfl⟩]
    have HB1 := Lib.hid (fun W => by have h := HBk.out x W; rw [hb] at h; exact h)
    clear hk hTl hs hl hk0 hgd hx0 hb
    go_enter Tryd.func32, Tryd.ntmps32
    have e1 := HE.out
    have e2 := HE2.out
    go_wp2_with (first
      | (go_at_call 43; ((with_reducible refine HRv.out.mono ?_); rintro e w2 ⟨rfl, hrv, hu2⟩; have HV := Lib.hid hrv; have HU2 := Lib.hid hu2; clear hrv hu2))
      | (go_at_call 17; ((with_reducible refine (HSm.out _).mono ?_); rintro e w3 ⟨b, rfl, hb0, hb, hu3⟩; have HB := Lib.hid hb; have HU3 := Lib.hid (HU2.out.trans hu3); have HV3 := Lib.hid (fun i x h => cell_up hu3 (HV.out i x h)); clear hb hb0 hu3))
      | (go_at_call 44; ((with_reducible refine (HRow.out _ _ HB.out HV3.out).mono ?_); rintro e w4 ⟨rfl, rfl⟩))
      | (go_at_call 20; ((with_reducible refine (HB1.out _).mono ?_); rintro e w5 ⟨rfl, rfl⟩)))
    go_ret
    exact ⟨rfl, HU3.out⟩
  | false =>
    rw [if_neg (fun h => by cases h.2)]
    have HB1 := Lib.hid (fun W => by have h := HBk.out x W; rw [hb] at h; exact h)
    clear hk hTl hs hl hk0 hgd hx0 hb
    go_enter Tryd.func32, Tryd.ntmps32
    have e1 := HE.out
    have e2 := HE2.out
    go_wp2_with (first
      | (go_at_call 43; ((with_reducible refine HRv.out.mono ?_); rintro e w2 ⟨rfl, hrv, hu2⟩; have HV := Lib.hid hrv; have HU2 := Lib.hid hu2; clear hrv hu2))
      | (go_at_call 17; ((with_reducible refine (HSm.out _).mono ?_); rintro e w3 ⟨b, rfl, hb0, hb, hu3⟩; have HB := Lib.hid hb; have HU3 := Lib.hid (HU2.out.trans hu3); have HV3 := Lib.hid (fun i x h => cell_up hu3 (HV.out i x h)); clear hb hb0 hu3))
      | (go_at_call 44; ((with_reducible refine (HRow.out _ _ HB.out HV3.out).mono ?_); rintro e w4 ⟨rfl, rfl⟩))
      | (go_at_call 20; ((with_reducible refine (HB1.out _).mono ?_); rintro e w5 ⟨rfl, rfl⟩)))
    go_ret
    exact ⟨rfl, HU3.out⟩
end Go.Proofs.YtopdbilkpkgccaaDoor
