/- The document's prefixes and begins. -/
import Derived.Test.YtmfcapbllbfjnaaGreatDoorYLow
namespace Go.Proofs.YtmfcapbllbfjnaaGreatDoor
open Go.RowKit

def presB : List ByteArray := [⟨#[]⟩, ⟨#[114]⟩, ⟨#[117]⟩, ⟨#[98]⟩, ⟨#[102]⟩, ⟨#[98, 114]⟩, ⟨#[114, 98]⟩, ⟨#[102, 114]⟩, ⟨#[114, 102]⟩]
theorem presB_bl : presB.map bl = pres := by rfl
def pB (j : Nat) : ByteArray := presB.getD j ⟨#[]⟩
theorem pB_le (j : Nat) : (pB j).size ≤ 2 := by
  by_cases h : j < 9
  · match j, h with
    | 0, _ => decide
    | 1, _ => decide
    | 2, _ => decide
    | 3, _ => decide
    | 4, _ => decide
    | 5, _ => decide
    | 6, _ => decide
    | 7, _ => decide
    | 8, _ => decide
  · have e0 : presB[j]? = none := List.getElem?_eq_none (by show 9 ≤ j; omega)
    have e : pB j = ⟨#[]⟩ := by unfold pB; rw [List.getD_eq_getElem?_getD, e0]; rfl
    rw [e]; decide
theorem pres_drop {j : Nat} (h : j < 9) : pres.drop j = bl (pB j) :: pres.drop (j + 1) := by
  match j, h with
  | 0, _ => rfl
  | 1, _ => rfl
  | 2, _ => rfl
  | 3, _ => rfl
  | 4, _ => rfl
  | 5, _ => rfl
  | 6, _ => rfl
  | 7, _ => rfl
  | 8, _ => rfl
set_option maxRecDepth 100000 in
set_option maxHeartbeats 4000000 in
theorem prefixes_any (w : World) : Calls Tryz.prog 57 #[] w fun e w' => ∃ b, e = .returned (.slice (some ⟨b, 0, none⟩) 9 9) ∧ (∀ j, j < 9 → w'.cell? ⟨b, j, none⟩ = some (.string (pB j))) ∧ Up w w' := by
  go_enter Tryz.func57, Tryz.ntmps57
  go_wp2
  go_ret
  refine ⟨w.heap.size, rfl, fun j hj => ?_, Up.alloc _ _⟩
  refine cellOf (Go.heap_alloc_new w _) ?_
  match j, hj with
  | 0, _ => rfl
  | 1, _ => rfl
  | 2, _ => rfl
  | 3, _ => rfl
  | 4, _ => rfl
  | 5, _ => rfl
  | 6, _ => rfl
  | 7, _ => rfl
  | 8, _ => rfl
/-- The first mark from m on whose quotes stand there. -/
def begG : Nat → Nat → List Nat → Nat → Nat × Nat
  | 0, _, _, _ => (0, 0)
  | f + 1, m, l, n => if (quo m).isPrefixOf l = true then (m, n + (quo m).length) else begG f (m + 1) l n
theorem begM_g (l : List Nat) (n : Nat) : begM l n = begG 4 1 l n := rfl
theorem begG_step {m n : Nat} {l : List Nat} (h : m ≤ 4) : begG (5 - m) m l n = if (quo m).isPrefixOf l = true then (m, n + (quo m).length) else begG (5 - (m + 1)) (m + 1) l n := by
  rw [show 5 - m = (5 - (m + 1)) + 1 from by omega]
  rfl
/-- Where the quotes' end is told to be. -/
def begE (i : Nat) (r : Nat × Nat) : Nat := if r.1 = 0 then 0 else i + r.2
theorem begP_bytes (s : ByteArray) (i : Nat) (p : ByteArray) (h : i + p.size ≤ s.size) : begP (bl p) ((bl s).drop i) = ((lowS (s.extract i (i + p.size))).toList == p.toList) := by
  unfold begP
  rw [decide_eq_true (by rw [bl_len, List.length_drop, bl_len]; omega), Bool.true_and, beq_bytes, Bool.eq_iff_iff, beq_iff_eq, decide_eq_true_eq, bl_len]
  have e : bl (lowS (s.extract i (i + p.size))) = (((bl s).drop i).take p.size).map lowN := by
    rw [lowS_bl, bl_extract, List.drop_take, Nat.add_sub_cancel_left]
  rw [← e]
  exact ⟨fun k => bl_inj k, fun k => by rw [k]⟩
theorem begP_long (s : ByteArray) (i : Nat) (p : ByteArray) (hi : i ≤ s.size) (h : ¬ i + p.size ≤ s.size) : begP (bl p) ((bl s).drop i) = false := by
  unfold begP
  rw [decide_eq_false (by rw [bl_len, List.length_drop, bl_len]; omega)]
  rfl
theorem begF_cons (p : List Nat) (ps : List (List Nat)) (l : List Nat) : begF (p :: ps) l = if begP p l = true ∧ (begM (l.drop p.length) p.length).1 ≠ 0 then begM (l.drop p.length) p.length else begF ps l := rfl
theorem keepC {w a c : World} {b k : Nat} {v : Value} (hu : Up a c) (h : Up w a ∧ a.cell? ⟨b, k, none⟩ = some v) : Up w c ∧ c.cell? ⟨b, k, none⟩ = some v := ⟨h.1.trans hu, cell_up hu h.2⟩
set_option maxRecDepth 100000 in
set_option maxHeartbeats 4000000 in
theorem begins_any (s : ByteArray) (i : Nat) (w : World) (hs : (s.size : Int) ≤ 1000000) (hi : i ≤ s.size) : Calls Tryz.prog 31 #[.string s, .int .i64 (i : Nat)] w fun e w' => e = .returned (.tuple #[.int .u8 ((begL ((bl s).drop i)).1 : Nat), .int .i64 (begE i (begL ((bl s).drop i)) : Nat)]) ∧ Up w w' := by
  have HA := Lib.hid (fun W m p (hp : p ≤ s.size) => at_any s (quoB m) p W hs (Nat.le_trans (quoB_le m) (by decide)) hp)
  have HQ := Lib.hid (fun W m => quotes_any m W)
  have HP := Lib.hid (fun W => prefixes_any W)
  have HLOW := Lib.hid (fun W p (hp : p ≤ 2) => low_any (s.extract i (i + p)) W (by rw [ByteArray.size_extract]; omega))
  obtain ⟨r1, h1⟩ : ∃ r1, (begL ((bl s).drop i)).1 = r1 := ⟨_, rfl⟩
  obtain ⟨r2, h2⟩ : ∃ r2, begE i (begL ((bl s).drop i)) = r2 := ⟨_, rfl⟩
  rw [h1, h2]
  have H1 := Lib.hid (show (begF (pres.drop 0) ((bl s).drop i)).1 = r1 from h1)
  have H2 := Lib.hid (show begE i (begF (pres.drop 0) ((bl s).drop i)) = r2 from h2)
  have HS := Lib.hid hs
  have HI := Lib.hid hi
  clear h1 h2 hs hi
  go_enter Tryz.func31, Tryz.ntmps31
  go_wp2_with (go_at_call 57; ((with_reducible refine (HP.out _).mono ?_); rintro e w1 ⟨b, rfl, hc, hu⟩; have HC := Lib.hid hc; have HU := Lib.hid hu; clear hc hu))
  go_loopg [7] 9 (fun g iv wr => ∃ k : Nat, g = 9 - k ∧ iv = .int .i64 (k : Nat) ∧ Hid (k ≤ 9) ∧ Hid ((begF (pres.drop k) ((bl s).drop i)).1 = r1) ∧ Hid (begE i (begF (pres.drop k) ((bl s).drop i)) = r2) ∧ Hid (Up w1 wr))
  case atStart => exact ⟨0, rfl, rfl, Lib.hid (by omega), H1, H2, Lib.hid (Up.refl _)⟩
  case round =>
    clear H1 H2
    obtain ⟨k, hg, rfl, HK, H1, H2, HV⟩ := hrel
    have HG := Lib.hid hg
    clear hg
    by_cases hlt : k < 9
    · obtain ⟨p, hp⟩ : ∃ p, pB k = p := ⟨_, rfl⟩
      have c0 : wr.cell? ⟨b, k, none⟩ = some (.string p) := by rw [← hp]; exact cell_up HV.out (HC.out k hlt)
      have hps : p.size ≤ 2 := by rw [← hp]; exact pB_le k
      have h1 := H1.out
      have h2 := H2.out
      rw [pres_drop hlt, hp, begF_cons, bl_len] at h1 h2
      have HKK := Lib.hid hlt
      have HPS := Lib.hid hps
      have p0 : (0 : Int) ≤ k := by omega
      have p1 : (k : Int) < 9 := by omega
      have i0 : (0 : Int) ≤ i := by omega
      have e0 : IntKind.i64.wrap ((k : Int) + 1) = (k : Int) + 1 := IntWalk.i64_in _ (by omega)
      have e1 : IntKind.i64.wrap ((i : Int) + p.size) = ((i + p.size : Nat) : Int) := (IntWalk.i64_in _ (by have := HS.out; have := HI.out; omega)).trans (by omega)
      clear hp
      by_cases hn : i + p.size ≤ s.size
      · have n1 : decide ((s.size : Int) < (i + p.size : Nat)) = false := decide_eq_false (by omega)
        have n4 : decide (s.size < i + p.size) = false := decide_eq_false (by omega)
        have n2 : ((i + p.size : Nat) : Int) ≤ s.size := by omega
        have n5 : (i : Int) + p.size ≤ s.size := by omega
        have n7 : decide ((s.size : Int) < (i : Int) + p.size) = false := decide_eq_false (by omega)
        have n8 : (i : Int) ≤ (i : Int) + p.size := by omega
        have hS : Up w1 wr ∧ wr.cell? ⟨b, k, none⟩ = some (.string p) := ⟨HV.out, c0⟩
        have n6 : i ≤ i + p.size := by omega
        have n3 : (i : Int) ≤ (i + p.size : Nat) := by omega
        rw [begP_bytes s i p hn] at h1 h2
        obtain ⟨B, hB⟩ : ∃ B, ((lowS (s.extract i (i + p.size))).toList == p.toList) = B := ⟨_, rfl⟩
        have hlow := fun W => HLOW.out W p.size hps
        obtain ⟨ls, hls⟩ : ∃ ls, lowS (s.extract i (i + p.size)) = ls := ⟨_, rfl⟩
        rw [hls] at hB hlow
        rw [hls, hB] at h1 h2
        have et : ((i : Int) + (p.size : Int)).toNat = i + p.size := by omega
        rw [← et] at hlow
        have HLO := Lib.hid hlow
        have HN := Lib.hid hn
        have H1 := Lib.hid h1
        have H2 := Lib.hid h2
        clear h1 h2 hlow hls hn hps et
        go_wp2
        go_region_held3 (fun w' => Up w1 w' ∧ w'.cell? ⟨b, k, none⟩ = some (.string p))
          (first | assumption | with_reducible exact keepC hu2 (by assumption) | with_reducible exact keepC (Up.drew _) (by assumption))
          (first | (go_at_call 58; ((with_reducible refine (HLO.out _).mono ?_); rintro e w2 ⟨rfl, hu2⟩)))
        have HU2 := Lib.hid (by assumption : Up w1 w2 ∧ _).1
        have HN2 := Lib.hid (show (bl s).drop (i + p.size) = ((bl s).drop i).drop p.size by rw [List.drop_drop])
        clear hS c0 n1 n2 n3 n4 n5 n6 n7 n8 HLO
        cases B with
        | false =>
          have h1 := H1.out
          have h2 := H2.out
          rw [if_neg (fun h => Bool.false_ne_true h.1)] at h1 h2
          have H1 := Lib.hid h1
          have H2 := Lib.hid h2
          clear h1 h2
          go_wp2
          go_roundg (9 - (k + 1))
          case measure => rw [HG.out]; have := HKK.out; omega
          case rel => exact ⟨k + 1, rfl, by go_num, Lib.hid HKK.out, H1, H2, HU2⟩
        | true =>
          obtain ⟨Q, hQ⟩ : ∃ Q, begM (((bl s).drop i).drop p.size) p.size = Q := ⟨_, rfl⟩
          have h1 := H1.out
          have h2 := H2.out
          rw [hQ] at h1 h2
          rw [← HN2.out, begM_g] at hQ
          have HQ0 := Lib.hid (show begG (5 - 1) 1 ((bl s).drop (i + p.size)) p.size = Q from hQ)
          have H1 := Lib.hid h1
          have H2 := Lib.hid h2
          have hAT : ∀ W m, Calls Tryz.prog 59 #[.string s, .int .i64 ((i : Int) + (p.size : Int)), .string (quoB m)] W fun e w' => e = .returned (.bool ((quo m).isPrefixOf ((bl s).drop (i + p.size)))) ∧ W = w' := fun W m => by
            have := HA.out W m (i + p.size) HN.out
            rw [quoB_bl, show ((i + p.size : Nat) : Int) = (i : Int) + (p.size : Int) from by omega] at this
            exact this
          have HAT := Lib.hid hAT
          clear hAT HA h1 h2 hQ HP
          go_wp2
          go_loopg [9] 4 (fun g iv wr => w2 = wr ∧ ∃ m : Nat, g = 5 - m ∧ iv = .int .u8 (m : Nat) ∧ Hid (1 ≤ m ∧ m ≤ 5) ∧ Hid (begG (5 - m) m ((bl s).drop (i + p.size)) p.size = Q))
          case atStart => exact ⟨rfl, 1, rfl, rfl, Lib.hid ⟨by omega, by omega⟩, HQ0⟩
          case round =>
            clear HQ0
            obtain ⟨rfl, m, hg, rfl, HM, HQ1⟩ := hrel
            have HG2 := Lib.hid hg
            clear hg
            by_cases hm : m ≤ 4
            · have hq := HQ1.out
              rw [begG_step hm] at hq
              obtain ⟨B, hB⟩ : ∃ B, (quo m).isPrefixOf ((bl s).drop (i + p.size)) = B := ⟨_, rfl⟩
              have hat := fun W => HAT.out W m
              rw [hB] at hat hq
              have HAT2 := Lib.hid hat
              have HQ2 := Lib.hid (fun W => HQ.out W m)
              have HMM := Lib.hid hm
              have m1 : (m : Int) ≤ 4 := by omega
              have hqs := quoB_le m
              have e5 : IntKind.u8.wrap ((m : Int) + 1) = (m : Int) + 1 := by unfold IntKind.wrap; simp [IntKind.signed, IntKind.bits]; omega
              have e6 : IntKind.i64.wrap ((i : Int) + (p.size : Int) + (quoB m).size) = (i : Int) + (p.size : Int) + (quoB m).size := IntWalk.i64_in _ (by have := HS.out; have := HI.out; have := HPS.out; omega)
              clear hat hB hm hqs
              cases B with
              | true =>
                rw [if_pos rfl] at hq
                have h1 := H1.out
                have h2 := H2.out
                rw [← hq] at h1 h2
                have hm0 : m ≠ 0 := by have := HM.out; omega
                rw [if_pos ⟨by trivial, hm0⟩] at h1 h2
                have h1' : m = r1 := h1
                have h2' : i + (p.size + (quo m).length) = r2 := by rw [← h2]; unfold begE; rw [if_neg hm0]
                subst h1' h2'
                clear h1 h2 hq hm0
                go_wp2_with (first | (go_at_call 33; ((with_reducible refine (HQ2.out _).mono ?_); rintro e w3 ⟨rfl, rfl⟩)) | (go_at_call 59; ((with_reducible refine (HAT2.out _).mono ?_); rintro e w4 ⟨rfl, rfl⟩)))
                go_ret2
                refine ⟨?_, HU.out.trans HU2.out⟩
                rw [show ((i + (p.size + (quo m).length) : Nat) : Int) = (i : Int) + (p.size : Int) + ((quoB m).size : Int) from by rw [← quoB_len]; omega]
                rfl
              | false =>
                rw [if_neg Bool.false_ne_true] at hq
                have HQ3 := Lib.hid hq
                clear hq
                go_wp2_with (first | (go_at_call 33; ((with_reducible refine (HQ2.out _).mono ?_); rintro e w3 ⟨rfl, rfl⟩)) | (go_at_call 59; ((with_reducible refine (HAT2.out _).mono ?_); rintro e w4 ⟨rfl, rfl⟩)))
                go_roundg (5 - (m + 1))
                case measure => rw [HG2.out]; have := HMM.out; omega
                case rel => exact ⟨rfl, m + 1, rfl, by go_num, Lib.hid ⟨by omega, by have := HMM.out; omega⟩, HQ3⟩
            · have hm5 : m = 5 := by have := HM.out; omega
              have hq := HQ1.out
              rw [hm5] at hq
              have hq' : (0, 0) = Q := hq
              have h1 := H1.out
              have h2 := H2.out
              rw [← hq', if_neg (fun h => h.2 rfl)] at h1 h2
              have H1 := Lib.hid h1
              have H2 := Lib.hid h2
              have f0 : decide ((m : Int) ≤ 4) = false := decide_eq_false (by omega)
              clear h1 h2 hq hq' hm5 hm
              go_wp2
              go_roundg (9 - (k + 1))
              case measure => rw [HG.out]; have := HKK.out; omega
              case rel => exact ⟨k + 1, rfl, by go_num, Lib.hid HKK.out, H1, H2, HU2⟩
      · have n1 : (s.size : Int) < (i + p.size : Nat) := by omega
        have n4 : s.size < i + p.size := by omega
        have n7 : (s.size : Int) < (i : Int) + p.size := by omega
        rw [begP_long s i p HI.out hn, if_neg (fun h => Bool.false_ne_true h.1)] at h1 h2
        have H1 := Lib.hid h1
        have H2 := Lib.hid h2
        clear h1 h2 hn hps hlt
        go_wp2
        go_quiet (fail)
        go_wp2
        go_roundg (9 - (k + 1))
        case measure => rw [HG.out]; have := HKK.out; omega
        case rel => exact ⟨k + 1, rfl, by go_num, Lib.hid HKK.out, H1, H2, Lib.hid (HV.out.trans (Up.drewN _ _))⟩
    · have hk : k = 9 := by have := HK.out; omega
      have h1 := H1.out
      have h2 := H2.out
      rw [hk] at h1 h2
      have h1' : 0 = r1 := h1
      have h2' : 0 = r2 := h2
      subst h1' h2'
      have f0 : decide ((k : Int) < 9) = false := decide_eq_false (by omega)
      clear h1 h2 hk hlt
      go_wp2
      go_ret2
      exact ⟨rfl, HU.out.trans HV.out⟩
end Go.Proofs.YtmfcapbllbfjnaaGreatDoor
