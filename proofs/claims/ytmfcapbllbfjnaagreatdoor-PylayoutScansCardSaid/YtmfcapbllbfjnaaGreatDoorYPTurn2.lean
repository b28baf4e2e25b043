/- The program's turns: names, numbers, operators, what is nothing. -/
import Derived.Test.YtmfcapbllbfjnaaGreatDoorYPTurn
namespace Go.Proofs.YtmfcapbllbfjnaaGreatDoor
open Go.RowKit
set_option linter.unusedVariables false

set_option maxRecDepth 100000 in
set_option maxHeartbeats 4000000 in
theorem name_no1 (w0 W : World) (O : Nat → Obj → Prop) (b : Nat) (line : ByteArray) (p : Nat) (v : Value) (es : List PEv) (st : PSt) (hr : RdAt w0 W O b line p v es st) (hT : TabsP w0) (hp : p < line.size) (hs : (line.size : Int) ≤ 1000000) (hl : es.length ≤ 1000000) (hb : letN (bt line p) = false) (hd : digN (bt line p) = true) :
    Calls Tryz.prog 52 #[.pointer (some ⟨b, 0, none⟩)] W (Took w0 O b line false (p) (es) (st)) := by
  have c0 : W.cell? ⟨b, 0, none⟩ = some (.string line) := hr.cell rfl
  have c1 : W.cell? ⟨b, 1, none⟩ = some (.int .i64 (p : Nat)) := hr.cell rfl
  have p0 : (0 : Int) ≤ (p : Int) := by omega
  have p1 : (p : Int) < line.size := by omega
  have p2 : (p : Int) ≤ line.size := by omega
  have HR := Lib.hid hr
  have HNM := Lib.hid (fun W' => pNamed_any (bt line p) W')
  have HDG := Lib.hid (fun W' => pDigit_any (bt line p) W')
  rw [hb, hd, Bool.false_or] at HNM
  rw [hd] at HDG
  obtain ⟨c, hc⟩ : ∃ c, bt line p = c := ⟨_, rfl⟩
  have hx : line[p].toNat = c := by rw [bt_eq hp]; exact hc
  rw [hc] at HNM HDG
  have HRX := Lib.hid (hr.more (Up.drew W))
  clear hb hd hc
  clear hr hT hs hl
  go_enter Tryz.func52, Tryz.ntmps52
  go_wp2
  go_region
  go_wp2_with (first | (go_at_call 69; ((with_reducible refine (HNM.out _).mono ?_); rintro e w2 ⟨rfl, rfl⟩)) | (go_at_call 70; ((with_reducible refine (HDG.out _).mono ?_); rintro e w3 ⟨rfl, rfl⟩)))
  go_ret
  exact ⟨rfl, _, HRX.out⟩
set_option maxRecDepth 100000 in
set_option maxHeartbeats 4000000 in
theorem name_no2 (w0 W : World) (O : Nat → Obj → Prop) (b : Nat) (line : ByteArray) (p : Nat) (v : Value) (es : List PEv) (st : PSt) (hr : RdAt w0 W O b line p v es st) (hT : TabsP w0) (hp : p < line.size) (hs : (line.size : Int) ≤ 1000000) (hl : es.length ≤ 1000000) (hb : letN (bt line p) = false) (hd : digN (bt line p) = false) :
    Calls Tryz.prog 52 #[.pointer (some ⟨b, 0, none⟩)] W (Took w0 O b line false (p) (es) (st)) := by
  have c0 : W.cell? ⟨b, 0, none⟩ = some (.string line) := hr.cell rfl
  have c1 : W.cell? ⟨b, 1, none⟩ = some (.int .i64 (p : Nat)) := hr.cell rfl
  have p0 : (0 : Int) ≤ (p : Int) := by omega
  have p1 : (p : Int) < line.size := by omega
  have p2 : (p : Int) ≤ line.size := by omega
  have HR := Lib.hid hr
  have HNM := Lib.hid (fun W' => pNamed_any (bt line p) W')
  have HDG := Lib.hid (fun W' => pDigit_any (bt line p) W')
  rw [hb, hd, Bool.false_or] at HNM
  rw [hd] at HDG
  obtain ⟨c, hc⟩ : ∃ c, bt line p = c := ⟨_, rfl⟩
  have hx : line[p].toNat = c := by rw [bt_eq hp]; exact hc
  rw [hc] at HNM HDG
  have HRX := Lib.hid (hr.more (Up.drew W))
  clear hb hd hc
  clear hr hT hs hl
  go_enter Tryz.func52, Tryz.ntmps52
  go_wp2
  go_region
  go_wp2_with (first | (go_at_call 69; ((with_reducible refine (HNM.out _).mono ?_); rintro e w2 ⟨rfl, rfl⟩)) | (go_at_call 70; ((with_reducible refine (HDG.out _).mono ?_); rintro e w3 ⟨rfl, rfl⟩)))
  go_ret
  exact ⟨rfl, _, HRX.out⟩
theorem namT_cons (c : Nat) (r : List Nat) : namT (c :: r) = if (letN c || digN c) = true then namT r + 1 else 0 := rfl
theorem let_no_dig {c : Nat} (h : letN c = true) : digN c = false := by
  have := of_decide_eq_true h
  exact decide_eq_false (by omega)
set_option maxRecDepth 100000 in
set_option maxHeartbeats 4000000 in
theorem name_yes (w0 W : World) (O : Nat → Obj → Prop) (b : Nat) (line : ByteArray) (p : Nat) (v : Value) (es : List PEv) (st : PSt) (hr : RdAt w0 W O b line p v es st) (hT : TabsP w0) (hp : p < line.size) (hs : (line.size : Int) ≤ 1000000) (hl : es.length ≤ 1000000) (hb : letN (bt line p) = true) :
    Calls Tryz.prog 52 #[.pointer (some ⟨b, 0, none⟩)] W (Took w0 O b line true ((p + 1 + namT ((bl line).drop (p + 1)))) (es ++ [⟨13, p, (p + 1 + namT ((bl line).drop (p + 1)))⟩]) (lfS st 13 (((bl line).drop p).take ((p + 1 + namT ((bl line).drop (p + 1))) - p)))) := by
  have c0 : W.cell? ⟨b, 0, none⟩ = some (.string line) := hr.cell rfl
  have c1 : W.cell? ⟨b, 1, none⟩ = some (.int .i64 (p : Nat)) := hr.cell rfl
  have p0 : (0 : Int) ≤ (p : Int) := by omega
  have p1 : (p : Int) < line.size := by omega
  have p2 : (p : Int) ≤ line.size := by omega
  have HR := Lib.hid hr
  have hnl := namT_le ((bl line).drop (p + 1))
  rw [List.length_drop, bl_len] at hnl
  have hd := let_no_dig hb
  have HN0 := Lib.hid (fun W' => pNamed_any (bt line p) W')
  have HDG := Lib.hid (fun W' => pDigit_any (bt line p) W')
  rw [hb, Bool.true_or] at HN0
  rw [hd] at HDG
  have HN1 := Lib.hid (fun W' (c : Nat) => pNamed_any c W')
  obtain ⟨N, hN⟩ : ∃ N, p + 1 + namT ((bl line).drop (p + 1)) = N := ⟨_, rfl⟩
  rw [hN]
  have HLF := Lib.hid (fun W' (v' : Value) (st' : PSt) (hr' : RdAt w0 W' O b line p v' es st') => leaf_any w0 W' O b line p N v' es st' 13 hr' (by omega) (by omega) hs hl)
  rw [show ((13 : Nat) : Int) = 13 from rfl] at HLF
  have HN := Lib.hid hN
  obtain ⟨c, hc⟩ : ∃ c, bt line p = c := ⟨_, rfl⟩
  have hx : line[p].toNat = c := by rw [bt_eq hp]; exact hc
  rw [hc] at HN0 HDG
  have hr2 := hr.more (Up.drew W)
  have HRX := Lib.hid hr2
  have d0 : W.drew.cell? ⟨b, 0, none⟩ = some (.string line) := hr2.cell rfl
  have e1 : IntKind.i64.wrap ((p : Int) + 1) = (p : Int) + 1 := IntWalk.i64_in _ (by omega)
  have HSB := Lib.hid (show (line.size : Int) ≤ 1000000 ∧ p + 1 ≤ line.size from ⟨hs, hp⟩)
  clear hb hd hc hN hnl hr2
  clear hr hT hs hl
  go_enter Tryz.func52, Tryz.ntmps52
  go_wp2
  go_region
  go_wp2_with (first | (go_at_call 69; ((with_reducible refine (HN0.out _).mono ?_); rintro e w2 ⟨rfl, rfl⟩)) | (go_at_call 70; ((with_reducible refine (HDG.out _).mono ?_); rintro e w3 ⟨rfl, rfl⟩)))
  go_loopg [4] (line.size - p) (fun g iv wr => W.drew = wr ∧ ∃ q : Nat, g = line.size - q ∧ iv = .int .i64 ((q : Int) + 1) ∧ Hid (q + 1 ≤ line.size) ∧ Hid (q + 1 + namT ((bl line).drop (q + 1)) = N))
  case atStart => exact ⟨rfl, p, rfl, rfl, Lib.hid HSB.out.2, HN⟩
  case round =>
    clear HN
    obtain ⟨rfl, q, hg, rfl, HQ, HN⟩ := hrel
    have HG := Lib.hid hg
    clear hg
    have e3 : IntKind.i64.wrap ((q : Int) + 1 + 1) = (q : Int) + 1 + 1 := IntWalk.i64_in _ (by have := HSB.out; have := HQ.out; omega)
    by_cases hlt : q + 1 < line.size
    · obtain ⟨y, hy⟩ : ∃ y, line[q + 1].toNat = y := ⟨_, rfl⟩
      have hby : bt line (q + 1) = y := by rw [← bt_eq hlt]; exact hy
      have hq1 : (q : Int) + 1 < line.size := by omega
      have hq0 : (0 : Int) ≤ (q : Int) + 1 := by omega
      have hN := HN.out
      rw [bl_drop hlt, hby, namT_cons] at hN
      have HNM := Lib.hid (fun W' => HN1.out W' y)
      have HLT := Lib.hid hlt
      cases hB : (letN y || digN y) with
      | true =>
        rw [hB, if_pos rfl] at hN
        rw [hB] at HNM
        have HN2 := Lib.hid (show q + 1 + 1 + namT ((bl line).drop (q + 1 + 1)) = N by omega)
        clear hN hB hby HN0 HDG HN1 HLF
        go_wp2_with (go_at_call 69; ((with_reducible refine (HNM.out _).mono ?_); rintro e w2 ⟨rfl, rfl⟩))
        go_roundg (line.size - (q + 1))
        case measure => rw [HG.out]; have := HLT.out; omega
        case rel => exact ⟨rfl, q + 1, rfl, by go_num, Lib.hid HLT.out, HN2⟩
      | false =>
        rw [hB, if_neg Bool.false_ne_true] at hN
        rw [hB] at HNM
        have hN2 : q + 1 = N := hN
        subst hN2
        have HLF := Lib.hid (fun W' (v' : Value) (st' : PSt) (hr' : RdAt w0 W' O b line p v' es st') => HLF.out W' v' st' hr')
        rw [show ((q + 1 : Nat) : Int) = (q : Int) + 1 from rfl] at HLF
        clear hN hB hby HN0 HDG HN1 e3
        go_wp2_with (first | (go_at_call 69; ((with_reducible refine (HNM.out _).mono ?_); rintro e w2 ⟨rfl, rfl⟩)) | (go_at_call 67; ((with_reducible refine (HLF.out _ _ _ HRX.out).mono ?_); rintro e w4 ⟨rfl, v4, hr4⟩; have HR4 := Lib.hid hr4; clear hr4)))
        go_ret
        exact ⟨rfl, _, HR4.out⟩
    · have hN := HN.out
      rw [bl_end (by omega)] at hN
      have hN2 : q + 1 = N := hN
      subst hN2
      have f0 : decide ((q : Int) + 1 < line.size) = false := decide_eq_false (by omega)
      have HLF := Lib.hid (fun W' (v' : Value) (st' : PSt) (hr' : RdAt w0 W' O b line p v' es st') => HLF.out W' v' st' hr')
      rw [show ((q + 1 : Nat) : Int) = (q : Int) + 1 from rfl] at HLF
      clear hN HN0 HDG hlt HN1 e3
      go_wp2_with (first | (go_at_call 69; ((with_reducible refine (HNM.out _).mono ?_); rintro e w2 ⟨rfl, rfl⟩)) | (go_at_call 67; ((with_reducible refine (HLF.out _ _ _ HRX.out).mono ?_); rintro e w4 ⟨rfl, v4, hr4⟩; have HR4 := Lib.hid hr4; clear hr4)))
      go_ret
      exact ⟨rfl, _, HR4.out⟩
set_option maxRecDepth 100000 in
set_option maxHeartbeats 4000000 in
theorem number_no (w0 W : World) (O : Nat → Obj → Prop) (b : Nat) (line : ByteArray) (p : Nat) (v : Value) (es : List PEv) (st : PSt) (hr : RdAt w0 W O b line p v es st) (hT : TabsP w0) (hp : p < line.size) (hs : (line.size : Int) ≤ 1000000) (hl : es.length ≤ 1000000) (hb : numO ((bl line).drop p) = 0) :
    Calls Tryz.prog 53 #[.pointer (some ⟨b, 0, none⟩)] W (Took w0 O b line false (p) (es) (st)) := by
  have c0 : W.cell? ⟨b, 0, none⟩ = some (.string line) := hr.cell rfl
  have c1 : W.cell? ⟨b, 1, none⟩ = some (.int .i64 (p : Nat)) := hr.cell rfl
  have p0 : (0 : Int) ≤ (p : Int) := by omega
  have p1 : (p : Int) < line.size := by omega
  have p2 : (p : Int) ≤ line.size := by omega
  have HR := Lib.hid hr
  have HNU := Lib.hid (fun W' => (show Calls Tryz.prog 71 #[.string (line.extract p line.size)] W' fun e w' => e = .returned (.int .i64 (numO ((bl line).drop p) : Nat)) ∧ Up W' w' from by
    have h := numeral_any (line.extract p line.size) W' (by rw [ByteArray.size_extract]; omega) (by rw [ByteArray.size_extract]; omega)
    rw [← drop_bytes] at h
    exact h))
  rw [hb, show ((0 : Nat) : Int) = 0 from rfl] at HNU
  have hS : RdAt w0 W O b line p v es st ∧ W.cell? ⟨b, 0, none⟩ = some (.string line) ∧ W.cell? ⟨b, 1, none⟩ = some (.int .i64 (p : Nat)) := ⟨hr, c0, c1⟩
  clear hb c0 c1
  clear hr hT hs hl
  go_enter Tryz.func53, Tryz.ntmps53
  go_wp2
  go_region_held3 (fun w' => RdAt w0 w' O b line p v es st ∧ w'.cell? ⟨b, 0, none⟩ = some (.string line) ∧ w'.cell? ⟨b, 1, none⟩ = some (.int .i64 (p : Nat)))
    (first | assumption | with_reducible exact keepC01 (Up.drew _) (by assumption) | with_reducible exact keepC01 hu (by assumption))
    (first | (go_at_call 71; ((with_reducible refine (HNU.out _).mono ?_); rintro e w2 ⟨rfl, hu⟩)))
  have HRX := Lib.hid (hS.1.more ((Up.drew W).trans hu))
  clear hS
  go_wp2
  go_ret
  exact ⟨rfl, _, HRX.out⟩
theorem numO_le (l : List Nat) : numO l ≤ l.length := by
  cases l with
  | nil => exact Nat.le_refl _
  | cons c r =>
    have := numT_le (sgn (c :: r)) c r
    rw [numO_cons]
    split
    · show numT (sgn (c :: r)) c r + 1 ≤ (c :: r).length
      rw [List.length_cons]
      omega
    · exact Nat.zero_le _
set_option maxRecDepth 100000 in
set_option maxHeartbeats 4000000 in
theorem number_yes (w0 W : World) (O : Nat → Obj → Prop) (b : Nat) (line : ByteArray) (p : Nat) (v : Value) (es : List PEv) (st : PSt) (hr : RdAt w0 W O b line p v es st) (hT : TabsP w0) (hp : p < line.size) (hs : (line.size : Int) ≤ 1000000) (hl : es.length ≤ 1000000) (hb : numO ((bl line).drop p) ≠ 0) :
    Calls Tryz.prog 53 #[.pointer (some ⟨b, 0, none⟩)] W (Took w0 O b line true ((p + numO ((bl line).drop p))) (es ++ [⟨14, p, (p + numO ((bl line).drop p))⟩]) (lfS st 14 (((bl line).drop p).take ((p + numO ((bl line).drop p)) - p)))) := by
  have c0 : W.cell? ⟨b, 0, none⟩ = some (.string line) := hr.cell rfl
  have c1 : W.cell? ⟨b, 1, none⟩ = some (.int .i64 (p : Nat)) := hr.cell rfl
  have p0 : (0 : Int) ≤ (p : Int) := by omega
  have p1 : (p : Int) < line.size := by omega
  have p2 : (p : Int) ≤ line.size := by omega
  have HR := Lib.hid hr
  have HNU := Lib.hid (fun W' => (show Calls Tryz.prog 71 #[.string (line.extract p line.size)] W' fun e w' => e = .returned (.int .i64 (numO ((bl line).drop p) : Nat)) ∧ Up W' w' from by
    have h := numeral_any (line.extract p line.size) W' (by rw [ByteArray.size_extract]; omega) (by rw [ByteArray.size_extract]; omega)
    rw [← drop_bytes] at h
    exact h))
  have hnl := numO_le ((bl line).drop p)
  rw [List.length_drop, bl_len] at hnl
  generalize numO ((bl line).drop p) = n at *
  have HLF := Lib.hid (fun W' (v' : Value) (st' : PSt) (hr' : RdAt w0 W' O b line p v' es st') => leaf_any w0 W' O b line p (p + n) v' es st' 14 hr' (by omega) (by omega) hs hl)
  rw [show ((14 : Nat) : Int) = 14 from rfl] at HLF
  have n1 : ((n : Int) == 0) = false := beq_eq_false_iff_ne.2 (by omega)
  have e1 : IntKind.i64.wrap ((p : Int) + n) = (p : Int) + n := IntWalk.i64_in _ (by omega)
  rw [show ((p + n : Nat) : Int) = (p : Int) + n from by omega] at HLF
  have hS : RdAt w0 W O b line p v es st ∧ W.cell? ⟨b, 0, none⟩ = some (.string line) ∧ W.cell? ⟨b, 1, none⟩ = some (.int .i64 (p : Nat)) := ⟨hr, c0, c1⟩
  clear hb hnl c0 c1
  clear hr hT hs hl
  go_enter Tryz.func53, Tryz.ntmps53
  go_wp2
  go_region_held3 (fun w' => RdAt w0 w' O b line p v es st ∧ w'.cell? ⟨b, 0, none⟩ = some (.string line) ∧ w'.cell? ⟨b, 1, none⟩ = some (.int .i64 (p : Nat)))
    (first | assumption | with_reducible exact keepC01 (Up.drew _) (by assumption) | with_reducible exact keepC01 hu (by assumption))
    (first | (go_at_call 71; ((with_reducible refine (HNU.out _).mono ?_); rintro e w2 ⟨rfl, hu⟩)))
  have HRX := Lib.hid (hS.1.more ((Up.drew W).trans hu))
  have d1 : w2.cell? ⟨b, 1, none⟩ = some (.int .i64 (p : Nat)) := HRX.out.cell rfl
  clear hS
  go_wp2_with (go_at_call 67; ((with_reducible refine (HLF.out _ _ _ HRX.out).mono ?_); rintro e w4 ⟨rfl, v4, hr4⟩; have HR4 := Lib.hid hr4; clear hr4))
  go_ret
  exact ⟨rfl, _, HR4.out⟩
set_option maxRecDepth 100000 in
set_option maxHeartbeats 4000000 in
theorem op_no (w0 W : World) (O : Nat → Obj → Prop) (b : Nat) (line : ByteArray) (p : Nat) (v : Value) (es : List PEv) (st : PSt) (hr : RdAt w0 W O b line p v es st) (hT : TabsP w0) (hp : p < line.size) (hs : (line.size : Int) ≤ 1000000) (hl : es.length ≤ 1000000) (hb : opL ((bl line).drop p) = 0) :
    Calls Tryz.prog 54 #[.pointer (some ⟨b, 0, none⟩)] W (Took w0 O b line false (p) (es) (st)) := by
  have c0 : W.cell? ⟨b, 0, none⟩ = some (.string line) := hr.cell rfl
  have c1 : W.cell? ⟨b, 1, none⟩ = some (.int .i64 (p : Nat)) := hr.cell rfl
  have p0 : (0 : Int) ≤ (p : Int) := by omega
  have p1 : (p : Int) < line.size := by omega
  have p2 : (p : Int) ≤ line.size := by omega
  have HR := Lib.hid hr
  have HOP := Lib.hid (fun W' => (show Calls Tryz.prog 72 #[.string (line.extract p line.size)] W' fun e w' => e = .returned (.int .i64 (opL ((bl line).drop p) : Nat)) ∧ Up W' w' from by
    have h := pOperates_any (line.extract p line.size) W' (by rw [ByteArray.size_extract]; omega)
    rw [← drop_bytes] at h
    exact h))
  rw [hb, show ((0 : Nat) : Int) = 0 from rfl] at HOP
  have hS : RdAt w0 W O b line p v es st ∧ W.cell? ⟨b, 0, none⟩ = some (.string line) ∧ W.cell? ⟨b, 1, none⟩ = some (.int .i64 (p : Nat)) := ⟨hr, c0, c1⟩
  clear hb c0 c1
  clear hr hT hs hl
  go_enter Tryz.func54, Tryz.ntmps54
  go_wp2
  go_region_held3 (fun w' => RdAt w0 w' O b line p v es st ∧ w'.cell? ⟨b, 0, none⟩ = some (.string line) ∧ w'.cell? ⟨b, 1, none⟩ = some (.int .i64 (p : Nat)))
    (first | assumption | with_reducible exact keepC01 (Up.drew _) (by assumption) | with_reducible exact keepC01 hu (by assumption))
    (first | (go_at_call 72; ((with_reducible refine (HOP.out _).mono ?_); rintro e w2 ⟨rfl, hu⟩)))
  have HRX := Lib.hid (hS.1.more ((Up.drew W).trans hu))
  clear hS
  go_wp2
  go_ret
  exact ⟨rfl, _, HRX.out⟩
set_option maxRecDepth 100000 in
set_option maxHeartbeats 4000000 in
theorem op_open40 (w0 W : World) (O : Nat → Obj → Prop) (b : Nat) (line : ByteArray) (p : Nat) (v : Value) (es : List PEv) (st : PSt) (hr : RdAt w0 W O b line p v es st) (hT : TabsP w0) (hp : p < line.size) (hs : (line.size : Int) ≤ 1000000) (hl : es.length ≤ 1000000) (hb : opL ((bl line).drop p) ≠ 0) (hd0 : 0 ≤ st.depth) (hd1 : st.depth ≤ 1048576) (c : Nat) (hcc : bt line p = c) (h40 : c = 40) :
    Calls Tryz.prog 54 #[.pointer (some ⟨b, 0, none⟩)] W (Took w0 O b line true ((p + opL ((bl line).drop p))) (es ++ [⟨17, p, (p + opL ((bl line).drop p))⟩]) (lfS ⟨st.mark, min (st.depth + 1) 1048576, st.j, st.s, st.c⟩ 17 (((bl line).drop p).take ((p + opL ((bl line).drop p)) - p)))) := by
  have c0 : W.cell? ⟨b, 0, none⟩ = some (.string line) := hr.cell rfl
  have c1 : W.cell? ⟨b, 1, none⟩ = some (.int .i64 (p : Nat)) := hr.cell rfl
  have p0 : (0 : Int) ≤ (p : Int) := by omega
  have p1 : (p : Int) < line.size := by omega
  have p2 : (p : Int) ≤ line.size := by omega
  have HR := Lib.hid hr
  have HOP := Lib.hid (fun W' => (show Calls Tryz.prog 72 #[.string (line.extract p line.size)] W' fun e w' => e = .returned (.int .i64 (opL ((bl line).drop p) : Nat)) ∧ Up W' w' from by
    have h := pOperates_any (line.extract p line.size) W' (by rw [ByteArray.size_extract]; omega)
    rw [← drop_bytes] at h
    exact h))
  have hnl := opL_le ((bl line).drop p)
  rw [List.length_drop, bl_len] at hnl
  generalize opL ((bl line).drop p) = n at *
  have HLF := Lib.hid (fun W' (v' : Value) (st' : PSt) (hr' : RdAt w0 W' O b line p v' es st') => leaf_any w0 W' O b line p (p + n) v' es st' 17 hr' (by omega) (by omega) hs hl)
  rw [show ((17 : Nat) : Int) = 17 from rfl] at HLF
  have n1 : ((n : Int) == 0) = false := beq_eq_false_iff_ne.2 (by omega)
  have e1 : IntKind.i64.wrap ((p : Int) + n) = (p : Int) + n := IntWalk.i64_in _ (by omega)
  rw [show ((p + n : Nat) : Int) = (p : Int) + n from by omega] at HLF
  have hx : line[p].toNat = 40 := by rw [bt_eq hp]; exact hcc.trans h40
  have e5 : IntKind.i64.wrap (st.depth + 1) = st.depth + 1 := IntWalk.i64_in _ (by omega)
  clear h40 hd0 hd1
  have hS : RdAt w0 W O b line p v es st ∧ W.cell? ⟨b, 0, none⟩ = some (.string line) ∧ W.cell? ⟨b, 1, none⟩ = some (.int .i64 (p : Nat)) := ⟨hr, c0, c1⟩
  clear hb hnl c0 c1 hcc
  clear hr hT hs hl
  go_enter Tryz.func54, Tryz.ntmps54
  go_wp2
  go_region_held3 (fun w' => RdAt w0 w' O b line p v es st ∧ w'.cell? ⟨b, 0, none⟩ = some (.string line) ∧ w'.cell? ⟨b, 1, none⟩ = some (.int .i64 (p : Nat)))
    (first | assumption | with_reducible exact keepC01 (Up.drew _) (by assumption) | with_reducible exact keepC01 hu (by assumption))
    (first | (go_at_call 72; ((with_reducible refine (HOP.out _).mono ?_); rintro e w2 ⟨rfl, hu⟩)))
  have hr3 := hS.1.more (((Up.drew W).trans hu).trans (Up.drew w2))
  have c0 : w2.cell? ⟨b, 0, none⟩ = some (.string line) := (hS.1.more ((Up.drew W).trans hu)).cell rfl
  have c1 : w2.cell? ⟨b, 1, none⟩ = some (.int .i64 (p : Nat)) := (hS.1.more ((Up.drew W).trans hu)).cell rfl
  clear hS
  go_wp2
  go_region
  generalize hW3 : w2.drew = W3 at hr3 ⊢
  clear c0 c1
  have d1 : W3.cell? ⟨b, 1, none⟩ = some (.int .i64 (p : Nat)) := hr3.cell rfl
  have d4 : W3.cell? ⟨b, 4, none⟩ = some (.int .i64 st.depth) := hr3.cell rfl
  have z4 : W3.frozen? ⟨b, 4, none⟩ = false := hr3.fr 4
  have hr4 := hr3.set (k := 4) (u := .int .i64 (min (st.depth + 1) 1048576)) (p' := p) (st' := ⟨st.mark, min (st.depth + 1) 1048576, st.j, st.s, st.c⟩) rfl
  obtain ⟨W4, hW4⟩ : ∃ W4, W3.setCell ⟨b, 4, none⟩ (.int .i64 (min (st.depth + 1) 1048576)) = W4 := ⟨_, rfl⟩
  rw [hW4] at hr4
  have y1 : W4.cell? ⟨b, 1, none⟩ = some (.int .i64 (p : Nat)) := hr4.cell rfl
  have HRX := Lib.hid hr4
  clear hr3 hW3 hr4
  go_wp2_with (go_at_call 67; ((with_reducible refine (HLF.out _ _ _ HRX.out).mono ?_); rintro e w4 ⟨rfl, v4, hr4⟩; have HR4 := Lib.hid hr4; clear hr4))
  go_ret
  exact ⟨rfl, _, HR4.out⟩
set_option maxRecDepth 100000 in
set_option maxHeartbeats 4000000 in
theorem op_open91 (w0 W : World) (O : Nat → Obj → Prop) (b : Nat) (line : ByteArray) (p : Nat) (v : Value) (es : List PEv) (st : PSt) (hr : RdAt w0 W O b line p v es st) (hT : TabsP w0) (hp : p < line.size) (hs : (line.size : Int) ≤ 1000000) (hl : es.length ≤ 1000000) (hb : opL ((bl line).drop p) ≠ 0) (hd0 : 0 ≤ st.depth) (hd1 : st.depth ≤ 1048576) (c : Nat) (hcc : bt line p = c) (h91 : c = 91) :
    Calls Tryz.prog 54 #[.pointer (some ⟨b, 0, none⟩)] W (Took w0 O b line true ((p + opL ((bl line).drop p))) (es ++ [⟨17, p, (p + opL ((bl line).drop p))⟩]) (lfS ⟨st.mark, min (st.depth + 1) 1048576, st.j, st.s, st.c⟩ 17 (((bl line).drop p).take ((p + opL ((bl line).drop p)) - p)))) := by
  have c0 : W.cell? ⟨b, 0, none⟩ = some (.string line) := hr.cell rfl
  have c1 : W.cell? ⟨b, 1, none⟩ = some (.int .i64 (p : Nat)) := hr.cell rfl
  have p0 : (0 : Int) ≤ (p : Int) := by omega
  have p1 : (p : Int) < line.size := by omega
  have p2 : (p : Int) ≤ line.size := by omega
  have HR := Lib.hid hr
  have HOP := Lib.hid (fun W' => (show Calls Tryz.prog 72 #[.string (line.extract p line.size)] W' fun e w' => e = .returned (.int .i64 (opL ((bl line).drop p) : Nat)) ∧ Up W' w' from by
    have h := pOperates_any (line.extract p line.size) W' (by rw [ByteArray.size_extract]; omega)
    rw [← drop_bytes] at h
    exact h))
  have hnl := opL_le ((bl line).drop p)
  rw [List.length_drop, bl_len] at hnl
  generalize opL ((bl line).drop p) = n at *
  have HLF := Lib.hid (fun W' (v' : Value) (st' : PSt) (hr' : RdAt w0 W' O b line p v' es st') => leaf_any w0 W' O b line p (p + n) v' es st' 17 hr' (by omega) (by omega) hs hl)
  rw [show ((17 : Nat) : Int) = 17 from rfl] at HLF
  have n1 : ((n : Int) == 0) = false := beq_eq_false_iff_ne.2 (by omega)
  have e1 : IntKind.i64.wrap ((p : Int) + n) = (p : Int) + n := IntWalk.i64_in _ (by omega)
  rw [show ((p + n : Nat) : Int) = (p : Int) + n from by omega] at HLF
  have hx : line[p].toNat = 91 := by rw [bt_eq hp]; exact hcc.trans h91
  have e5 : IntKind.i64.wrap (st.depth + 1) = st.depth + 1 := IntWalk.i64_in _ (by omega)
  clear h91 hd0 hd1
  have hS : RdAt w0 W O b line p v es st ∧ W.cell? ⟨b, 0, none⟩ = some (.string line) ∧ W.cell? ⟨b, 1, none⟩ = some (.int .i64 (p : Nat)) := ⟨hr, c0, c1⟩
  clear hb hnl c0 c1 hcc
  clear hr hT hs hl
  go_enter Tryz.func54, Tryz.ntmps54
  go_wp2
  go_region_held3 (fun w' => RdAt w0 w' O b line p v es st ∧ w'.cell? ⟨b, 0, none⟩ = some (.string line) ∧ w'.cell? ⟨b, 1, none⟩ = some (.int .i64 (p : Nat)))
    (first | assumption | with_reducible exact keepC01 (Up.drew _) (by assumption) | with_reducible exact keepC01 hu (by assumption))
    (first | (go_at_call 72; ((with_reducible refine (HOP.out _).mono ?_); rintro e w2 ⟨rfl, hu⟩)))
  have hr3 := hS.1.more (((Up.drew W).trans hu).trans (Up.drew w2))
  have c0 : w2.cell? ⟨b, 0, none⟩ = some (.string line) := (hS.1.more ((Up.drew W).trans hu)).cell rfl
  have c1 : w2.cell? ⟨b, 1, none⟩ = some (.int .i64 (p : Nat)) := (hS.1.more ((Up.drew W).trans hu)).cell rfl
  clear hS
  go_wp2
  go_region
  generalize hW3 : w2.drew = W3 at hr3 ⊢
  clear c0 c1
  have d1 : W3.cell? ⟨b, 1, none⟩ = some (.int .i64 (p : Nat)) := hr3.cell rfl
  have d4 : W3.cell? ⟨b, 4, none⟩ = some (.int .i64 st.depth) := hr3.cell rfl
  have z4 : W3.frozen? ⟨b, 4, none⟩ = false := hr3.fr 4
  have hr4 := hr3.set (k := 4) (u := .int .i64 (min (st.depth + 1) 1048576)) (p' := p) (st' := ⟨st.mark, min (st.depth + 1) 1048576, st.j, st.s, st.c⟩) rfl
  obtain ⟨W4, hW4⟩ : ∃ W4, W3.setCell ⟨b, 4, none⟩ (.int .i64 (min (st.depth + 1) 1048576)) = W4 := ⟨_, rfl⟩
  rw [hW4] at hr4
  have y1 : W4.cell? ⟨b, 1, none⟩ = some (.int .i64 (p : Nat)) := hr4.cell rfl
  have HRX := Lib.hid hr4
  clear hr3 hW3 hr4
  go_wp2_with (go_at_call 67; ((with_reducible refine (HLF.out _ _ _ HRX.out).mono ?_); rintro e w4 ⟨rfl, v4, hr4⟩; have HR4 := Lib.hid hr4; clear hr4))
  go_ret
  exact ⟨rfl, _, HR4.out⟩
set_option maxRecDepth 100000 in
set_option maxHeartbeats 4000000 in
theorem op_open123 (w0 W : World) (O : Nat → Obj → Prop) (b : Nat) (line : ByteArray) (p : Nat) (v : Value) (es : List PEv) (st : PSt) (hr : RdAt w0 W O b line p v es st) (hT : TabsP w0) (hp : p < line.size) (hs : (line.size : Int) ≤ 1000000) (hl : es.length ≤ 1000000) (hb : opL ((bl line).drop p) ≠ 0) (hd0 : 0 ≤ st.depth) (hd1 : st.depth ≤ 1048576) (c : Nat) (hcc : bt line p = c) (h123 : c = 123) :
    Calls Tryz.prog 54 #[.pointer (some ⟨b, 0, none⟩)] W (Took w0 O b line true ((p + opL ((bl line).drop p))) (es ++ [⟨17, p, (p + opL ((bl line).drop p))⟩]) (lfS ⟨st.mark, min (st.depth + 1) 1048576, st.j, st.s, st.c⟩ 17 (((bl line).drop p).take ((p + opL ((bl line).drop p)) - p)))) := by
  have c0 : W.cell? ⟨b, 0, none⟩ = some (.string line) := hr.cell rfl
  have c1 : W.cell? ⟨b, 1, none⟩ = some (.int .i64 (p : Nat)) := hr.cell rfl
  have p0 : (0 : Int) ≤ (p : Int) := by omega
  have p1 : (p : Int) < line.size := by omega
  have p2 : (p : Int) ≤ line.size := by omega
  have HR := Lib.hid hr
  have HOP := Lib.hid (fun W' => (show Calls Tryz.prog 72 #[.string (line.extract p line.size)] W' fun e w' => e = .returned (.int .i64 (opL ((bl line).drop p) : Nat)) ∧ Up W' w' from by
    have h := pOperates_any (line.extract p line.size) W' (by rw [ByteArray.size_extract]; omega)
    rw [← drop_bytes] at h
    exact h))
  have hnl := opL_le ((bl line).drop p)
  rw [List.length_drop, bl_len] at hnl
  generalize opL ((bl line).drop p) = n at *
  have HLF := Lib.hid (fun W' (v' : Value) (st' : PSt) (hr' : RdAt w0 W' O b line p v' es st') => leaf_any w0 W' O b line p (p + n) v' es st' 17 hr' (by omega) (by omega) hs hl)
  rw [show ((17 : Nat) : Int) = 17 from rfl] at HLF
  have n1 : ((n : Int) == 0) = false := beq_eq_false_iff_ne.2 (by omega)
  have e1 : IntKind.i64.wrap ((p : Int) + n) = (p : Int) + n := IntWalk.i64_in _ (by omega)
  rw [show ((p + n : Nat) : Int) = (p : Int) + n from by omega] at HLF
  have hx : line[p].toNat = 123 := by rw [bt_eq hp]; exact hcc.trans h123
  have e5 : IntKind.i64.wrap (st.depth + 1) = st.depth + 1 := IntWalk.i64_in _ (by omega)
  clear h123 hd0 hd1
  have hS : RdAt w0 W O b line p v es st ∧ W.cell? ⟨b, 0, none⟩ = some (.string line) ∧ W.cell? ⟨b, 1, none⟩ = some (.int .i64 (p : Nat)) := ⟨hr, c0, c1⟩
  clear hb hnl c0 c1 hcc
  clear hr hT hs hl
  go_enter Tryz.func54, Tryz.ntmps54
  go_wp2
  go_region_held3 (fun w' => RdAt w0 w' O b line p v es st ∧ w'.cell? ⟨b, 0, none⟩ = some (.string line) ∧ w'.cell? ⟨b, 1, none⟩ = some (.int .i64 (p : Nat)))
    (first | assumption | with_reducible exact keepC01 (Up.drew _) (by assumption) | with_reducible exact keepC01 hu (by assumption))
    (first | (go_at_call 72; ((with_reducible refine (HOP.out _).mono ?_); rintro e w2 ⟨rfl, hu⟩)))
  have hr3 := hS.1.more (((Up.drew W).trans hu).trans (Up.drew w2))
  have c0 : w2.cell? ⟨b, 0, none⟩ = some (.string line) := (hS.1.more ((Up.drew W).trans hu)).cell rfl
  have c1 : w2.cell? ⟨b, 1, none⟩ = some (.int .i64 (p : Nat)) := (hS.1.more ((Up.drew W).trans hu)).cell rfl
  clear hS
  go_wp2
  go_region
  generalize hW3 : w2.drew = W3 at hr3 ⊢
  clear c0 c1
  have d1 : W3.cell? ⟨b, 1, none⟩ = some (.int .i64 (p : Nat)) := hr3.cell rfl
  have d4 : W3.cell? ⟨b, 4, none⟩ = some (.int .i64 st.depth) := hr3.cell rfl
  have z4 : W3.frozen? ⟨b, 4, none⟩ = false := hr3.fr 4
  have hr4 := hr3.set (k := 4) (u := .int .i64 (min (st.depth + 1) 1048576)) (p' := p) (st' := ⟨st.mark, min (st.depth + 1) 1048576, st.j, st.s, st.c⟩) rfl
  obtain ⟨W4, hW4⟩ : ∃ W4, W3.setCell ⟨b, 4, none⟩ (.int .i64 (min (st.depth + 1) 1048576)) = W4 := ⟨_, rfl⟩
  rw [hW4] at hr4
  have y1 : W4.cell? ⟨b, 1, none⟩ = some (.int .i64 (p : Nat)) := hr4.cell rfl
  have HRX := Lib.hid hr4
  clear hr3 hW3 hr4
  go_wp2_with (go_at_call 67; ((with_reducible refine (HLF.out _ _ _ HRX.out).mono ?_); rintro e w4 ⟨rfl, v4, hr4⟩; have HR4 := Lib.hid hr4; clear hr4))
  go_ret
  exact ⟨rfl, _, HR4.out⟩
set_option maxRecDepth 100000 in
set_option maxHeartbeats 4000000 in
theorem op_none41 (w0 W : World) (O : Nat → Obj → Prop) (b : Nat) (line : ByteArray) (p : Nat) (v : Value) (es : List PEv) (st : PSt) (hr : RdAt w0 W O b line p v es st) (hT : TabsP w0) (hp : p < line.size) (hs : (line.size : Int) ≤ 1000000) (hl : es.length ≤ 1000000) (hb : opL ((bl line).drop p) ≠ 0) (hd0 : 0 ≤ st.depth) (hd1 : st.depth ≤ 1048576) (c : Nat) (hcc : bt line p = c) (h41 : c = 41) (hm : st.depth = 0) :
    Calls Tryz.prog 54 #[.pointer (some ⟨b, 0, none⟩)] W (Took w0 O b line true ((p + opL ((bl line).drop p))) (es ++ [⟨2, p, (p + opL ((bl line).drop p))⟩]) (lfS ⟨st.mark, st.depth, st.j, st.s, st.c⟩ 2 (((bl line).drop p).take ((p + opL ((bl line).drop p)) - p)))) := by
  have c0 : W.cell? ⟨b, 0, none⟩ = some (.string line) := hr.cell rfl
  have c1 : W.cell? ⟨b, 1, none⟩ = some (.int .i64 (p : Nat)) := hr.cell rfl
  have p0 : (0 : Int) ≤ (p : Int) := by omega
  have p1 : (p : Int) < line.size := by omega
  have p2 : (p : Int) ≤ line.size := by omega
  have HR := Lib.hid hr
  have HOP := Lib.hid (fun W' => (show Calls Tryz.prog 72 #[.string (line.extract p line.size)] W' fun e w' => e = .returned (.int .i64 (opL ((bl line).drop p) : Nat)) ∧ Up W' w' from by
    have h := pOperates_any (line.extract p line.size) W' (by rw [ByteArray.size_extract]; omega)
    rw [← drop_bytes] at h
    exact h))
  have hnl := opL_le ((bl line).drop p)
  rw [List.length_drop, bl_len] at hnl
  generalize opL ((bl line).drop p) = n at *
  have HLF := Lib.hid (fun W' (v' : Value) (st' : PSt) (hr' : RdAt w0 W' O b line p v' es st') => leaf_any w0 W' O b line p (p + n) v' es st' 2 hr' (by omega) (by omega) hs hl)
  rw [show ((2 : Nat) : Int) = 2 from rfl] at HLF
  have n1 : ((n : Int) == 0) = false := beq_eq_false_iff_ne.2 (by omega)
  have e1 : IntKind.i64.wrap ((p : Int) + n) = (p : Int) + n := IntWalk.i64_in _ (by omega)
  rw [show ((p + n : Nat) : Int) = (p : Int) + n from by omega] at HLF
  have hx : line[p].toNat = 41 := by rw [bt_eq hp]; exact hcc.trans h41
  have e5 : (st.depth == 0) = true := beq_iff_eq.2 hm
  clear h41 hd0 hd1 hm
  have hS : RdAt w0 W O b line p v es st ∧ W.cell? ⟨b, 0, none⟩ = some (.string line) ∧ W.cell? ⟨b, 1, none⟩ = some (.int .i64 (p : Nat)) := ⟨hr, c0, c1⟩
  clear hb hnl c0 c1 hcc
  clear hr hT hs hl
  go_enter Tryz.func54, Tryz.ntmps54
  go_wp2
  go_region_held3 (fun w' => RdAt w0 w' O b line p v es st ∧ w'.cell? ⟨b, 0, none⟩ = some (.string line) ∧ w'.cell? ⟨b, 1, none⟩ = some (.int .i64 (p : Nat)))
    (first | assumption | with_reducible exact keepC01 (Up.drew _) (by assumption) | with_reducible exact keepC01 hu (by assumption))
    (first | (go_at_call 72; ((with_reducible refine (HOP.out _).mono ?_); rintro e w2 ⟨rfl, hu⟩)))
  have hr3 := hS.1.more (((Up.drew W).trans hu).trans (Up.drew w2))
  have c0 : w2.cell? ⟨b, 0, none⟩ = some (.string line) := (hS.1.more ((Up.drew W).trans hu)).cell rfl
  have c1 : w2.cell? ⟨b, 1, none⟩ = some (.int .i64 (p : Nat)) := (hS.1.more ((Up.drew W).trans hu)).cell rfl
  clear hS
  go_wp2
  go_region
  generalize hW3 : w2.drew = W3 at hr3 ⊢
  clear c0 c1
  have d1 : W3.cell? ⟨b, 1, none⟩ = some (.int .i64 (p : Nat)) := hr3.cell rfl
  have d4 : W3.cell? ⟨b, 4, none⟩ = some (.int .i64 st.depth) := hr3.cell rfl
  have z4 : W3.frozen? ⟨b, 4, none⟩ = false := hr3.fr 4
  have HRX := Lib.hid hr3
  clear hr3 hW3
  go_wp2_with (go_at_call 67; ((with_reducible refine (HLF.out _ _ _ HRX.out).mono ?_); rintro e w4 ⟨rfl, v4, hr4⟩; have HR4 := Lib.hid hr4; clear hr4))
  go_ret
  exact ⟨rfl, _, HR4.out⟩
set_option maxRecDepth 100000 in
set_option maxHeartbeats 4000000 in
theorem op_close41 (w0 W : World) (O : Nat → Obj → Prop) (b : Nat) (line : ByteArray) (p : Nat) (v : Value) (es : List PEv) (st : PSt) (hr : RdAt w0 W O b line p v es st) (hT : TabsP w0) (hp : p < line.size) (hs : (line.size : Int) ≤ 1000000) (hl : es.length ≤ 1000000) (hb : opL ((bl line).drop p) ≠ 0) (hd0 : 0 ≤ st.depth) (hd1 : st.depth ≤ 1048576) (c : Nat) (hcc : bt line p = c) (h41 : c = 41) (hm : st.depth ≠ 0) :
    Calls Tryz.prog 54 #[.pointer (some ⟨b, 0, none⟩)] W (Took w0 O b line true ((p + opL ((bl line).drop p))) (es ++ [⟨17, p, (p + opL ((bl line).drop p))⟩]) (lfS ⟨st.mark, st.depth - 1, st.j, st.s, st.c⟩ 17 (((bl line).drop p).take ((p + opL ((bl line).drop p)) - p)))) := by
  have c0 : W.cell? ⟨b, 0, none⟩ = some (.string line) := hr.cell rfl
  have c1 : W.cell? ⟨b, 1, none⟩ = some (.int .i64 (p : Nat)) := hr.cell rfl
  have p0 : (0 : Int) ≤ (p : Int) := by omega
  have p1 : (p : Int) < line.size := by omega
  have p2 : (p : Int) ≤ line.size := by omega
  have HR := Lib.hid hr
  have HOP := Lib.hid (fun W' => (show Calls Tryz.prog 72 #[.string (line.extract p line.size)] W' fun e w' => e = .returned (.int .i64 (opL ((bl line).drop p) : Nat)) ∧ Up W' w' from by
    have h := pOperates_any (line.extract p line.size) W' (by rw [ByteArray.size_extract]; omega)
    rw [← drop_bytes] at h
    exact h))
  have hnl := opL_le ((bl line).drop p)
  rw [List.length_drop, bl_len] at hnl
  generalize opL ((bl line).drop p) = n at *
  have HLF := Lib.hid (fun W' (v' : Value) (st' : PSt) (hr' : RdAt w0 W' O b line p v' es st') => leaf_any w0 W' O b line p (p + n) v' es st' 17 hr' (by omega) (by omega) hs hl)
  rw [show ((17 : Nat) : Int) = 17 from rfl] at HLF
  have n1 : ((n : Int) == 0) = false := beq_eq_false_iff_ne.2 (by omega)
  have e1 : IntKind.i64.wrap ((p : Int) + n) = (p : Int) + n := IntWalk.i64_in _ (by omega)
  rw [show ((p + n : Nat) : Int) = (p : Int) + n from by omega] at HLF
  have hx : line[p].toNat = 41 := by rw [bt_eq hp]; exact hcc.trans h41
  have e5 : (st.depth == 0) = false := beq_eq_false_iff_ne.2 hm
  have e6 : IntKind.i64.wrap (st.depth - 1) = st.depth - 1 := IntWalk.i64_in _ (by omega)
  clear h41 hd0 hd1 hm
  have hS : RdAt w0 W O b line p v es st ∧ W.cell? ⟨b, 0, none⟩ = some (.string line) ∧ W.cell? ⟨b, 1, none⟩ = some (.int .i64 (p : Nat)) := ⟨hr, c0, c1⟩
  clear hb hnl c0 c1 hcc
  clear hr hT hs hl
  go_enter Tryz.func54, Tryz.ntmps54
  go_wp2
  go_region_held3 (fun w' => RdAt w0 w' O b line p v es st ∧ w'.cell? ⟨b, 0, none⟩ = some (.string line) ∧ w'.cell? ⟨b, 1, none⟩ = some (.int .i64 (p : Nat)))
    (first | assumption | with_reducible exact keepC01 (Up.drew _) (by assumption) | with_reducible exact keepC01 hu (by assumption))
    (first | (go_at_call 72; ((with_reducible refine (HOP.out _).mono ?_); rintro e w2 ⟨rfl, hu⟩)))
  have hr3 := hS.1.more (((Up.drew W).trans hu).trans (Up.drew w2))
  have c0 : w2.cell? ⟨b, 0, none⟩ = some (.string line) := (hS.1.more ((Up.drew W).trans hu)).cell rfl
  have c1 : w2.cell? ⟨b, 1, none⟩ = some (.int .i64 (p : Nat)) := (hS.1.more ((Up.drew W).trans hu)).cell rfl
  clear hS
  go_wp2
  go_region
  generalize hW3 : w2.drew = W3 at hr3 ⊢
  clear c0 c1
  have d1 : W3.cell? ⟨b, 1, none⟩ = some (.int .i64 (p : Nat)) := hr3.cell rfl
  have d4 : W3.cell? ⟨b, 4, none⟩ = some (.int .i64 st.depth) := hr3.cell rfl
  have z4 : W3.frozen? ⟨b, 4, none⟩ = false := hr3.fr 4
  have hr4 := hr3.set (k := 4) (u := .int .i64 (st.depth - 1)) (p' := p) (st' := ⟨st.mark, st.depth - 1, st.j, st.s, st.c⟩) rfl
  obtain ⟨W4, hW4⟩ : ∃ W4, W3.setCell ⟨b, 4, none⟩ (.int .i64 (st.depth - 1)) = W4 := ⟨_, rfl⟩
  rw [hW4] at hr4
  have y1 : W4.cell? ⟨b, 1, none⟩ = some (.int .i64 (p : Nat)) := hr4.cell rfl
  have HRX := Lib.hid hr4
  clear hr3 hW3 hr4
  go_wp2_with (go_at_call 67; ((with_reducible refine (HLF.out _ _ _ HRX.out).mono ?_); rintro e w4 ⟨rfl, v4, hr4⟩; have HR4 := Lib.hid hr4; clear hr4))
  go_ret
  exact ⟨rfl, _, HR4.out⟩
set_option maxRecDepth 100000 in
set_option maxHeartbeats 4000000 in
theorem op_none93 (w0 W : World) (O : Nat → Obj → Prop) (b : Nat) (line : ByteArray) (p : Nat) (v : Value) (es : List PEv) (st : PSt) (hr : RdAt w0 W O b line p v es st) (hT : TabsP w0) (hp : p < line.size) (hs : (line.size : Int) ≤ 1000000) (hl : es.length ≤ 1000000) (hb : opL ((bl line).drop p) ≠ 0) (hd0 : 0 ≤ st.depth) (hd1 : st.depth ≤ 1048576) (c : Nat) (hcc : bt line p = c) (h93 : c = 93) (hm : st.depth = 0) :
    Calls Tryz.prog 54 #[.pointer (some ⟨b, 0, none⟩)] W (Took w0 O b line true ((p + opL ((bl line).drop p))) (es ++ [⟨2, p, (p + opL ((bl line).drop p))⟩]) (lfS ⟨st.mark, st.depth, st.j, st.s, st.c⟩ 2 (((bl line).drop p).take ((p + opL ((bl line).drop p)) - p)))) := by
  have c0 : W.cell? ⟨b, 0, none⟩ = some (.string line) := hr.cell rfl
  have c1 : W.cell? ⟨b, 1, none⟩ = some (.int .i64 (p : Nat)) := hr.cell rfl
  have p0 : (0 : Int) ≤ (p : Int) := by omega
  have p1 : (p : Int) < line.size := by omega
  have p2 : (p : Int) ≤ line.size := by omega
  have HR := Lib.hid hr
  have HOP := Lib.hid (fun W' => (show Calls Tryz.prog 72 #[.string (line.extract p line.size)] W' fun e w' => e = .returned (.int .i64 (opL ((bl line).drop p) : Nat)) ∧ Up W' w' from by
    have h := pOperates_any (line.extract p line.size) W' (by rw [ByteArray.size_extract]; omega)
    rw [← drop_bytes] at h
    exact h))
  have hnl := opL_le ((bl line).drop p)
  rw [List.length_drop, bl_len] at hnl
  generalize opL ((bl line).drop p) = n at *
  have HLF := Lib.hid (fun W' (v' : Value) (st' : PSt) (hr' : RdAt w0 W' O b line p v' es st') => leaf_any w0 W' O b line p (p + n) v' es st' 2 hr' (by omega) (by omega) hs hl)
  rw [show ((2 : Nat) : Int) = 2 from rfl] at HLF
  have n1 : ((n : Int) == 0) = false := beq_eq_false_iff_ne.2 (by omega)
  have e1 : IntKind.i64.wrap ((p : Int) + n) = (p : Int) + n := IntWalk.i64_in _ (by omega)
  rw [show ((p + n : Nat) : Int) = (p : Int) + n from by omega] at HLF
  have hx : line[p].toNat = 93 := by rw [bt_eq hp]; exact hcc.trans h93
  have e5 : (st.depth == 0) = true := beq_iff_eq.2 hm
  clear h93 hd0 hd1 hm
  have hS : RdAt w0 W O b line p v es st ∧ W.cell? ⟨b, 0, none⟩ = some (.string line) ∧ W.cell? ⟨b, 1, none⟩ = some (.int .i64 (p : Nat)) := ⟨hr, c0, c1⟩
  clear hb hnl c0 c1 hcc
  clear hr hT hs hl
  go_enter Tryz.func54, Tryz.ntmps54
  go_wp2
  go_region_held3 (fun w' => RdAt w0 w' O b line p v es st ∧ w'.cell? ⟨b, 0, none⟩ = some (.string line) ∧ w'.cell? ⟨b, 1, none⟩ = some (.int .i64 (p : Nat)))
    (first | assumption | with_reducible exact keepC01 (Up.drew _) (by assumption) | with_reducible exact keepC01 hu (by assumption))
    (first | (go_at_call 72; ((with_reducible refine (HOP.out _).mono ?_); rintro e w2 ⟨rfl, hu⟩)))
  have hr3 := hS.1.more (((Up.drew W).trans hu).trans (Up.drew w2))
  have c0 : w2.cell? ⟨b, 0, none⟩ = some (.string line) := (hS.1.more ((Up.drew W).trans hu)).cell rfl
  have c1 : w2.cell? ⟨b, 1, none⟩ = some (.int .i64 (p : Nat)) := (hS.1.more ((Up.drew W).trans hu)).cell rfl
  clear hS
  go_wp2
  go_region
  generalize hW3 : w2.drew = W3 at hr3 ⊢
  clear c0 c1
  have d1 : W3.cell? ⟨b, 1, none⟩ = some (.int .i64 (p : Nat)) := hr3.cell rfl
  have d4 : W3.cell? ⟨b, 4, none⟩ = some (.int .i64 st.depth) := hr3.cell rfl
  have z4 : W3.frozen? ⟨b, 4, none⟩ = false := hr3.fr 4
  have HRX := Lib.hid hr3
  clear hr3 hW3
  go_wp2_with (go_at_call 67; ((with_reducible refine (HLF.out _ _ _ HRX.out).mono ?_); rintro e w4 ⟨rfl, v4, hr4⟩; have HR4 := Lib.hid hr4; clear hr4))
  go_ret
  exact ⟨rfl, _, HR4.out⟩
set_option maxRecDepth 100000 in
set_option maxHeartbeats 4000000 in
theorem op_close93 (w0 W : World) (O : Nat → Obj → Prop) (b : Nat) (line : ByteArray) (p : Nat) (v : Value) (es : List PEv) (st : PSt) (hr : RdAt w0 W O b line p v es st) (hT : TabsP w0) (hp : p < line.size) (hs : (line.size : Int) ≤ 1000000) (hl : es.length ≤ 1000000) (hb : opL ((bl line).drop p) ≠ 0) (hd0 : 0 ≤ st.depth) (hd1 : st.depth ≤ 1048576) (c : Nat) (hcc : bt line p = c) (h93 : c = 93) (hm : st.depth ≠ 0) :
    Calls Tryz.prog 54 #[.pointer (some ⟨b, 0, none⟩)] W (Took w0 O b line true ((p + opL ((bl line).drop p))) (es ++ [⟨17, p, (p + opL ((bl line).drop p))⟩]) (lfS ⟨st.mark, st.depth - 1, st.j, st.s, st.c⟩ 17 (((bl line).drop p).take ((p + opL ((bl line).drop p)) - p)))) := by
  have c0 : W.cell? ⟨b, 0, none⟩ = some (.string line) := hr.cell rfl
  have c1 : W.cell? ⟨b, 1, none⟩ = some (.int .i64 (p : Nat)) := hr.cell rfl
  have p0 : (0 : Int) ≤ (p : Int) := by omega
  have p1 : (p : Int) < line.size := by omega
  have p2 : (p : Int) ≤ line.size := by omega
  have HR := Lib.hid hr
  have HOP := Lib.hid (fun W' => (show Calls Tryz.prog 72 #[.string (line.extract p line.size)] W' fun e w' => e = .returned (.int .i64 (opL ((bl line).drop p) : Nat)) ∧ Up W' w' from by
    have h := pOperates_any (line.extract p line.size) W' (by rw [ByteArray.size_extract]; omega)
    rw [← drop_bytes] at h
    exact h))
  have hnl := opL_le ((bl line).drop p)
  rw [List.length_drop, bl_len] at hnl
  generalize opL ((bl line).drop p) = n at *
  have HLF := Lib.hid (fun W' (v' : Value) (st' : PSt) (hr' : RdAt w0 W' O b line p v' es st') => leaf_any w0 W' O b line p (p + n) v' es st' 17 hr' (by omega) (by omega) hs hl)
  rw [show ((17 : Nat) : Int) = 17 from rfl] at HLF
  have n1 : ((n : Int) == 0) = false := beq_eq_false_iff_ne.2 (by omega)
  have e1 : IntKind.i64.wrap ((p : Int) + n) = (p : Int) + n := IntWalk.i64_in _ (by omega)
  rw [show ((p + n : Nat) : Int) = (p : Int) + n from by omega] at HLF
  have hx : line[p].toNat = 93 := by rw [bt_eq hp]; exact hcc.trans h93
  have e5 : (st.depth == 0) = false := beq_eq_false_iff_ne.2 hm
  have e6 : IntKind.i64.wrap (st.depth - 1) = st.depth - 1 := IntWalk.i64_in _ (by omega)
  clear h93 hd0 hd1 hm
  have hS : RdAt w0 W O b line p v es st ∧ W.cell? ⟨b, 0, none⟩ = some (.string line) ∧ W.cell? ⟨b, 1, none⟩ = some (.int .i64 (p : Nat)) := ⟨hr, c0, c1⟩
  clear hb hnl c0 c1 hcc
  clear hr hT hs hl
  go_enter Tryz.func54, Tryz.ntmps54
  go_wp2
  go_region_held3 (fun w' => RdAt w0 w' O b line p v es st ∧ w'.cell? ⟨b, 0, none⟩ = some (.string line) ∧ w'.cell? ⟨b, 1, none⟩ = some (.int .i64 (p : Nat)))
    (first | assumption | with_reducible exact keepC01 (Up.drew _) (by assumption) | with_reducible exact keepC01 hu (by assumption))
    (first | (go_at_call 72; ((with_reducible refine (HOP.out _).mono ?_); rintro e w2 ⟨rfl, hu⟩)))
  have hr3 := hS.1.more (((Up.drew W).trans hu).trans (Up.drew w2))
  have c0 : w2.cell? ⟨b, 0, none⟩ = some (.string line) := (hS.1.more ((Up.drew W).trans hu)).cell rfl
  have c1 : w2.cell? ⟨b, 1, none⟩ = some (.int .i64 (p : Nat)) := (hS.1.more ((Up.drew W).trans hu)).cell rfl
  clear hS
  go_wp2
  go_region
  generalize hW3 : w2.drew = W3 at hr3 ⊢
  clear c0 c1
  have d1 : W3.cell? ⟨b, 1, none⟩ = some (.int .i64 (p : Nat)) := hr3.cell rfl
  have d4 : W3.cell? ⟨b, 4, none⟩ = some (.int .i64 st.depth) := hr3.cell rfl
  have z4 : W3.frozen? ⟨b, 4, none⟩ = false := hr3.fr 4
  have hr4 := hr3.set (k := 4) (u := .int .i64 (st.depth - 1)) (p' := p) (st' := ⟨st.mark, st.depth - 1, st.j, st.s, st.c⟩) rfl
  obtain ⟨W4, hW4⟩ : ∃ W4, W3.setCell ⟨b, 4, none⟩ (.int .i64 (st.depth - 1)) = W4 := ⟨_, rfl⟩
  rw [hW4] at hr4
  have y1 : W4.cell? ⟨b, 1, none⟩ = some (.int .i64 (p : Nat)) := hr4.cell rfl
  have HRX := Lib.hid hr4
  clear hr3 hW3 hr4
  go_wp2_with (go_at_call 67; ((with_reducible refine (HLF.out _ _ _ HRX.out).mono ?_); rintro e w4 ⟨rfl, v4, hr4⟩; have HR4 := Lib.hid hr4; clear hr4))
  go_ret
  exact ⟨rfl, _, HR4.out⟩
set_option maxRecDepth 100000 in
set_option maxHeartbeats 4000000 in
theorem op_none125 (w0 W : World) (O : Nat → Obj → Prop) (b : Nat) (line : ByteArray) (p : Nat) (v : Value) (es : List PEv) (st : PSt) (hr : RdAt w0 W O b line p v es st) (hT : TabsP w0) (hp : p < line.size) (hs : (line.size : Int) ≤ 1000000) (hl : es.length ≤ 1000000) (hb : opL ((bl line).drop p) ≠ 0) (hd0 : 0 ≤ st.depth) (hd1 : st.depth ≤ 1048576) (c : Nat) (hcc : bt line p = c) (h125 : c = 125) (hm : st.depth = 0) :
    Calls Tryz.prog 54 #[.pointer (some ⟨b, 0, none⟩)] W (Took w0 O b line true ((p + opL ((bl line).drop p))) (es ++ [⟨2, p, (p + opL ((bl line).drop p))⟩]) (lfS ⟨st.mark, st.depth, st.j, st.s, st.c⟩ 2 (((bl line).drop p).take ((p + opL ((bl line).drop p)) - p)))) := by
  have c0 : W.cell? ⟨b, 0, none⟩ = some (.string line) := hr.cell rfl
  have c1 : W.cell? ⟨b, 1, none⟩ = some (.int .i64 (p : Nat)) := hr.cell rfl
  have p0 : (0 : Int) ≤ (p : Int) := by omega
  have p1 : (p : Int) < line.size := by omega
  have p2 : (p : Int) ≤ line.size := by omega
  have HR := Lib.hid hr
  have HOP := Lib.hid (fun W' => (show Calls Tryz.prog 72 #[.string (line.extract p line.size)] W' fun e w' => e = .returned (.int .i64 (opL ((bl line).drop p) : Nat)) ∧ Up W' w' from by
    have h := pOperates_any (line.extract p line.size) W' (by rw [ByteArray.size_extract]; omega)
    rw [← drop_bytes] at h
    exact h))
  have hnl := opL_le ((bl line).drop p)
  rw [List.length_drop, bl_len] at hnl
  generalize opL ((bl line).drop p) = n at *
  have HLF := Lib.hid (fun W' (v' : Value) (st' : PSt) (hr' : RdAt w0 W' O b line p v' es st') => leaf_any w0 W' O b line p (p + n) v' es st' 2 hr' (by omega) (by omega) hs hl)
  rw [show ((2 : Nat) : Int) = 2 from rfl] at HLF
  have n1 : ((n : Int) == 0) = false := beq_eq_false_iff_ne.2 (by omega)
  have e1 : IntKind.i64.wrap ((p : Int) + n) = (p : Int) + n := IntWalk.i64_in _ (by omega)
  rw [show ((p + n : Nat) : Int) = (p : Int) + n from by omega] at HLF
  have hx : line[p].toNat = 125 := by rw [bt_eq hp]; exact hcc.trans h125
  have e5 : (st.depth == 0) = true := beq_iff_eq.2 hm
  clear h125 hd0 hd1 hm
  have hS : RdAt w0 W O b line p v es st ∧ W.cell? ⟨b, 0, none⟩ = some (.string line) ∧ W.cell? ⟨b, 1, none⟩ = some (.int .i64 (p : Nat)) := ⟨hr, c0, c1⟩
  clear hb hnl c0 c1 hcc
  clear hr hT hs hl
  go_enter Tryz.func54, Tryz.ntmps54
  go_wp2
  go_region_held3 (fun w' => RdAt w0 w' O b line p v es st ∧ w'.cell? ⟨b, 0, none⟩ = some (.string line) ∧ w'.cell? ⟨b, 1, none⟩ = some (.int .i64 (p : Nat)))
    (first | assumption | with_reducible exact keepC01 (Up.drew _) (by assumption) | with_reducible exact keepC01 hu (by assumption))
    (first | (go_at_call 72; ((with_reducible refine (HOP.out _).mono ?_); rintro e w2 ⟨rfl, hu⟩)))
  have hr3 := hS.1.more (((Up.drew W).trans hu).trans (Up.drew w2))
  have c0 : w2.cell? ⟨b, 0, none⟩ = some (.string line) := (hS.1.more ((Up.drew W).trans hu)).cell rfl
  have c1 : w2.cell? ⟨b, 1, none⟩ = some (.int .i64 (p : Nat)) := (hS.1.more ((Up.drew W).trans hu)).cell rfl
  clear hS
  go_wp2
  go_region
  generalize hW3 : w2.drew = W3 at hr3 ⊢
  clear c0 c1
  have d1 : W3.cell? ⟨b, 1, none⟩ = some (.int .i64 (p : Nat)) := hr3.cell rfl
  have d4 : W3.cell? ⟨b, 4, none⟩ = some (.int .i64 st.depth) := hr3.cell rfl
  have z4 : W3.frozen? ⟨b, 4, none⟩ = false := hr3.fr 4
  have HRX := Lib.hid hr3
  clear hr3 hW3
  go_wp2_with (go_at_call 67; ((with_reducible refine (HLF.out _ _ _ HRX.out).mono ?_); rintro e w4 ⟨rfl, v4, hr4⟩; have HR4 := Lib.hid hr4; clear hr4))
  go_ret
  exact ⟨rfl, _, HR4.out⟩
set_option maxRecDepth 100000 in
set_option maxHeartbeats 4000000 in
theorem op_close125 (w0 W : World) (O : Nat → Obj → Prop) (b : Nat) (line : ByteArray) (p : Nat) (v : Value) (es : List PEv) (st : PSt) (hr : RdAt w0 W O b line p v es st) (hT : TabsP w0) (hp : p < line.size) (hs : (line.size : Int) ≤ 1000000) (hl : es.length ≤ 1000000) (hb : opL ((bl line).drop p) ≠ 0) (hd0 : 0 ≤ st.depth) (hd1 : st.depth ≤ 1048576) (c : Nat) (hcc : bt line p = c) (h125 : c = 125) (hm : st.depth ≠ 0) :
    Calls Tryz.prog 54 #[.pointer (some ⟨b, 0, none⟩)] W (Took w0 O b line true ((p + opL ((bl line).drop p))) (es ++ [⟨17, p, (p + opL ((bl line).drop p))⟩]) (lfS ⟨st.mark, st.depth - 1, st.j, st.s, st.c⟩ 17 (((bl line).drop p).take ((p + opL ((bl line).drop p)) - p)))) := by
  have c0 : W.cell? ⟨b, 0, none⟩ = some (.string line) := hr.cell rfl
  have c1 : W.cell? ⟨b, 1, none⟩ = some (.int .i64 (p : Nat)) := hr.cell rfl
  have p0 : (0 : Int) ≤ (p : Int) := by omega
  have p1 : (p : Int) < line.size := by omega
  have p2 : (p : Int) ≤ line.size := by omega
  have HR := Lib.hid hr
  have HOP := Lib.hid (fun W' => (show Calls Tryz.prog 72 #[.string (line.extract p line.size)] W' fun e w' => e = .returned (.int .i64 (opL ((bl line).drop p) : Nat)) ∧ Up W' w' from by
    have h := pOperates_any (line.extract p line.size) W' (by rw [ByteArray.size_extract]; omega)
    rw [← drop_bytes] at h
    exact h))
  have hnl := opL_le ((bl line).drop p)
  rw [List.length_drop, bl_len] at hnl
  generalize opL ((bl line).drop p) = n at *
  have HLF := Lib.hid (fun W' (v' : Value) (st' : PSt) (hr' : RdAt w0 W' O b line p v' es st') => leaf_any w0 W' O b line p (p + n) v' es st' 17 hr' (by omega) (by omega) hs hl)
  rw [show ((17 : Nat) : Int) = 17 from rfl] at HLF
  have n1 : ((n : Int) == 0) = false := beq_eq_false_iff_ne.2 (by omega)
  have e1 : IntKind.i64.wrap ((p : Int) + n) = (p : Int) + n := IntWalk.i64_in _ (by omega)
  rw [show ((p + n : Nat) : Int) = (p : Int) + n from by omega] at HLF
  have hx : line[p].toNat = 125 := by rw [bt_eq hp]; exact hcc.trans h125
  have e5 : (st.depth == 0) = false := beq_eq_false_iff_ne.2 hm
  have e6 : IntKind.i64.wrap (st.depth - 1) = st.depth - 1 := IntWalk.i64_in _ (by omega)
  clear h125 hd0 hd1 hm
  have hS : RdAt w0 W O b line p v es st ∧ W.cell? ⟨b, 0, none⟩ = some (.string line) ∧ W.cell? ⟨b, 1, none⟩ = some (.int .i64 (p : Nat)) := ⟨hr, c0, c1⟩
  clear hb hnl c0 c1 hcc
  clear hr hT hs hl
  go_enter Tryz.func54, Tryz.ntmps54
  go_wp2
  go_region_held3 (fun w' => RdAt w0 w' O b line p v es st ∧ w'.cell? ⟨b, 0, none⟩ = some (.string line) ∧ w'.cell? ⟨b, 1, none⟩ = some (.int .i64 (p : Nat)))
    (first | assumption | with_reducible exact keepC01 (Up.drew _) (by assumption) | with_reducible exact keepC01 hu (by assumption))
    (first | (go_at_call 72; ((with_reducible refine (HOP.out _).mono ?_); rintro e w2 ⟨rfl, hu⟩)))
  have hr3 := hS.1.more (((Up.drew W).trans hu).trans (Up.drew w2))
  have c0 : w2.cell? ⟨b, 0, none⟩ = some (.string line) := (hS.1.more ((Up.drew W).trans hu)).cell rfl
  have c1 : w2.cell? ⟨b, 1, none⟩ = some (.int .i64 (p : Nat)) := (hS.1.more ((Up.drew W).trans hu)).cell rfl
  clear hS
  go_wp2
  go_region
  generalize hW3 : w2.drew = W3 at hr3 ⊢
  clear c0 c1
  have d1 : W3.cell? ⟨b, 1, none⟩ = some (.int .i64 (p : Nat)) := hr3.cell rfl
  have d4 : W3.cell? ⟨b, 4, none⟩ = some (.int .i64 st.depth) := hr3.cell rfl
  have z4 : W3.frozen? ⟨b, 4, none⟩ = false := hr3.fr 4
  have hr4 := hr3.set (k := 4) (u := .int .i64 (st.depth - 1)) (p' := p) (st' := ⟨st.mark, st.depth - 1, st.j, st.s, st.c⟩) rfl
  obtain ⟨W4, hW4⟩ : ∃ W4, W3.setCell ⟨b, 4, none⟩ (.int .i64 (st.depth - 1)) = W4 := ⟨_, rfl⟩
  rw [hW4] at hr4
  have y1 : W4.cell? ⟨b, 1, none⟩ = some (.int .i64 (p : Nat)) := hr4.cell rfl
  have HRX := Lib.hid hr4
  clear hr3 hW3 hr4
  go_wp2_with (go_at_call 67; ((with_reducible refine (HLF.out _ _ _ HRX.out).mono ?_); rintro e w4 ⟨rfl, v4, hr4⟩; have HR4 := Lib.hid hr4; clear hr4))
  go_ret
  exact ⟨rfl, _, HR4.out⟩
set_option maxRecDepth 100000 in
set_option maxHeartbeats 4000000 in
theorem op_rest (w0 W : World) (O : Nat → Obj → Prop) (b : Nat) (line : ByteArray) (p : Nat) (v : Value) (es : List PEv) (st : PSt) (hr : RdAt w0 W O b line p v es st) (hT : TabsP w0) (hp : p < line.size) (hs : (line.size : Int) ≤ 1000000) (hl : es.length ≤ 1000000) (hb : opL ((bl line).drop p) ≠ 0) (hd0 : 0 ≤ st.depth) (hd1 : st.depth ≤ 1048576) (c : Nat) (hcc : bt line p = c) (hn : c ≠ 40 ∧ c ≠ 91 ∧ c ≠ 123 ∧ c ≠ 41 ∧ c ≠ 93 ∧ c ≠ 125) :
    Calls Tryz.prog 54 #[.pointer (some ⟨b, 0, none⟩)] W (Took w0 O b line true ((p + opL ((bl line).drop p))) (es ++ [⟨17, p, (p + opL ((bl line).drop p))⟩]) (lfS ⟨st.mark, st.depth, st.j, st.s, st.c⟩ 17 (((bl line).drop p).take ((p + opL ((bl line).drop p)) - p)))) := by
  have c0 : W.cell? ⟨b, 0, none⟩ = some (.string line) := hr.cell rfl
  have c1 : W.cell? ⟨b, 1, none⟩ = some (.int .i64 (p : Nat)) := hr.cell rfl
  have p0 : (0 : Int) ≤ (p : Int) := by omega
  have p1 : (p : Int) < line.size := by omega
  have p2 : (p : Int) ≤ line.size := by omega
  have HR := Lib.hid hr
  have HOP := Lib.hid (fun W' => (show Calls Tryz.prog 72 #[.string (line.extract p line.size)] W' fun e w' => e = .returned (.int .i64 (opL ((bl line).drop p) : Nat)) ∧ Up W' w' from by
    have h := pOperates_any (line.extract p line.size) W' (by rw [ByteArray.size_extract]; omega)
    rw [← drop_bytes] at h
    exact h))
  have hnl := opL_le ((bl line).drop p)
  rw [List.length_drop, bl_len] at hnl
  generalize opL ((bl line).drop p) = n at *
  have HLF := Lib.hid (fun W' (v' : Value) (st' : PSt) (hr' : RdAt w0 W' O b line p v' es st') => leaf_any w0 W' O b line p (p + n) v' es st' 17 hr' (by omega) (by omega) hs hl)
  rw [show ((17 : Nat) : Int) = 17 from rfl] at HLF
  have n1 : ((n : Int) == 0) = false := beq_eq_false_iff_ne.2 (by omega)
  have e1 : IntKind.i64.wrap ((p : Int) + n) = (p : Int) + n := IntWalk.i64_in _ (by omega)
  rw [show ((p + n : Nat) : Int) = (p : Int) + n from by omega] at HLF
  have hx : line[p].toNat = c := by rw [bt_eq hp]; exact hcc
  have n40 : ((c : Int) == 40) = false := beq_eq_false_iff_ne.2 (by omega)
  have n91 : ((c : Int) == 91) = false := beq_eq_false_iff_ne.2 (by omega)
  have n123 : ((c : Int) == 123) = false := beq_eq_false_iff_ne.2 (by omega)
  have n41 : ((c : Int) == 41) = false := beq_eq_false_iff_ne.2 (by omega)
  have n93 : ((c : Int) == 93) = false := beq_eq_false_iff_ne.2 (by omega)
  have n125 : ((c : Int) == 125) = false := beq_eq_false_iff_ne.2 (by omega)
  clear hn hd0 hd1
  have hS : RdAt w0 W O b line p v es st ∧ W.cell? ⟨b, 0, none⟩ = some (.string line) ∧ W.cell? ⟨b, 1, none⟩ = some (.int .i64 (p : Nat)) := ⟨hr, c0, c1⟩
  clear hb hnl c0 c1 hcc
  clear hr hT hs hl
  go_enter Tryz.func54, Tryz.ntmps54
  go_wp2
  go_region_held3 (fun w' => RdAt w0 w' O b line p v es st ∧ w'.cell? ⟨b, 0, none⟩ = some (.string line) ∧ w'.cell? ⟨b, 1, none⟩ = some (.int .i64 (p : Nat)))
    (first | assumption | with_reducible exact keepC01 (Up.drew _) (by assumption) | with_reducible exact keepC01 hu (by assumption))
    (first | (go_at_call 72; ((with_reducible refine (HOP.out _).mono ?_); rintro e w2 ⟨rfl, hu⟩)))
  have hr3 := hS.1.more (((Up.drew W).trans hu).trans (Up.drew w2))
  have c0 : w2.cell? ⟨b, 0, none⟩ = some (.string line) := (hS.1.more ((Up.drew W).trans hu)).cell rfl
  have c1 : w2.cell? ⟨b, 1, none⟩ = some (.int .i64 (p : Nat)) := (hS.1.more ((Up.drew W).trans hu)).cell rfl
  clear hS
  go_wp2
  go_region
  generalize hW3 : w2.drew = W3 at hr3 ⊢
  clear c0 c1
  have d1 : W3.cell? ⟨b, 1, none⟩ = some (.int .i64 (p : Nat)) := hr3.cell rfl
  have d4 : W3.cell? ⟨b, 4, none⟩ = some (.int .i64 st.depth) := hr3.cell rfl
  have z4 : W3.frozen? ⟨b, 4, none⟩ = false := hr3.fr 4
  have HRX := Lib.hid hr3
  clear hr3 hW3
  go_wp2_with (go_at_call 67; ((with_reducible refine (HLF.out _ _ _ HRX.out).mono ?_); rintro e w4 ⟨rfl, v4, hr4⟩; have HR4 := Lib.hid hr4; clear hr4))
  go_ret
  exact ⟨rfl, _, HR4.out⟩
set_option maxRecDepth 100000 in
set_option maxHeartbeats 4000000 in
theorem other_yes (w0 W : World) (O : Nat → Obj → Prop) (b : Nat) (line : ByteArray) (p : Nat) (v : Value) (es : List PEv) (st : PSt) (hr : RdAt w0 W O b line p v es st) (hT : TabsP w0) (hp : p < line.size) (hs : (line.size : Int) ≤ 1000000) (hl : es.length ≤ 1000000)  :
    Calls Tryz.prog 55 #[.pointer (some ⟨b, 0, none⟩)] W (Took w0 O b line true (p + 1) (es ++ [⟨2, p, p + 1⟩]) (lfS st 2 (((bl line).drop p).take (p + 1 - p)))) := by
  have c0 : W.cell? ⟨b, 0, none⟩ = some (.string line) := hr.cell rfl
  have c1 : W.cell? ⟨b, 1, none⟩ = some (.int .i64 (p : Nat)) := hr.cell rfl
  have p0 : (0 : Int) ≤ (p : Int) := by omega
  have p1 : (p : Int) < line.size := by omega
  have p2 : (p : Int) ≤ line.size := by omega
  have HR := Lib.hid hr
  have HLF := Lib.hid (fun W' (v' : Value) (st' : PSt) (hr' : RdAt w0 W' O b line p v' es st') => leaf_any w0 W' O b line p (p + 1) v' es st' 2 hr' (by omega) (by omega) hs hl)
  rw [show ((2 : Nat) : Int) = 2 from rfl] at HLF
  rw [show ((p + 1 : Nat) : Int) = (p : Int) + 1 from rfl] at HLF
  have HRX := Lib.hid hr
  have e1 : IntKind.i64.wrap ((p : Int) + 1) = (p : Int) + 1 := IntWalk.i64_in _ (by omega)
  clear hr hT hs hl
  go_enter Tryz.func55, Tryz.ntmps55
  go_wp2_with (go_at_call 67; ((with_reducible refine (HLF.out _ _ _ HRX.out).mono ?_); rintro e w4 ⟨rfl, v4, hr4⟩; have HR4 := Lib.hid hr4; clear hr4))
  go_ret
  exact ⟨rfl, _, HR4.out⟩
end Go.Proofs.YtmfcapbllbfjnaaGreatDoor
