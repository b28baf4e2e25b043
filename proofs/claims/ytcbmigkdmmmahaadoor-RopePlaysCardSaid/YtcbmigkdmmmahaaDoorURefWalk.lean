/- The document's own Char and Len, walked at every input. -/
import Derived.Test.YtcbmigkdmmmahaaDoorURefChar
namespace Go.Proofs.YtcbmigkdmmmahaaDoor
open Go.RowKit
theorem bytes_ext {a b : ByteArray} (h : a.toList = b.toList) : a = b := by
  rw [ByteArray.toList_eq, ByteArray.toList_eq] at h
  exact ByteArray.ext (Array.toList_inj.mp h)
theorem charSays_at {s : ByteArray} {k c n : Nat} {C : Int} {b : Bool} {w w' : World} {e : Ending} (hk : k < s.size) (hd : dec s k = (c, n)) (hC : C = c) (hb : b = decide (0 < n))
    (he : e = .returned (.tuple #[.int .i32 C, .bool b])) (hu : Up w w') : CharSays s k w e w' := by
  subst hC hb
  refine charSays ?_ ?_ he hu
  · unfold chI; rw [if_pos ⟨by omega, by omega⟩, show ((k : Int)).toNat = k from rfl, hd]
  · unfold okI; rw [decide_eq_true (⟨by omega, by omega⟩ : (0 : Int) ≤ k ∧ (k : Int) < s.size), show ((k : Int)).toNat = k from rfl, hd, Bool.true_and]

set_option maxRecDepth 100000 in
set_option maxHeartbeats 2000000 in
theorem refChar_in (s : ByteArray) (k : Nat) (hk : k < s.size) (hs : s.size ≤ maxLen) (w : World) :
    Calls Tryd.prog 54 #[.string s, .int .i64 k] w (CharSays s k w) := by
  unfold maxLen at hs
  have hk0 : decide ((k : Int) < 0) = false := by simp
  have hk1 : decide (s.size ≤ k) = false := by simp; omega
  go_enter Tryd.func54, Tryd.ntmps54
  go_wp2
  go_loopw [6] (fun v wr => ∃ n : Nat, 1 ≤ n ∧ n ≤ 5 ∧ n ≤ s.size - k + 1 ∧ v = .int .i64 n ∧ Hid (∀ m, 1 ≤ m → m < n → ¬ OKat s k m) ∧ Up w wr)
    (fun v _ => 5 - (intOf v).toNat)
  case atStart => exact ⟨1, by omega, by omega, by omega, rfl, Lib.hid fun m h1 h2 => by omega, Up.refl _⟩
  case round =>
    obtain ⟨n, hn1, hn5, hnr, rfl, Hno, hu⟩ := hrel
    by_cases hgo : n ≤ 4 ∧ n ≤ s.size - k
    · obtain ⟨hn4, hnr2⟩ := hgo
      have hle : (n : Int) ≤ s.size - k := by omega
      obtain ⟨wo, rfl⟩ : ∃ wo : World, wo = wr := ⟨_, rfl⟩
      go_wp2
      go_loop [7, 8] (fun c i => ∃ (q : Nat) (C : Int), q ≤ n ∧ i = .int .i64 q ∧ c = .int .i32 C ∧ Hid (C = (racc s k n q : Nat)))
        (fun _ i => n - (intOf i).toNat)
      case atStart => exact ⟨0, 0, by omega, rfl, rfl, Lib.hid rfl⟩
      case round =>
        obtain ⟨q, C, hq, rfl, rfl, HC⟩ := hrel
        by_cases hqn : q < n
        · have hks : k + q < s.size := by omega
          by_cases hq0 : 0 < q
          · have hst := wref (racc s k n q) s[k + q].toNat (racc_lt s k n q (by omega)) (UInt8.toNat_lt _)
            have Hst := Lib.hid hst
            clear hst
            go_wp2
            go_round
            case rel => exact ⟨q + 1, _, by omega, by go_num, rfl, Lib.hid (by rw [HC.out, Hst.out, racc_succ _ _ _ _ hq0, bt_eq hks])⟩
            case measure => simp [intOf]; omega
          · have Hq : Hid (q = 0) := Lib.hid (by omega)
            have Hb : Hid (s[k + q].toNat = bt s k) := Lib.hid (by rw [bt_eq hks, Hq.out]; rfl)
            have hq1 : (q : Int) ≤ 0 := by omega
            clear hq0
            have h4 : n = 1 ∨ n = 2 ∨ n = 3 ∨ n = 4 := by omega
            rcases h4 with h | h | h | h
            · have f1 : ((n : Int) == 1) = true := by simp; omega
              have hst : wrap32 (s[k + q].toNat : Int) = (racc s k n (q + 1) : Nat) := by
                rw [Hb.out, Hq.out]; simp only [racc, lm, h]; have := bt_lt s k; unfold wrap32; simp; omega
              have Hst := Lib.hid hst
              clear hst h
              go_wp2
              go_round
              case rel => exact ⟨q + 1, _, by omega, by go_num, rfl, Lib.hid Hst.out⟩
              case measure => simp [intOf]; omega
            · have f1 : ((n : Int) == 1) = false := by simp; omega
              have f2 : ((n : Int) == 2) = true := by simp; omega
              have hst : (wrap32 (s[k + q].toNat : Int)).tmod 32 = (racc s k n (q + 1) : Nat) := by
                rw [Hb.out, Hq.out]; simp only [racc, lm, h]; exact wref0 (bt s k) 32 (bt_lt s k)
              have Hst := Lib.hid hst
              clear hst h
              go_wp2
              go_round
              case rel => exact ⟨q + 1, _, by omega, by go_num, rfl, Lib.hid Hst.out⟩
              case measure => simp [intOf]; omega
            · have f1 : ((n : Int) == 1) = false := by simp; omega
              have f2 : ((n : Int) == 2) = false := by simp; omega
              have f3 : ((n : Int) == 3) = true := by simp; omega
              have hst : (wrap32 (s[k + q].toNat : Int)).tmod 16 = (racc s k n (q + 1) : Nat) := by
                rw [Hb.out, Hq.out]; simp only [racc, lm, h]; exact wref0 (bt s k) 16 (bt_lt s k)
              have Hst := Lib.hid hst
              clear hst h
              go_wp2
              go_round
              case rel => exact ⟨q + 1, _, by omega, by go_num, rfl, Lib.hid Hst.out⟩
              case measure => simp [intOf]; omega
            · have f1 : ((n : Int) == 1) = false := by simp; omega
              have f2 : ((n : Int) == 2) = false := by simp; omega
              have f3 : ((n : Int) == 3) = false := by simp; omega
              have hst : (wrap32 (s[k + q].toNat : Int)).tmod 8 = (racc s k n (q + 1) : Nat) := by
                rw [Hb.out, Hq.out]; simp only [racc, lm, h]; exact wref0 (bt s k) 8 (bt_lt s k)
              have Hst := Lib.hid hst
              clear hst h
              go_wp2
              go_round
              case rel => exact ⟨q + 1, _, by omega, by go_num, rfl, Lib.hid Hst.out⟩
              case measure => simp [intOf]; omega
        · have Hqn : Hid (q = n) := Lib.hid (by omega)
          cases hi : isCI C with
          | false =>
            have hp := refPut_any C wo
            unfold PutSays at hp
            rw [hi] at hp
            have Hp := Lib.hid hp
            have Hi := Lib.hid hi
            clear hp hi
            go_wp2_with (go_at_call 55; refine (Hp.out).mono ?_; rintro e w' ⟨rfl, hu2⟩)
            go_roundw
            case rel =>
              refine ⟨n + 1, by omega, by omega, by omega, by go_num, Lib.hid fun m h1 h2 h3 => ?_, hu.trans hu2⟩
              by_cases e : m = n
              · subst e
                have h4 := Hi.out
                rw [HC.out, Hqn.out, isCI_nat, h3.1] at h4
                cases h4
              · exact Hno.out m h1 (by omega) h3
            case measure => simp [intOf]; omega
          | true =>
            have hps : putS C = encS (racc s k n n) := by
              unfold putS; rw [if_pos hi, HC.out, Hqn.out]; rfl
            have hp := refPut_any C wo
            unfold PutSays at hp
            rw [hi] at hp
            have hcq : C = (racc s k n n : Nat) := by have h := HC.out; rw [Hqn.out] at h; exact h
            have hci : isC (racc s k n n) = true := by rw [← isCI_nat, ← hcq]; exact hi
            have Hcq := Lib.hid hcq
            have Hci := Lib.hid hci
            have Hps := Lib.hid hps
            have Hp := Lib.hid hp
            clear hp hi hps hci hcq
            go_wp2_with (go_at_call 55; refine (Hp.out).mono ?_; rintro e w' ⟨rfl, hu2⟩)
            · have he : ((putS C).toList == (s.extract k (k + n)).toList) = true := by assumption
              have he2 : encS (racc s k n n) = s.extract k (k + n) := by rw [← Hps.out]; exact bytes_ext (by simpa using he)
              go_ret2
              exact charSays_at hk (dec_of_ok hn1 (by omega) ⟨Hci.out, he2⟩) Hcq.out (by simp; omega) rfl (hu.trans hu2)
            · have he : ((putS C).toList == (s.extract k (k + n)).toList) = false := by assumption
              go_roundw
              case rel =>
                refine ⟨n + 1, by omega, by omega, by omega, by go_num, Lib.hid fun m h1 h2 h3 => ?_, hu.trans hu2⟩
                by_cases e : m = n
                · subst e
                  rw [Hps.out, h3.2] at he
                  simp at he
                · exact Hno.out m h1 (by omega) h3
              case measure => simp [intOf]; omega
    · have hd : dec s k = (0, 0) := dec_of_none fun m h1 h2 h3 => Hno.out m h1 (by omega)
      have Hd := Lib.hid hd
      clear hd
      by_cases h4 : n ≤ 4
      · have h5 : (s.size : Int) - k < n := by omega
        clear hgo
        go_wp2
        go_ret2
        exact charSays_at hk Hd.out rfl rfl rfl hu
      · clear hgo
        go_wp2
        go_ret2
        exact charSays_at hk Hd.out rfl rfl rfl hu

theorem charSays_out {s : ByteArray} {x : Int} {w w' : World} {e : Ending} (h : ¬ (0 ≤ x ∧ x < s.size)) (he : e = .returned (.tuple #[.int .i32 0, .bool false])) (hu : Up w w') : CharSays s x w e w' :=
  charSays (by unfold chI; rw [if_neg h]) (by unfold okI; rw [decide_eq_false h]; rfl) he hu
theorem lenSays_out {s : ByteArray} {x : Int} {w w' : World} {e : Ending} (h : ¬ (0 ≤ x ∧ x < s.size)) (he : e = .returned (.tuple #[.int .i64 0, .bool false])) (hu : Up w w') : LenSays s x w e w' :=
  lenSays (by unfold lenI; rw [if_neg h]) (by unfold okI; rw [decide_eq_false h]; rfl) he hu

set_option maxHeartbeats 1000000 in
theorem refChar_any (s : ByteArray) (x : Int) (hs : s.size ≤ maxLen) (w : World) :
    Calls Tryd.prog 54 #[.string s, .int .i64 x] w (CharSays s x w) := by
  by_cases h : 0 ≤ x ∧ x < s.size
  · obtain ⟨k, rfl⟩ := Int.eq_ofNat_of_zero_le h.1
    exact refChar_in s k (by omega) hs w
  · have H := Lib.hid h
    unfold maxLen at hs
    by_cases h0 : 0 ≤ x
    · have h1 : (s.size : Int) ≤ x := by omega
      clear h
      go_enter Tryd.func54, Tryd.ntmps54
      go_wp2
      go_ret2
      exact charSays_out H.out rfl (Up.refl _)
    · clear h
      go_enter Tryd.func54, Tryd.ntmps54
      go_wp2
      go_ret2
      exact charSays_out H.out rfl (Up.refl _)

set_option maxHeartbeats 1000000 in
theorem refLen_any (s : ByteArray) (x : Int) (hs : s.size ≤ maxLen) (w : World) :
    Calls Tryd.prog 42 #[.string s, .int .i64 x] w (LenSays s x w) := by
  by_cases h : 0 ≤ x ∧ x < s.size
  · obtain ⟨k, rfl⟩ := Int.eq_ofNat_of_zero_le h.1
    have hk : k < s.size := by omega
    have hx0 : (0 : Int) ≤ k := by omega
    have hk1 : decide (s.size ≤ k) = false := by simp; omega
    have hl0 : lenI s k = if 0 < (dec s k).2 then ((dec s k).2 : Int) else 1 := by unfold lenI; rw [if_pos ⟨h.1, h.2⟩]; rfl
    have ho0 : okI s k = decide (0 < (dec s k).2) := by unfold okI; rw [decide_eq_true ⟨h.1, h.2⟩, Bool.true_and]; rfl
    have hc0 : chI s k = ((dec s k).1 : Int) := by unfold chI; rw [if_pos ⟨h.1, h.2⟩]; rfl
    have hc := refChar_any s k hs w
    unfold CharSays at hc
    by_cases hp : 0 < (dec s k).2
    · obtain ⟨hi, hn, _, _⟩ := dec_facts hp
      rw [ho0, decide_eq_true hp, hc0] at hc
      have hsz : (putS ((dec s k).1 : Int)).size = (dec s k).2 := by
        unfold putS; rw [if_pos (by rw [isCI_nat]; exact hi)]; rw [hn]; exact encS_size _
      have Hsz := Lib.hid hsz
      have hpt := fun w => refPut_any ((dec s k).1 : Int) w
      unfold PutSays at hpt
      have hl1 : lenI s k = ((dec s k).2 : Int) := by rw [hl0, if_pos hp]
      rw [decide_eq_true hp] at ho0
      obtain ⟨C, hC⟩ : ∃ C : Int, ((dec s k).1 : Int) = C := ⟨_, rfl⟩
      rw [hC] at hc hpt Hsz
      have Hc := Lib.hid hc
      have Hp := Lib.hid hpt
      have Hl := Lib.hid hl1
      have Ho := Lib.hid ho0
      have H := Lib.hid h
      clear hc hpt hsz hl0 hc0 hl1 ho0 hp hi hn hC h
      unfold maxLen at hs
      go_enter Tryd.func42, Tryd.ntmps42
      go_wp2_with (first | (go_at_call 54; refine (Hc.out).mono ?_; rintro e w' ⟨rfl, hu⟩) | (go_at_call 55; refine (Hp.out _).mono ?_; rintro e w2 ⟨rfl, hu2⟩))
      go_ret2
      exact lenSays (by rw [Hl.out, ← Hsz.out]) Ho.out rfl (hu.trans hu2)
    · rw [ho0, decide_eq_false hp] at hc
      have hl1 : lenI s k = 1 := by rw [hl0, if_neg hp]
      rw [decide_eq_false hp] at ho0
      obtain ⟨C, hC⟩ : ∃ C : Int, chI s k = C := ⟨_, rfl⟩
      rw [hC] at hc
      have Hc := Lib.hid hc
      have Hl := Lib.hid hl1
      have Ho := Lib.hid ho0
      clear hc hl0 hc0 hl1 ho0 hp hC h
      unfold maxLen at hs
      go_enter Tryd.func42, Tryd.ntmps42
      go_wp2_with (go_at_call 54; refine (Hc.out).mono ?_; rintro e w' ⟨rfl, hu⟩)
      go_ret2
      exact lenSays Hl.out Ho.out rfl hu
  · have H := Lib.hid h
    unfold maxLen at hs
    by_cases h0 : 0 ≤ x
    · have h1 : (s.size : Int) ≤ x := by omega
      clear h
      go_enter Tryd.func42, Tryd.ntmps42
      go_wp2
      go_ret2
      exact lenSays_out H.out rfl (Up.refl _)
    · clear h
      go_enter Tryd.func42, Tryd.ntmps42
      go_wp2
      go_ret2
      exact lenSays_out H.out rfl (Up.refl _)
end Go.Proofs.YtcbmigkdmmmahaaDoor
