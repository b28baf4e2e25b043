/- The program's isBehind and along. -/
import Derived.Test.YtmeipmkiknekjaaDoorHOp
import Derived.Test.YtmeipmkiknekjaaDoorHSmall
namespace Go.Proofs.YtmeipmkiknekjaaDoor
open Go.RowKit

theorem opE_nat (L : List Nat) (p : Nat) : opE L (p : Int) = opL (L.drop p) := by
  unfold opE
  rw [if_neg (by omega), Int.toNat_natCast]
theorem hdW_at {s : ByteArray} {p : Nat} (h : p < s.size) : hdW ((bl s).drop p) = isW (bt s p) := by rw [bl_drop h]; rfl
section
variable {w0 W : World} {b n p mk : Nat} {line : ByteArray}
set_option maxRecDepth 100000 in
set_option maxHeartbeats 4000000 in
theorem isBehind_any (hT : TabH W) (hn : n = con (bl line)) (hp : p ≤ n) (c0 : W.cell? ⟨b, 0, none⟩ = some (.string line)) (c1 : W.cell? ⟨b, 1, none⟩ = some (.int .i64 (n : Nat))) (c2 : W.cell? ⟨b, 2, none⟩ = some (.int .i64 (p : Nat))) :
    Calls Tryd.prog 32 #[.pointer (some ⟨b, 0, none⟩)] W fun e w' => e = .returned (.bool (bhd ((bl line).drop p))) ∧ DrN W w' := by
  have hcd : con ((bl line).drop p) = n - p := by rw [con_drop p _ (by omega)]; omega
  have hle := con_le (bl line)
  rw [bl_len] at hle
  by_cases h0 : p = n
  · have e : bhd ((bl line).drop p) = true := by unfold bhd; rw [hcd]; simp [show n - p = 0 from by omega]
    rw [e]
    subst h0
    clear hcd e hn hp
    go_enter Tryd.func32, Tryd.ntmps32
    go_wp2
    go_quiet (fail)
    go_wp2
    go_ret
    exact ⟨rfl, _, rfl⟩
  have hlt : p < line.size := by omega
  have n0 : ((p : Int) == (n : Int)) = false := beq_eq_false_iff_ne.2 (by omega)
  have HB := Lib.hid (fun m => quietD (isBlank_any (W.drewN m) b line p hlt (cell_up (Up.drewN W m) c0) (cell_up (Up.drewN W m) c2)))
  have HO := Lib.hid (fun m => quietD (op_any (W.drewN m) (hT.up (Up.drewN W m)) line (p : Int)))
  have HJ := Lib.hid (fun m => quietD (isJoin_any (W.drewN m) b line p (Nat.le_of_lt hlt) (cell_up (Up.drewN W m) c0) (cell_up (Up.drewN W m) c2)))
  rw [opE_nat] at HO
  have e : bhd ((bl line).drop p) = (isW (bt line p) || (decide (0 < opL ((bl line).drop p)) || (bl line).drop p == [92, 10])) := by
    unfold bhd
    rw [hcd, hdW_at hlt, decide_eq_false (show ¬ n - p = 0 by omega), Bool.false_or, Bool.or_assoc]
  rw [e]
  clear e hcd hn hp hT h0 hle
  generalize isW (bt line p) = X at HB ⊢
  generalize opL ((bl line).drop p) = K at HO ⊢
  generalize ((bl line).drop p == [92, 10]) = Y at HJ ⊢
  have hK : (X = true) ∨ (X = false ∧ 0 < K) ∨ (X = false ∧ K = 0) := by cases X <;> simp <;> omega
  rcases hK with rfl | ⟨rfl, hk⟩ | ⟨rfl, rfl⟩
  case' inr.inl =>
    have g1 : decide ((0 : Int) < (K : Int)) = true := decide_eq_true (by omega)
    have g2 : (0 : Int) < (K : Int) := by omega
    rw [decide_eq_true hk]
  case' inr.inr =>
    rw [show ((0 : Nat) : Int) = 0 from rfl] at HO
    cases Y
  all_goals
    go_enter Tryd.func32, Tryd.ntmps32
    go_wp2
    go_quiet (first
      | (go_at_call 27; with_reducible exact HB.out _)
      | (go_at_call 12; with_reducible exact HO.out _)
      | (go_at_call 29; with_reducible exact HJ.out _))
    go_wp2
    go_ret
    exact ⟨rfl, _, rfl⟩
theorem byte_back (b : UInt8) : ((b.toNat : Nat) : Int).toNat.toUInt8 = b := by
  apply UInt8.toNat_inj.1
  simp
theorem frd_byte (d : UInt8) : decide (Lib.indexByte (⟨#[92, 34, 36, 96]⟩ : ByteArray).data.toList d < 0) = !frd d.toNat := by
  have h : ∀ d : Fin 256, decide (Lib.indexByte (⟨#[92, 34, 36, 96]⟩ : ByteArray).data.toList (UInt8.ofNat d.val) < 0) = !frd d.val := by decide +kernel
  have := h ⟨d.toNat, d.toNat_lt⟩
  simpa using this
theorem alg_at {s : ByteArray} {p : Nat} (q : Bool) (h : p < s.size) (hc : con ((bl s).drop p) ≠ 0) : alg q ((bl s).drop p) = if (q && !frd (bt s p)) = true then (0, 92) else (1, bt s p) := by
  unfold alg
  rw [if_neg hc, bl_drop h]
theorem alg_lt (q : Bool) (s : ByteArray) (p : Nat) : (alg q ((bl s).drop p)).2 < 256 := by
  unfold alg
  split
  · decide
  · split
    · decide
    · rename_i d r h
      have : d ∈ bl s := List.mem_of_mem_drop (by rw [h]; simp)
      have := bl_lt this
      split
      · decide
      · exact this
set_option maxRecDepth 100000 in
set_option maxHeartbeats 4000000 in
theorem along_any {tb : Nat} {v tv : Value} {ps : List Pc} {l : List Nat} (q : Bool) (h : LtH w0 W b tb line n p mk v ps tv l) (hn : n = con (bl line)) (hp : p ≤ n) (hs : (line.size : Int) ≤ 1000000) :
    Calls Tryd.prog 34 #[.pointer (some ⟨b, 0, none⟩), .bool q] W fun e w' => e = .returned (.int .u8 ((alg q ((bl line).drop p)).2 : Nat)) ∧ LtH w0 w' b tb line n (p + (alg q ((bl line).drop p)).1) mk v ps tv l := by
  have hcd : con ((bl line).drop p) = n - p := by rw [con_drop p _ (by omega)]; omega
  have hle := con_le (bl line)
  rw [bl_len] at hle
  have c0 : W.cell? ⟨b, 0, none⟩ = some (.string line) := h.rd.cell rfl
  have c1 : W.cell? ⟨b, 1, none⟩ = some (.int .i64 (n : Nat)) := h.rd.cell rfl
  have c2 : W.cell? ⟨b, 2, none⟩ = some (.int .i64 (p : Nat)) := h.rd.cell rfl
  have HR := Lib.hid (fun m => h.more (Up.drewN W m))
  by_cases h0 : p = n
  · have e : alg q ((bl line).drop p) = (0, 92) := by unfold alg; rw [if_pos (by rw [hcd]; omega)]
    rw [e]
    subst h0
    clear hcd e hn hp h
    go_enter Tryd.func34, Tryd.ntmps34
    go_wp2
    go_quiet (fail)
    go_wp2
    go_ret
    exact ⟨rfl, HR.out _⟩
  have hlt : p < line.size := by omega
  have n0 : ((p : Int) == (n : Int)) = false := beq_eq_false_iff_ne.2 (by omega)
  have p0 : (0 : Int) ≤ (p : Int) := by omega
  have p1 : (p : Int) < line.size := by omega
  have HT := Lib.hid (fun m => take_any (h.more (Up.drewN W m)) hlt hs)
  rw [alg_at q hlt (by omega)]
  have HIB := Lib.hid (fun W' => (Tryd.strings_IndexByte ⟨#[92, 34, 36, 96]⟩ (line[p].toNat : Nat) W'))
  have hK := frd_byte line[p]
  rw [byte_back] at HIB
  generalize Lib.indexByte (⟨#[92, 34, 36, 96]⟩ : ByteArray).data.toList line[p] = K at HIB hK
  rw [bt_eq hlt] at hK HIB
  have hx : line[p].toNat = bt line p := bt_eq hlt
  generalize bt line p = c at hK HT hx HIB ⊢
  clear hcd hn hp h h0 hle
  have hcase : (q = false) ∨ (q = true ∧ frd c = false) ∨ (q = true ∧ frd c = true) := by cases q <;> cases frd c <;> simp
  rcases hcase with rfl | ⟨rfl, hf⟩ | ⟨rfl, hf⟩
  · clear HIB hK
    go_enter Tryd.func34, Tryd.ntmps34
    go_wp2
    go_quiet (fail)
    go_wp2_with (go_at_call 33; ((with_reducible refine (HT.out _).mono ?_); rintro e w4 ⟨rfl, h4⟩; have H4 := Lib.hid h4; clear h4))
    go_ret
    exact ⟨rfl, H4.out⟩
  · rw [hf] at hK
    rw [hf]
    have hk : K < 0 := of_decide_eq_true hK
    clear hf hK
    go_enter Tryd.func34, Tryd.ntmps34
    go_wp2
    go_quiet (first
      | (go_at_call 36; with_reducible exact Calls.quiet_of_same (HIB.out _)))
    go_wp2
    go_ret
    exact ⟨rfl, HR.out _⟩
  · rw [hf] at hK
    rw [hf]
    have hk : decide (K < 0) = false := hK
    clear hf hK
    go_enter Tryd.func34, Tryd.ntmps34
    go_wp2
    go_quiet (first
      | (go_at_call 36; with_reducible exact Calls.quiet_of_same (HIB.out _)))
    go_wp2_with (go_at_call 33; ((with_reducible refine (HT.out _).mono ?_); rintro e w4 ⟨rfl, h4⟩; have H4 := Lib.hid h4; clear h4))
    go_ret
    exact ⟨rfl, H4.out⟩
end
end Go.Proofs.YtmeipmkiknekjaaDoor
