/- The program's Put, at every number: the bytes of the character, or nothing. -/
import Derived.Test.YtibodioapkmgkaaDoorNeed
import Derived.Handy
import Derived.Laws.BytesArg
namespace Go.Proofs.YtibodioapkmgkaaDoor
open Go.RowKit

/-- The character's bytes, as a string. -/
def encS (c : Nat) : ByteArray := strOfNums ((enc c).map fun n : Nat => (n : Int))
def putS (c : Int) : ByteArray := if isCI c = true then encS c.toNat else ByteArray.empty
def PutSays (c : Int) (w : World) (e : Ending) (w' : World) : Prop := e = .returned (.tuple #[.string (putS c), .bool (isCI c)]) ∧ Up w w'
theorem putSays {c : Int} {s : ByteArray} {b : Bool} {w w' : World} {e : Ending} (h1 : putS c = s) (h2 : isCI c = b) (he : e = .returned (.tuple #[.string s, .bool b])) (hu : Up w w') : PutSays c w e w' := by
  unfold PutSays; rw [h1, h2]; exact ⟨he, hu⟩
theorem putS_yes {c : Nat} {l : List Int} (hi : isC c = true) (hl : l = (enc c).map fun n : Nat => (n : Int)) : putS c = strOfNums l := by
  unfold putS; rw [if_pos (by rw [isCI_nat]; exact hi), hl]; rfl

theorem wlater (x : Nat) (hx : x < 2147483648) : bits BinOp.or IntKind.u8 128 (bits BinOp.and IntKind.i32 (x : Int) 63 % 256) = ((128 + x % 64 : Nat) : Int) := by
  have e := i32_and_nat x 63 hx (by omega)
  rw [nat_mask6] at e
  rw [show (63 : Int) = ((63 : Nat) : Int) from rfl, e, show ((x % 64 : Nat) : Int) % 256 = ((x % 64 : Nat) : Int) from by omega]
  have h := u8_or_nat 128 (x % 64) (by omega) (by omega)
  rw [nat_join 7 128 (x % 64) (by omega) (by omega)] at h
  exact h
theorem wfirst (l i x : Nat) (hl : l < 256) (hi : l % 2 ^ i = 0) (hx : x < 2 ^ i) (hx2 : x < 256) : bits BinOp.or IntKind.u8 (l : Int) ((x : Int) % 256) = ((l + x : Nat) : Int) := by
  rw [show (x : Int) % 256 = (x : Int) from by omega, u8_or_nat l x hl hx2, nat_join i l x hi hx]

theorem conv_new (w : World) (l : List Int) (n c : Nat) (hn : l.length = n) :
    (convert 38 9 (.slice (some ⟨w.heap.size, 0, none⟩) n c)).run Tryd.prog (w.alloc (.cells (l.map (Value.int .u8)).toArray 5)) = .ok (.string (strOfNums l)) (w.alloc (.cells (l.map (Value.int .u8)).toArray 5)) := by
  refine run_convert_bytes_arg _ 38 5 Tryd.underlying38 Tryd.underlying5 _ 0 n c l hn (fun i hi => ?_) _ Tryd.underlying9
  have h : (w.alloc (.cells (l.map (Value.int .u8)).toArray 5)).heap[w.heap.size]? = some (.cells (l.map (Value.int .u8)).toArray 5) := by
    show (w.heap.push _)[w.heap.size]? = _
    simp
  have hi' : i < l.length := by omega
  unfold World.cell?
  simp only [h]
  simp [hi']

set_option maxRecDepth 100000 in
set_option maxHeartbeats 1000000 in
theorem put_1 (c : Nat) (hi : isC c = true) (hn : need c = 1) (w : World) (ht : Tabs w) :
    Calls Tryd.prog 14 #[.int .i32 c] w (PutSays c w) := by
  have h1 := isChar_any (c : Int) w
  rw [isCI_nat, hi] at h1
  have h2 := need_any c w ht
  rw [hn] at h2
  rw [show ((1 : Nat) : Int) = 1 from rfl] at h2
  have hb : isCI (c : Int) = true := by rw [isCI_nat]; exact hi
  have hmk : ∀ w, (Instr.makeSlice 38 (.int .i64 1) (.int .i64 1)).run Tryd.prog w = .ok (.slice (some ⟨w.heap.size, 0, none⟩) 1 1) (w.alloc (.cells #[.int .u8 0] 5)) := fun _ => by kernel_rfl
  have hcv : ∀ (a : Int), (convert 38 9 (.slice (some ⟨w.heap.size, 0, none⟩) 1 1)).run Tryd.prog (w.alloc (.cells #[.int .u8 a] 5)) = .ok (.string (strOfNums [a])) (w.alloc (.cells #[.int .u8 a] 5)) := fun a => conv_new w [a] 1 1 rfl
  have hz := ht.cLead 1 (by omega)
  have hza : ∀ o, (w.alloc o).cell? ⟨0, 1, none⟩ = w.cell? ⟨0, 1, none⟩ := fun o => Below.cell (Up.alloc w o) (by have := ht.big; show 0 < w.heap.size; omega)
  simp only [hz] at hza
  obtain ⟨ld, hld⟩ : ∃ ld, leadOf 1 = ld := ⟨_, rfl⟩
  rw [hld] at hza
  have Hld := Lib.hid hld
  clear hz hld
  have hat := need_at c
  have hcb := (isC_iff c).1 hi
  have hl : [bits BinOp.or IntKind.u8 (ld : Int) ((c : Int) % 256)] = (enc c).map fun n : Nat => (n : Int) := by
    have hldn : ld = 0 := by rw [← Hld.out]; rfl
    have hcn : c < 128 := by omega
    simp only [hldn]
    rw [wfirst 0 7 c (by omega) (by omega) (by omega) (by omega)]
    unfold enc
    rw [if_pos (by omega)]
    simp
  have H1 := Lib.hid h1
  have H2 := Lib.hid h2
  have HL := Lib.hid (putS_yes hi hl)
  have HB := Lib.hid hb
  clear h1 h2 hi hn hb hat hcb hl
  go_enter Tryd.func14, Tryd.ntmps14
  go_wp2_with (first | (go_at_call 23; refine (H1.out).mono ?_; rintro e w' ⟨rfl, rfl⟩) | (go_at_call 24; refine (H2.out).mono ?_; rintro e w' ⟨rfl, rfl⟩))
  refine wp_loop_rounds 1 ?_
  rw [rounds_succ]
  go_wp2
  go_ret2
  exact putSays HL.out HB.out rfl (Up.alloc _ _)

set_option maxRecDepth 100000 in
set_option maxHeartbeats 1000000 in
theorem put_2 (c : Nat) (hi : isC c = true) (hn : need c = 2) (w : World) (ht : Tabs w) :
    Calls Tryd.prog 14 #[.int .i32 c] w (PutSays c w) := by
  have h1 := isChar_any (c : Int) w
  rw [isCI_nat, hi] at h1
  have h2 := need_any c w ht
  rw [hn] at h2
  rw [show ((2 : Nat) : Int) = 2 from rfl] at h2
  have hb : isCI (c : Int) = true := by rw [isCI_nat]; exact hi
  have hmk : ∀ w, (Instr.makeSlice 38 (.int .i64 2) (.int .i64 2)).run Tryd.prog w = .ok (.slice (some ⟨w.heap.size, 0, none⟩) 2 2) (w.alloc (.cells #[.int .u8 0, .int .u8 0] 5)) := fun _ => by kernel_rfl
  have hcv : ∀ (a b : Int), (convert 38 9 (.slice (some ⟨w.heap.size, 0, none⟩) 2 2)).run Tryd.prog (w.alloc (.cells #[.int .u8 a, .int .u8 b] 5)) = .ok (.string (strOfNums [a, b])) (w.alloc (.cells #[.int .u8 a, .int .u8 b] 5)) := fun a b => conv_new w [a, b] 2 2 rfl
  have hz := ht.cLead 2 (by omega)
  have hza : ∀ o, (w.alloc o).cell? ⟨0, 2, none⟩ = w.cell? ⟨0, 2, none⟩ := fun o => Below.cell (Up.alloc w o) (by have := ht.big; show 0 < w.heap.size; omega)
  simp only [hz] at hza
  obtain ⟨ld, hld⟩ : ∃ ld, leadOf 2 = ld := ⟨_, rfl⟩
  rw [hld] at hza
  have Hld := Lib.hid hld
  clear hz hld
  have hat := need_at c
  have hcb := (isC_iff c).1 hi
  have hl : [bits BinOp.or IntKind.u8 (ld : Int) ((c : Int) / 64 % 256), bits BinOp.or IntKind.u8 128 (bits BinOp.and IntKind.i32 ((c : Int)) 63 % 256)] = (enc c).map fun n : Nat => (n : Int) := by
    have e1 : (c : Int) / 64 = ((c / 64 : Nat) : Int) := by omega
    have hldn : ld = 192 := by rw [← Hld.out]; rfl
    have hcn : 128 ≤ c ∧ c < 2048 := by omega
    simp only [e1, hldn]
    rw [wfirst 192 5 (c / 64) (by omega) (by omega) (by omega) (by omega), wlater c (by omega)]
    unfold enc
    rw [if_neg (by omega), if_pos (by omega)]
    simp
  have H1 := Lib.hid h1
  have H2 := Lib.hid h2
  have HL := Lib.hid (putS_yes hi hl)
  have HB := Lib.hid hb
  clear h1 h2 hi hn hb hat hcb hl
  go_enter Tryd.func14, Tryd.ntmps14
  go_wp2_with (first | (go_at_call 23; refine (H1.out).mono ?_; rintro e w' ⟨rfl, rfl⟩) | (go_at_call 24; refine (H2.out).mono ?_; rintro e w' ⟨rfl, rfl⟩))
  refine wp_loop_rounds 2 ?_
  rw [rounds_succ]
  go_wp2
  rw [rounds_succ]
  go_wp2
  go_ret2
  exact putSays HL.out HB.out rfl (Up.alloc _ _)

set_option maxRecDepth 100000 in
set_option maxHeartbeats 1000000 in
theorem put_3 (c : Nat) (hi : isC c = true) (hn : need c = 3) (w : World) (ht : Tabs w) :
    Calls Tryd.prog 14 #[.int .i32 c] w (PutSays c w) := by
  have h1 := isChar_any (c : Int) w
  rw [isCI_nat, hi] at h1
  have h2 := need_any c w ht
  rw [hn] at h2
  rw [show ((3 : Nat) : Int) = 3 from rfl] at h2
  have hb : isCI (c : Int) = true := by rw [isCI_nat]; exact hi
  have hmk : ∀ w, (Instr.makeSlice 38 (.int .i64 3) (.int .i64 3)).run Tryd.prog w = .ok (.slice (some ⟨w.heap.size, 0, none⟩) 3 3) (w.alloc (.cells #[.int .u8 0, .int .u8 0, .int .u8 0] 5)) := fun _ => by kernel_rfl
  have hcv : ∀ (a b d : Int), (convert 38 9 (.slice (some ⟨w.heap.size, 0, none⟩) 3 3)).run Tryd.prog (w.alloc (.cells #[.int .u8 a, .int .u8 b, .int .u8 d] 5)) = .ok (.string (strOfNums [a, b, d])) (w.alloc (.cells #[.int .u8 a, .int .u8 b, .int .u8 d] 5)) := fun a b d => conv_new w [a, b, d] 3 3 rfl
  have hz := ht.cLead 3 (by omega)
  have hza : ∀ o, (w.alloc o).cell? ⟨0, 3, none⟩ = w.cell? ⟨0, 3, none⟩ := fun o => Below.cell (Up.alloc w o) (by have := ht.big; show 0 < w.heap.size; omega)
  simp only [hz] at hza
  obtain ⟨ld, hld⟩ : ∃ ld, leadOf 3 = ld := ⟨_, rfl⟩
  rw [hld] at hza
  have Hld := Lib.hid hld
  clear hz hld
  have hat := need_at c
  have hcb := (isC_iff c).1 hi
  have hl : [bits BinOp.or IntKind.u8 (ld : Int) ((c : Int) / 64 / 64 % 256), bits BinOp.or IntKind.u8 128 (bits BinOp.and IntKind.i32 ((c : Int) / 64) 63 % 256), bits BinOp.or IntKind.u8 128 (bits BinOp.and IntKind.i32 ((c : Int)) 63 % 256)] = (enc c).map fun n : Nat => (n : Int) := by
    have e1 : (c : Int) / 64 = ((c / 64 : Nat) : Int) := by omega
    have e2 : ((c / 64 : Nat) : Int) / 64 = ((c / 4096 : Nat) : Int) := by omega
    have hldn : ld = 224 := by rw [← Hld.out]; rfl
    have hcn : 2048 ≤ c ∧ c < 65536 := by omega
    simp only [e1, e2, hldn]
    rw [wfirst 224 4 (c / 4096) (by omega) (by omega) (by omega) (by omega), wlater (c / 64) (by omega), wlater c (by omega)]
    unfold enc
    rw [if_neg (by omega), if_neg (by omega), if_pos (by omega)]
    simp
  have H1 := Lib.hid h1
  have H2 := Lib.hid h2
  have HL := Lib.hid (putS_yes hi hl)
  have HB := Lib.hid hb
  clear h1 h2 hi hn hb hat hcb hl
  go_enter Tryd.func14, Tryd.ntmps14
  go_wp2_with (first | (go_at_call 23; refine (H1.out).mono ?_; rintro e w' ⟨rfl, rfl⟩) | (go_at_call 24; refine (H2.out).mono ?_; rintro e w' ⟨rfl, rfl⟩))
  refine wp_loop_rounds 3 ?_
  rw [rounds_succ]
  go_wp2
  rw [rounds_succ]
  go_wp2
  rw [rounds_succ]
  go_wp2
  go_ret2
  exact putSays HL.out HB.out rfl (Up.alloc _ _)

set_option maxRecDepth 100000 in
set_option maxHeartbeats 1000000 in
theorem put_4 (c : Nat) (hi : isC c = true) (hn : need c = 4) (w : World) (ht : Tabs w) :
    Calls Tryd.prog 14 #[.int .i32 c] w (PutSays c w) := by
  have h1 := isChar_any (c : Int) w
  rw [isCI_nat, hi] at h1
  have h2 := need_any c w ht
  rw [hn] at h2
  rw [show ((4 : Nat) : Int) = 4 from rfl] at h2
  have hb : isCI (c : Int) = true := by rw [isCI_nat]; exact hi
  have hmk : ∀ w, (Instr.makeSlice 38 (.int .i64 4) (.int .i64 4)).run Tryd.prog w = .ok (.slice (some ⟨w.heap.size, 0, none⟩) 4 4) (w.alloc (.cells #[.int .u8 0, .int .u8 0, .int .u8 0, .int .u8 0] 5)) := fun _ => by kernel_rfl
  have hcv : ∀ (a b d f : Int), (convert 38 9 (.slice (some ⟨w.heap.size, 0, none⟩) 4 4)).run Tryd.prog (w.alloc (.cells #[.int .u8 a, .int .u8 b, .int .u8 d, .int .u8 f] 5)) = .ok (.string (strOfNums [a, b, d, f])) (w.alloc (.cells #[.int .u8 a, .int .u8 b, .int .u8 d, .int .u8 f] 5)) := fun a b d f => conv_new w [a, b, d, f] 4 4 rfl
  have hz := ht.cLead 4 (by omega)
  have hza : ∀ o, (w.alloc o).cell? ⟨0, 4, none⟩ = w.cell? ⟨0, 4, none⟩ := fun o => Below.cell (Up.alloc w o) (by have := ht.big; show 0 < w.heap.size; omega)
  simp only [hz] at hza
  obtain ⟨ld, hld⟩ : ∃ ld, leadOf 4 = ld := ⟨_, rfl⟩
  rw [hld] at hza
  have Hld := Lib.hid hld
  clear hz hld
  have hat := need_at c
  have hcb := (isC_iff c).1 hi
  have hl : [bits BinOp.or IntKind.u8 (ld : Int) ((c : Int) / 64 / 64 / 64 % 256), bits BinOp.or IntKind.u8 128 (bits BinOp.and IntKind.i32 ((c : Int) / 64 / 64) 63 % 256), bits BinOp.or IntKind.u8 128 (bits BinOp.and IntKind.i32 ((c : Int) / 64) 63 % 256), bits BinOp.or IntKind.u8 128 (bits BinOp.and IntKind.i32 ((c : Int)) 63 % 256)] = (enc c).map fun n : Nat => (n : Int) := by
    have e1 : (c : Int) / 64 = ((c / 64 : Nat) : Int) := by omega
    have e2 : ((c / 64 : Nat) : Int) / 64 = ((c / 4096 : Nat) : Int) := by omega
    have e3 : ((c / 4096 : Nat) : Int) / 64 = ((c / 262144 : Nat) : Int) := by omega
    have hldn : ld = 240 := by rw [← Hld.out]; rfl
    have hcn : 65536 ≤ c ∧ c < 1114112 := by omega
    simp only [e1, e2, e3, hldn]
    rw [wfirst 240 3 (c / 262144) (by omega) (by omega) (by omega) (by omega), wlater (c / 4096) (by omega), wlater (c / 64) (by omega), wlater c (by omega)]
    unfold enc
    rw [if_neg (by omega), if_neg (by omega), if_neg (by omega)]
    simp
  have H1 := Lib.hid h1
  have H2 := Lib.hid h2
  have HL := Lib.hid (putS_yes hi hl)
  have HB := Lib.hid hb
  clear h1 h2 hi hn hb hat hcb hl
  go_enter Tryd.func14, Tryd.ntmps14
  go_wp2_with (first | (go_at_call 23; refine (H1.out).mono ?_; rintro e w' ⟨rfl, rfl⟩) | (go_at_call 24; refine (H2.out).mono ?_; rintro e w' ⟨rfl, rfl⟩))
  refine wp_loop_rounds 4 ?_
  rw [rounds_succ]
  go_wp2
  rw [rounds_succ]
  go_wp2
  rw [rounds_succ]
  go_wp2
  rw [rounds_succ]
  go_wp2
  go_ret2
  exact putSays HL.out HB.out rfl (Up.alloc _ _)

theorem put_any (c : Int) (w : World) (ht : Tabs w) : Calls Tryd.prog 14 #[.int .i32 c] w (PutSays c w) := by
  cases hi : isCI c with
  | true =>
    have h0 : 0 ≤ c := by unfold isCI at hi; simp at hi; omega
    obtain ⟨k, rfl⟩ := Int.eq_ofNat_of_zero_le h0
    have hi' : isC k = true := by rw [← isCI_nat]; exact hi
    rcases need_at k with ⟨_, h⟩ | ⟨_, _, h⟩ | ⟨_, _, h⟩ | ⟨_, h⟩
    · exact put_1 k hi' h w ht
    · exact put_2 k hi' h w ht
    · exact put_3 k hi' h w ht
    · exact put_4 k hi' h w ht
  | false =>
    have h1 := isChar_any c w
    rw [hi] at h1
    have H1 := Lib.hid h1
    have hp : putS c = ByteArray.empty := by unfold putS; rw [if_neg (by rw [hi]; simp)]
    have HP := Lib.hid hp
    have HI := Lib.hid hi
    clear h1 hp hi
    go_enter Tryd.func14, Tryd.ntmps14
    go_wp2_with (go_at_call 23; refine (H1.out).mono ?_; rintro e w' ⟨rfl, rfl⟩)
    go_ret2
    exact putSays HP.out HI.out rfl (Up.refl _)
end Go.Proofs.YtibodioapkmgkaaDoor
