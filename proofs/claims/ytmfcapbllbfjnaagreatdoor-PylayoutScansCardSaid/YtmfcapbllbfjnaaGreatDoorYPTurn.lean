/- The program's turns: what each takes, and when it gives up. -/
import Derived.Test.YtmfcapbllbfjnaaGreatDoorYPText
namespace Go.Proofs.YtmfcapbllbfjnaaGreatDoor
open Go.RowKit
set_option linter.unusedVariables false

theorem keepC01 {w0 W W2 : World} {O : Nat → Obj → Prop} {b p : Nat} {line : ByteArray} {v : Value} {es : List PEv} {st : PSt} (hu : Up W W2) (h : RdAt w0 W O b line p v es st ∧ W.cell? ⟨b, 0, none⟩ = some (.string line) ∧ W.cell? ⟨b, 1, none⟩ = some (.int .i64 (p : Nat))) :
    RdAt w0 W2 O b line p v es st ∧ W2.cell? ⟨b, 0, none⟩ = some (.string line) ∧ W2.cell? ⟨b, 1, none⟩ = some (.int .i64 (p : Nat)) := ⟨h.1.more hu, cell_up hu h.2.1, cell_up hu h.2.2⟩
theorem ib_blank (c : UInt8) : decide (Lib.indexByte (⟨#[32, 9, 12, 13]⟩ : ByteArray).data.toList c < 0) = !isBl c.toNat := by
  have h : ∀ d : Fin 256, decide (Lib.indexByte (⟨#[32, 9, 12, 13]⟩ : ByteArray).data.toList (UInt8.ofNat d.val) < 0) = !isBl d.val := by decide +kernel
  have := h ⟨c.toNat, c.toNat_lt⟩
  simpa using this
set_option maxRecDepth 100000 in
set_option maxHeartbeats 4000000 in
theorem open_no (w0 W : World) (O : Nat → Obj → Prop) (b : Nat) (line : ByteArray) (p : Nat) (v : Value) (es : List PEv) (st : PSt) (hr : RdAt w0 W O b line p v es st) (hT : TabsP w0) (hp : p < line.size) (hs : (line.size : Int) ≤ 1000000) (hl : es.length ≤ 1000000) (hm : st.mark = 0) :
    Calls Tryz.prog 47 #[.pointer (some ⟨b, 0, none⟩)] W (Took w0 O b line false (p) (es) (st)) := by
  have c0 : W.cell? ⟨b, 0, none⟩ = some (.string line) := hr.cell rfl
  have c1 : W.cell? ⟨b, 1, none⟩ = some (.int .i64 (p : Nat)) := hr.cell rfl
  have p0 : (0 : Int) ≤ (p : Int) := by omega
  have p1 : (p : Int) < line.size := by omega
  have p2 : (p : Int) ≤ line.size := by omega
  have HR := Lib.hid hr
  have c3 : W.cell? ⟨b, 3, none⟩ = some (.int .u8 (st.mark : Nat)) := hr.cell rfl
  rw [hm, show ((0 : Nat) : Int) = 0 from rfl] at c3
  clear hr hT hs hl
  go_enter Tryz.func47, Tryz.ntmps47
  go_wp2
  go_ret
  exact ⟨rfl, _, HR.out⟩
set_option maxRecDepth 100000 in
set_option maxHeartbeats 4000000 in
theorem open_yes (w0 W : World) (O : Nat → Obj → Prop) (b : Nat) (line : ByteArray) (p : Nat) (v : Value) (es : List PEv) (st : PSt) (hr : RdAt w0 W O b line p v es st) (hT : TabsP w0) (hp : p < line.size) (hs : (line.size : Int) ≤ 1000000) (hl : es.length ≤ 1000000) (hm : st.mark ≠ 0) (hm4 : st.mark ≤ 4) :
    Calls Tryz.prog 47 #[.pointer (some ⟨b, 0, none⟩)] W (Took w0 O b line true (p + (clo (quo st.mark) ((bl line).drop p)).1) (es ++ [⟨(textK 16 st.mark (clo (quo st.mark) ((bl line).drop p)).2).1, p, p + (clo (quo st.mark) ((bl line).drop p)).1⟩]) (lfS ⟨(textK 16 st.mark (clo (quo st.mark) ((bl line).drop p)).2).2, st.depth, st.j, st.s, st.c⟩ (textK 16 st.mark (clo (quo st.mark) ((bl line).drop p)).2).1 (((bl line).drop p).take (p + (clo (quo st.mark) ((bl line).drop p)).1 - p)))) := by
  have c0 : W.cell? ⟨b, 0, none⟩ = some (.string line) := hr.cell rfl
  have c1 : W.cell? ⟨b, 1, none⟩ = some (.int .i64 (p : Nat)) := hr.cell rfl
  have p0 : (0 : Int) ≤ (p : Int) := by omega
  have p1 : (p : Int) < line.size := by omega
  have p2 : (p : Int) ≤ line.size := by omega
  have HR := Lib.hid hr
  have HTF := Lib.hid (fun W' (v' : Value) (hr' : RdAt w0 W' O b line p v' es st) => textFrom_any w0 W' O b line p p st.mark 16 v' es st hr' hT (Nat.le_refl _) (Nat.le_of_lt hp) (by omega) hm4 hs hl)
  rw [show ((16 : Nat) : Int) = 16 from rfl] at HTF
  have c3 : W.cell? ⟨b, 3, none⟩ = some (.int .u8 (st.mark : Nat)) := hr.cell rfl
  generalize hm0 : st.mark = m at *
  have m1 : ((m : Int) == 0) = false := beq_eq_false_iff_ne.2 (by omega)
  have HRX := Lib.hid (hr.more (Up.drew W))
  clear hm hm4 hm0
  clear hr hT hs hl
  go_enter Tryz.func47, Tryz.ntmps47
  go_wp2
  go_region_with (go_at_call 66; ((with_reducible refine (HTF.out _ _ HRX.out).mono ?_); rintro e w4 ⟨rfl, v4, hr4⟩))
  all_goals
    have HR4 := Lib.hid hr4
    clear hr4
    go_wp2
    go_ret
    exact ⟨rfl, _, HR4.out⟩
set_option maxRecDepth 100000 in
set_option maxHeartbeats 4000000 in
theorem blank_no (w0 W : World) (O : Nat → Obj → Prop) (b : Nat) (line : ByteArray) (p : Nat) (v : Value) (es : List PEv) (st : PSt) (hr : RdAt w0 W O b line p v es st) (hT : TabsP w0) (hp : p < line.size) (hs : (line.size : Int) ≤ 1000000) (hl : es.length ≤ 1000000) (hb : isBl (bt line p) = false) :
    Calls Tryz.prog 48 #[.pointer (some ⟨b, 0, none⟩)] W (Took w0 O b line false (p) (es) (st)) := by
  have c0 : W.cell? ⟨b, 0, none⟩ = some (.string line) := hr.cell rfl
  have c1 : W.cell? ⟨b, 1, none⟩ = some (.int .i64 (p : Nat)) := hr.cell rfl
  have p0 : (0 : Int) ≤ (p : Int) := by omega
  have p1 : (p : Int) < line.size := by omega
  have p2 : (p : Int) ≤ line.size := by omega
  have HR := Lib.hid hr
  have HIB := Lib.hid (fun W' => (Tryz.strings_IndexByte ⟨#[32, 9, 12, 13]⟩ (line[p].toNat : Nat) W').mono (fun e w' h => And.intro h.1 h.2.symm))
  have hK := ib_blank line[p]
  rw [byte_back] at HIB
  generalize Lib.indexByte (⟨#[32, 9, 12, 13]⟩ : ByteArray).data.toList line[p] = K at HIB hK
  rw [bt_eq hp, hb] at hK
  have hk : K < 0 := of_decide_eq_true hK
  have hS : RdAt w0 W O b line p v es st ∧ W.cell? ⟨b, 0, none⟩ = some (.string line) ∧ W.cell? ⟨b, 1, none⟩ = some (.int .i64 (p : Nat)) := ⟨hr, c0, c1⟩
  clear hb hK c0 c1
  clear hr hT hs hl
  go_enter Tryz.func48, Tryz.ntmps48
  go_wp2
  go_region_held3 (fun w' => RdAt w0 w' O b line p v es st ∧ w'.cell? ⟨b, 0, none⟩ = some (.string line) ∧ w'.cell? ⟨b, 1, none⟩ = some (.int .i64 (p : Nat)))
    (first | assumption | with_reducible exact keepC01 (Up.drew _) (by assumption))
    (first | (go_at_call 21; ((with_reducible refine (HIB.out _).mono ?_); rintro e w2 ⟨rfl, rfl⟩)))
  have HRX := Lib.hid (hS.1.more (Up.drew W))
  clear hS
  go_wp2
  go_ret
  exact ⟨rfl, _, HRX.out⟩
set_option maxRecDepth 100000 in
set_option maxHeartbeats 4000000 in
theorem blank_yes (w0 W : World) (O : Nat → Obj → Prop) (b : Nat) (line : ByteArray) (p : Nat) (v : Value) (es : List PEv) (st : PSt) (hr : RdAt w0 W O b line p v es st) (hT : TabsP w0) (hp : p < line.size) (hs : (line.size : Int) ≤ 1000000) (hl : es.length ≤ 1000000) (hb : isBl (bt line p) = true) :
    Calls Tryz.prog 48 #[.pointer (some ⟨b, 0, none⟩)] W (Took w0 O b line true (p + 1) (es) (st)) := by
  have c0 : W.cell? ⟨b, 0, none⟩ = some (.string line) := hr.cell rfl
  have c1 : W.cell? ⟨b, 1, none⟩ = some (.int .i64 (p : Nat)) := hr.cell rfl
  have p0 : (0 : Int) ≤ (p : Int) := by omega
  have p1 : (p : Int) < line.size := by omega
  have p2 : (p : Int) ≤ line.size := by omega
  have HR := Lib.hid hr
  have HIB := Lib.hid (fun W' => (Tryz.strings_IndexByte ⟨#[32, 9, 12, 13]⟩ (line[p].toNat : Nat) W').mono (fun e w' h => And.intro h.1 h.2.symm))
  have hK := ib_blank line[p]
  rw [byte_back] at HIB
  generalize Lib.indexByte (⟨#[32, 9, 12, 13]⟩ : ByteArray).data.toList line[p] = K at HIB hK
  rw [bt_eq hp, hb] at hK
  have hk : decide (K < 0) = false := hK
  have hr2 := hr.more (Up.drew W)
  have d1 : W.drew.cell? ⟨b, 1, none⟩ = some (.int .i64 (p : Nat)) := hr2.cell rfl
  have z1 : W.drew.frozen? ⟨b, 1, none⟩ = false := hr2.fr 1
  have HF := Lib.hid (hr2.set (k := 1) (u := .int .i64 ((p : Int) + 1)) (p' := p + 1) (st' := st) rfl)
  have e1 : IntKind.i64.wrap ((p : Int) + 1) = (p : Int) + 1 := IntWalk.i64_in _ (by omega)
  have hS : RdAt w0 W O b line p v es st ∧ W.cell? ⟨b, 0, none⟩ = some (.string line) ∧ W.cell? ⟨b, 1, none⟩ = some (.int .i64 (p : Nat)) := ⟨hr, c0, c1⟩
  clear hb hK c0 c1 hr2
  clear hr hT hs hl
  go_enter Tryz.func48, Tryz.ntmps48
  go_wp2
  go_region_held3 (fun w' => RdAt w0 w' O b line p v es st ∧ w'.cell? ⟨b, 0, none⟩ = some (.string line) ∧ w'.cell? ⟨b, 1, none⟩ = some (.int .i64 (p : Nat)))
    (first | assumption | with_reducible exact keepC01 (Up.drew _) (by assumption))
    (first | (go_at_call 21; ((with_reducible refine (HIB.out _).mono ?_); rintro e w2 ⟨rfl, rfl⟩)))
  clear hS
  go_wp2
  go_ret
  exact ⟨rfl, _, HF.out⟩
set_option maxRecDepth 100000 in
set_option maxHeartbeats 4000000 in
theorem comment_no (w0 W : World) (O : Nat → Obj → Prop) (b : Nat) (line : ByteArray) (p : Nat) (v : Value) (es : List PEv) (st : PSt) (hr : RdAt w0 W O b line p v es st) (hT : TabsP w0) (hp : p < line.size) (hs : (line.size : Int) ≤ 1000000) (hl : es.length ≤ 1000000) (hb : bt line p ≠ 35) :
    Calls Tryz.prog 49 #[.pointer (some ⟨b, 0, none⟩)] W (Took w0 O b line false (p) (es) (st)) := by
  have c0 : W.cell? ⟨b, 0, none⟩ = some (.string line) := hr.cell rfl
  have c1 : W.cell? ⟨b, 1, none⟩ = some (.int .i64 (p : Nat)) := hr.cell rfl
  have p0 : (0 : Int) ≤ (p : Int) := by omega
  have p1 : (p : Int) < line.size := by omega
  have p2 : (p : Int) ≤ line.size := by omega
  have HR := Lib.hid hr
  obtain ⟨c, hc⟩ : ∃ c, bt line p = c := ⟨_, rfl⟩
  have hx : line[p].toNat = c := by rw [bt_eq hp]; exact hc
  rw [hc] at hb
  have n1 : ((c : Int) == 35) = false := beq_eq_false_iff_ne.2 (by omega)
  have n2 : ((c : Int) != 35) = true := by rw [bne, n1]; rfl
  clear hb hc
  clear hr hT hs hl
  go_enter Tryz.func49, Tryz.ntmps49
  go_wp2
  go_region
  go_wp2
  have HRX := Lib.hid (HR.out.more (Up.drew W))
  go_ret
  exact ⟨rfl, _, HRX.out⟩
set_option maxRecDepth 100000 in
set_option maxHeartbeats 4000000 in
theorem comment_yes (w0 W : World) (O : Nat → Obj → Prop) (b : Nat) (line : ByteArray) (p : Nat) (v : Value) (es : List PEv) (st : PSt) (hr : RdAt w0 W O b line p v es st) (hT : TabsP w0) (hp : p < line.size) (hs : (line.size : Int) ≤ 1000000) (hl : es.length ≤ 1000000) (hb : bt line p = 35) :
    Calls Tryz.prog 49 #[.pointer (some ⟨b, 0, none⟩)] W (Took w0 O b line true (line.size) (es ++ [⟨18, p, line.size⟩]) (lfS st 18 (((bl line).drop p).take (line.size - p)))) := by
  have c0 : W.cell? ⟨b, 0, none⟩ = some (.string line) := hr.cell rfl
  have c1 : W.cell? ⟨b, 1, none⟩ = some (.int .i64 (p : Nat)) := hr.cell rfl
  have p0 : (0 : Int) ≤ (p : Int) := by omega
  have p1 : (p : Int) < line.size := by omega
  have p2 : (p : Int) ≤ line.size := by omega
  have HR := Lib.hid hr
  have hx : line[p].toNat = 35 := by rw [bt_eq hp]; exact hb
  have HLF := Lib.hid (fun W' (v' : Value) (st' : PSt) (hr' : RdAt w0 W' O b line p v' es st') => leaf_any w0 W' O b line p line.size v' es st' 18 hr' (by omega) (by omega) hs hl)
  rw [show ((18 : Nat) : Int) = 18 from rfl] at HLF
  have HRX := Lib.hid (hr.more (Up.drew W))
  clear hb
  clear hr hT hs hl
  go_enter Tryz.func49, Tryz.ntmps49
  go_wp2
  go_region
  go_wp2_with (go_at_call 67; ((with_reducible refine (HLF.out _ _ _ HRX.out).mono ?_); rintro e w4 ⟨rfl, v4, hr4⟩; have HR4 := Lib.hid hr4; clear hr4))
  go_ret
  exact ⟨rfl, _, HR4.out⟩
set_option maxRecDepth 100000 in
set_option maxHeartbeats 4000000 in
theorem slash_no (w0 W : World) (O : Nat → Obj → Prop) (b : Nat) (line : ByteArray) (p : Nat) (v : Value) (es : List PEv) (st : PSt) (hr : RdAt w0 W O b line p v es st) (hT : TabsP w0) (hp : p < line.size) (hs : (line.size : Int) ≤ 1000000) (hl : es.length ≤ 1000000) (hb : bt line p ≠ 92) :
    Calls Tryz.prog 50 #[.pointer (some ⟨b, 0, none⟩)] W (Took w0 O b line false (p) (es) (st)) := by
  have c0 : W.cell? ⟨b, 0, none⟩ = some (.string line) := hr.cell rfl
  have c1 : W.cell? ⟨b, 1, none⟩ = some (.int .i64 (p : Nat)) := hr.cell rfl
  have p0 : (0 : Int) ≤ (p : Int) := by omega
  have p1 : (p : Int) < line.size := by omega
  have p2 : (p : Int) ≤ line.size := by omega
  have HR := Lib.hid hr
  obtain ⟨c, hc⟩ : ∃ c, bt line p = c := ⟨_, rfl⟩
  have hx : line[p].toNat = c := by rw [bt_eq hp]; exact hc
  rw [hc] at hb
  have n1 : ((c : Int) == 92) = false := beq_eq_false_iff_ne.2 (by omega)
  have n2 : ((c : Int) != 92) = true := by rw [bne, n1]; rfl
  clear hb hc
  clear hr hT hs hl
  go_enter Tryz.func50, Tryz.ntmps50
  go_wp2
  go_region
  go_wp2
  have HRX := Lib.hid (HR.out.more (Up.drew W))
  go_ret
  exact ⟨rfl, _, HRX.out⟩
set_option maxRecDepth 100000 in
set_option maxHeartbeats 4000000 in
theorem slash_join (w0 W : World) (O : Nat → Obj → Prop) (b : Nat) (line : ByteArray) (p : Nat) (v : Value) (es : List PEv) (st : PSt) (hr : RdAt w0 W O b line p v es st) (hT : TabsP w0) (hp : p < line.size) (hs : (line.size : Int) ≤ 1000000) (hl : es.length ≤ 1000000) (hb : bt line p = 92) (he : p + 1 = line.size) :
    Calls Tryz.prog 50 #[.pointer (some ⟨b, 0, none⟩)] W (Took w0 O b line true (p + 1) (es ++ [⟨19, p, p + 1⟩]) (lfS st 19 (((bl line).drop p).take (p + 1 - p)))) := by
  have c0 : W.cell? ⟨b, 0, none⟩ = some (.string line) := hr.cell rfl
  have c1 : W.cell? ⟨b, 1, none⟩ = some (.int .i64 (p : Nat)) := hr.cell rfl
  have p0 : (0 : Int) ≤ (p : Int) := by omega
  have p1 : (p : Int) < line.size := by omega
  have p2 : (p : Int) ≤ line.size := by omega
  have HR := Lib.hid hr
  have hx : line[p].toNat = 92 := by rw [bt_eq hp]; exact hb
  have HLF := Lib.hid (fun W' (v' : Value) (st' : PSt) (hr' : RdAt w0 W' O b line p v' es st') => leaf_any w0 W' O b line p (p + 1) v' es st' 19 hr' (by omega) (by omega) hs hl)
  rw [show ((19 : Nat) : Int) = 19 from rfl] at HLF
  rw [show ((p + 1 : Nat) : Int) = (p : Int) + 1 from rfl] at HLF
  have HRX := Lib.hid ((hr.more (Up.drew W)).more (Up.drew _))
  have e0 : wrap64 ((line.size : Int) - 1) = (p : Int) := (IntWalk.wrap64_in _ (by omega)).trans (by omega)
  have e2 : IntKind.i64.wrap ((line.size : Int) - 1) = (p : Int) := (IntWalk.i64_in _ (by omega)).trans (by omega)
  have e3 : ((p : Int) == (line.size : Int) - 1) = true := beq_iff_eq.2 (by omega)
  have e1 : IntKind.i64.wrap ((p : Int) + 1) = (p : Int) + 1 := IntWalk.i64_in _ (by omega)
  clear hb he
  clear hr hT hs hl
  go_enter Tryz.func50, Tryz.ntmps50
  go_wp2
  go_region
  go_wp2
  go_region
  go_wp2_with (go_at_call 67; ((with_reducible refine (HLF.out _ _ _ HRX.out).mono ?_); rintro e w4 ⟨rfl, v4, hr4⟩; have HR4 := Lib.hid hr4; clear hr4))
  go_ret
  exact ⟨rfl, _, HR4.out⟩
set_option maxRecDepth 100000 in
set_option maxHeartbeats 4000000 in
theorem slash_err (w0 W : World) (O : Nat → Obj → Prop) (b : Nat) (line : ByteArray) (p : Nat) (v : Value) (es : List PEv) (st : PSt) (hr : RdAt w0 W O b line p v es st) (hT : TabsP w0) (hp : p < line.size) (hs : (line.size : Int) ≤ 1000000) (hl : es.length ≤ 1000000) (hb : bt line p = 92) (he : p + 1 ≠ line.size) :
    Calls Tryz.prog 50 #[.pointer (some ⟨b, 0, none⟩)] W (Took w0 O b line true (p + 1) (es ++ [⟨2, p, p + 1⟩]) (lfS st 2 (((bl line).drop p).take (p + 1 - p)))) := by
  have c0 : W.cell? ⟨b, 0, none⟩ = some (.string line) := hr.cell rfl
  have c1 : W.cell? ⟨b, 1, none⟩ = some (.int .i64 (p : Nat)) := hr.cell rfl
  have p0 : (0 : Int) ≤ (p : Int) := by omega
  have p1 : (p : Int) < line.size := by omega
  have p2 : (p : Int) ≤ line.size := by omega
  have HR := Lib.hid hr
  have hx : line[p].toNat = 92 := by rw [bt_eq hp]; exact hb
  have HLF := Lib.hid (fun W' (v' : Value) (st' : PSt) (hr' : RdAt w0 W' O b line p v' es st') => leaf_any w0 W' O b line p (p + 1) v' es st' 2 hr' (by omega) (by omega) hs hl)
  rw [show ((2 : Nat) : Int) = 2 from rfl] at HLF
  rw [show ((p + 1 : Nat) : Int) = (p : Int) + 1 from rfl] at HLF
  have HRX := Lib.hid ((hr.more (Up.drew W)).more (Up.drew _))
  have e2 : IntKind.i64.wrap ((line.size : Int) - 1) = (line.size : Int) - 1 := IntWalk.i64_in _ (by omega)
  have e3 : ((p : Int) == (line.size : Int) - 1) = false := beq_eq_false_iff_ne.2 (by omega)
  have e1 : IntKind.i64.wrap ((p : Int) + 1) = (p : Int) + 1 := IntWalk.i64_in _ (by omega)
  clear hb he
  clear hr hT hs hl
  go_enter Tryz.func50, Tryz.ntmps50
  go_wp2
  go_region
  go_wp2
  go_region
  go_wp2_with (go_at_call 67; ((with_reducible refine (HLF.out _ _ _ HRX.out).mono ?_); rintro e w4 ⟨rfl, v4, hr4⟩; have HR4 := Lib.hid hr4; clear hr4))
  go_ret
  exact ⟨rfl, _, HR4.out⟩
set_option maxRecDepth 100000 in
set_option maxHeartbeats 4000000 in
theorem text_no (w0 W : World) (O : Nat → Obj → Prop) (b : Nat) (line : ByteArray) (p : Nat) (v : Value) (es : List PEv) (st : PSt) (hr : RdAt w0 W O b line p v es st) (hT : TabsP w0) (hp : p < line.size) (hs : (line.size : Int) ≤ 1000000) (hl : es.length ≤ 1000000) (hb : (begL ((bl line).drop p)).1 = 0) :
    Calls Tryz.prog 51 #[.pointer (some ⟨b, 0, none⟩)] W (Took w0 O b line false (p) (es) (st)) := by
  have c0 : W.cell? ⟨b, 0, none⟩ = some (.string line) := hr.cell rfl
  have c1 : W.cell? ⟨b, 1, none⟩ = some (.int .i64 (p : Nat)) := hr.cell rfl
  have p0 : (0 : Int) ≤ (p : Int) := by omega
  have p1 : (p : Int) < line.size := by omega
  have p2 : (p : Int) ≤ line.size := by omega
  have HR := Lib.hid hr
  have HOP := Lib.hid (fun W' (hu : Up w0 W') => (show Calls Tryz.prog 68 #[.string (line.extract p line.size)] W' fun e w' => e = .returned (.tuple #[.int .i64 ((begL ((bl line).drop p)).2 : Nat), .int .u8 ((begL ((bl line).drop p)).1 : Nat)]) ∧ Up W' w' from by
    have h := opening_any (line.extract p line.size) W' (hT.up hu) (by rw [ByteArray.size_extract]; omega)
    rw [← drop_bytes] at h
    exact h))
  obtain ⟨r2, hr2⟩ : ∃ r2, (begL ((bl line).drop p)).2 = r2 := ⟨_, rfl⟩
  rw [hb, hr2, show ((0 : Nat) : Int) = 0 from rfl] at HOP
  have hS : RdAt w0 W O b line p v es st ∧ W.cell? ⟨b, 0, none⟩ = some (.string line) ∧ W.cell? ⟨b, 1, none⟩ = some (.int .i64 (p : Nat)) := ⟨hr, c0, c1⟩
  clear hb hr2 c0 c1
  clear hr hT hs hl
  go_enter Tryz.func51, Tryz.ntmps51
  go_wp2
  go_region_held3 (fun w' => RdAt w0 w' O b line p v es st ∧ w'.cell? ⟨b, 0, none⟩ = some (.string line) ∧ w'.cell? ⟨b, 1, none⟩ = some (.int .i64 (p : Nat)))
    (first | assumption | with_reducible exact keepC01 (Up.drew _) (by assumption) | with_reducible exact keepC01 hu (by assumption))
    (first | (go_at_call 68; ((with_reducible refine (HOP.out _ (HR.out.up.trans (Up.drew W))).mono ?_); rintro e w2 ⟨rfl, hu⟩)))
  have HRX := Lib.hid (hS.1.more ((Up.drew W).trans hu))
  clear hS
  go_wp2
  go_ret
  exact ⟨rfl, _, HRX.out⟩
set_option maxRecDepth 100000 in
set_option maxHeartbeats 4000000 in
theorem text_yes (w0 W : World) (O : Nat → Obj → Prop) (b : Nat) (line : ByteArray) (p : Nat) (v : Value) (es : List PEv) (st : PSt) (hr : RdAt w0 W O b line p v es st) (hT : TabsP w0) (hp : p < line.size) (hs : (line.size : Int) ≤ 1000000) (hl : es.length ≤ 1000000) (hb : (begL ((bl line).drop p)).1 ≠ 0) :
    Calls Tryz.prog 51 #[.pointer (some ⟨b, 0, none⟩)] W (Took w0 O b line true ((p + (begL ((bl line).drop p)).2) + (clo (quo (begL ((bl line).drop p)).1) ((bl line).drop (p + (begL ((bl line).drop p)).2))).1) (es ++ [⟨(textK 15 (begL ((bl line).drop p)).1 (clo (quo (begL ((bl line).drop p)).1) ((bl line).drop (p + (begL ((bl line).drop p)).2))).2).1, p, (p + (begL ((bl line).drop p)).2) + (clo (quo (begL ((bl line).drop p)).1) ((bl line).drop (p + (begL ((bl line).drop p)).2))).1⟩]) (lfS ⟨(textK 15 (begL ((bl line).drop p)).1 (clo (quo (begL ((bl line).drop p)).1) ((bl line).drop (p + (begL ((bl line).drop p)).2))).2).2, st.depth, st.j, st.s, st.c⟩ (textK 15 (begL ((bl line).drop p)).1 (clo (quo (begL ((bl line).drop p)).1) ((bl line).drop (p + (begL ((bl line).drop p)).2))).2).1 (((bl line).drop p).take ((p + (begL ((bl line).drop p)).2) + (clo (quo (begL ((bl line).drop p)).1) ((bl line).drop (p + (begL ((bl line).drop p)).2))).1 - p)))) := by
  have c0 : W.cell? ⟨b, 0, none⟩ = some (.string line) := hr.cell rfl
  have c1 : W.cell? ⟨b, 1, none⟩ = some (.int .i64 (p : Nat)) := hr.cell rfl
  have p0 : (0 : Int) ≤ (p : Int) := by omega
  have p1 : (p : Int) < line.size := by omega
  have p2 : (p : Int) ≤ line.size := by omega
  have HR := Lib.hid hr
  have HOP := Lib.hid (fun W' (hu : Up w0 W') => (show Calls Tryz.prog 68 #[.string (line.extract p line.size)] W' fun e w' => e = .returned (.tuple #[.int .i64 ((begL ((bl line).drop p)).2 : Nat), .int .u8 ((begL ((bl line).drop p)).1 : Nat)]) ∧ Up W' w' from by
    have h := opening_any (line.extract p line.size) W' (hT.up hu) (by rw [ByteArray.size_extract]; omega)
    rw [← drop_bytes] at h
    exact h))
  have hbl := begL_le hb
  rw [List.length_drop, bl_len] at hbl
  have HTF := Lib.hid (fun W' (v' : Value) (hr' : RdAt w0 W' O b line p v' es st) => textFrom_any w0 W' O b line p (p + (begL ((bl line).drop p)).2) (begL ((bl line).drop p)).1 15 v' es st hr' hT (by omega) (by omega) (by omega) hbl.2.2 hs hl)
  rw [show ((15 : Nat) : Int) = 15 from rfl] at HTF
  generalize (begL ((bl line).drop p)).2 = r2 at *
  generalize (begL ((bl line).drop p)).1 = m at *
  have m1 : ((m : Int) == 0) = false := beq_eq_false_iff_ne.2 (by omega)
  have e1 : IntKind.i64.wrap ((p : Int) + r2) = ((p + r2 : Nat) : Int) := (IntWalk.i64_in _ (by omega)).trans (by omega)
  have e2 : (p : Int) + r2 = ((p + r2 : Nat) : Int) := by omega
  have hS : RdAt w0 W O b line p v es st ∧ W.cell? ⟨b, 0, none⟩ = some (.string line) ∧ W.cell? ⟨b, 1, none⟩ = some (.int .i64 (p : Nat)) := ⟨hr, c0, c1⟩
  rw [← e2] at HTF e1
  clear hb hbl e2 c0 c1
  clear hr hT hs hl
  go_enter Tryz.func51, Tryz.ntmps51
  go_wp2
  go_region_held3 (fun w' => RdAt w0 w' O b line p v es st ∧ w'.cell? ⟨b, 0, none⟩ = some (.string line) ∧ w'.cell? ⟨b, 1, none⟩ = some (.int .i64 (p : Nat)))
    (first | assumption | with_reducible exact keepC01 (Up.drew _) (by assumption) | with_reducible exact keepC01 hu (by assumption))
    (first | (go_at_call 68; ((with_reducible refine (HOP.out _ (HR.out.up.trans (Up.drew W))).mono ?_); rintro e w2 ⟨rfl, hu⟩)))
  have HRX := Lib.hid (hS.1.more ((Up.drew W).trans hu))
  have d1 : w2.cell? ⟨b, 1, none⟩ = some (.int .i64 (p : Nat)) := HRX.out.cell rfl
  clear hS
  go_wp2_with (go_at_call 66; ((with_reducible refine (HTF.out _ _ HRX.out).mono ?_); rintro e w4 ⟨rfl, v4, hr4⟩; have HR4 := Lib.hid hr4; clear hr4))
  go_ret
  exact ⟨rfl, _, HR4.out⟩
end Go.Proofs.YtmfcapbllbfjnaaGreatDoor
