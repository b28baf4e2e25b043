/- The program's textFrom: a text that is gone on with. -/
import Derived.Test.YtmfcapbllbfjnaaGreatDoorYPLeaf
namespace Go.Proofs.YtmfcapbllbfjnaaGreatDoor
open Go.RowKit

/-- What a text is, by how it ends: its kind, and what is open behind it. -/
def textK (whole m : Nat) (x : Nat) : Nat × Nat := if x = 0 then (whole, 0) else if m ≤ 2 ∨ x = 1 then (16, m) else (2, 0)
theorem keepT {w0 W W2 : World} {O : Nat → Obj → Prop} {b p m : Nat} {line s : ByteArray} {v : Value} {es : List PEv} {st : PSt} (hu : Up W W2) (h : RdAt w0 W O b line p v es st ∧ W.cell? ⟨b, 0, none⟩ = some (.string line) ∧ W.cell? ⟨1, m, none⟩ = some (.string s)) :
    RdAt w0 W2 O b line p v es st ∧ W2.cell? ⟨b, 0, none⟩ = some (.string line) ∧ W2.cell? ⟨1, m, none⟩ = some (.string s) := ⟨h.1.more hu, cell_up hu h.2.1, cell_up hu h.2.2⟩
theorem quoV_m {m : Nat} (h : 1 ≤ m) : quoV m = quoB m := quoV_pos (by omega)
theorem quoB_pos (m : Nat) : 1 ≤ (quoB m).size := by rw [quoB_len]; exact (quo_len m).1
theorem quoB_one {m : Nat} (h1 : 1 ≤ m) (h : m ≤ 4) : (1 < (quoB m).size) ↔ m ≤ 2 := by
  rw [quoB_len]
  have e : m = 1 ∨ m = 2 ∨ m = 3 ∨ m = 4 := by omega
  rcases e with rfl | rfl | rfl | rfl <;> decide
set_option maxRecDepth 100000 in
set_option maxHeartbeats 4000000 in
theorem text_ends (w0 W : World) (O : Nat → Obj → Prop) (b : Nat) (line : ByteArray) (p f m whole N : Nat) (v : Value) (es : List PEv) (st : PSt) (hr : RdAt w0 W O b line p v es st) (hT : TabsP w0) (hp : p ≤ f) (hf : f ≤ line.size) (hm1 : 1 ≤ m) (hm : m ≤ 4) (hs : (line.size : Int) ≤ 1000000) (hl : es.length ≤ 1000000) (hN : f + (clo (quo m) ((bl line).drop f)).1 = N) (hNs : N ≤ line.size) (hx : (clo (quo m) ((bl line).drop f)).2 = 0) :
    Calls Tryz.prog 66 #[.pointer (some ⟨b, 0, none⟩), .int .i64 (f : Nat), .int .u8 (m : Nat), .int .u8 (whole : Nat)] W (Done w0 O b line N (es ++ [⟨whole, p, N⟩]) (lfS ⟨0, st.depth, st.j, st.s, st.c⟩ whole (((bl line).drop p).take (N - p)))) := by
  have HTE := Lib.hid (fun W => (show Calls Tryz.prog 76 #[.string line, .int .i64 (f : Nat), .string (quoB m)] W fun e w' => e = .returned (.tuple #[.int .i64 (N : Nat), .bool true, .bool false]) ∧ W = w' from by
    have h := textEnd_any line (quoB m) f W hs (Nat.le_trans (quoB_le m) (by decide)) (quoB_pos m) hf
    rw [quoB_bl, hN] at h
    rw [hx] at h
    exact h))
  have c0 : W.cell? ⟨b, 0, none⟩ = some (.string line) := hr.cell rfl
  have cq : W.cell? ⟨1, m, none⟩ = some (.string (quoB m)) := by rw [← quoV_m hm1]; exact (hT.up hr.up).qu m (by omega)
  have hS : RdAt w0 W O b line p v es st ∧ W.cell? ⟨b, 0, none⟩ = some (.string line) ∧ W.cell? ⟨1, m, none⟩ = some (.string (quoB m)) := ⟨hr, c0, cq⟩
  have m0 : (0 : Int) ≤ (m : Int) := by omega
  have m5 : (m : Int) < 5 := by omega
  have HQ := Lib.hid (fun W' (hu : Up w0 W') => (by rw [← quoV_m hm1]; exact (hT.up hu).qu m (by omega) : W'.cell? ⟨1, m, none⟩ = some (.string (quoB m))))
  have HLF := Lib.hid (fun W' (v' : Value) (st' : PSt) (hr' : RdAt w0 W' O b line p v' es st') => leaf_any w0 W' O b line p N v' es st' (whole) hr' (by omega) hNs hs hl)
  clear hr hT hp hf hm1 hm hs hl hN hNs hx c0 cq
  go_enter Tryz.func66, Tryz.ntmps66
  go_wp2
  go_region_held3 (fun w' => RdAt w0 w' O b line p v es st ∧ w'.cell? ⟨b, 0, none⟩ = some (.string line) ∧ w'.cell? ⟨1, m, none⟩ = some (.string (quoB m)))
    (first | assumption | with_reducible exact keepT (Up.drew _) (by assumption))
    (first | (go_at_call 76; ((with_reducible refine (HTE.out _).mono ?_); rintro e w2 ⟨rfl, rfl⟩)))
  have hr2 := hS.1.more (Up.drew W)
  clear hS
  obtain ⟨W2, hW2⟩ : ∃ W2, W.drew = W2 := ⟨_, rfl⟩
  rw [hW2] at hr2 ⊢
  clear hW2
  have hr3 := hr2.set (k := 3) (u := .int .u8 0) (p' := p) (st' := ⟨0, st.depth, st.j, st.s, st.c⟩) rfl
  have c3 := hr2.cell (k := 3) (show _ = some (.int .u8 (st.mark : Nat)) from rfl)
  have f3 := hr2.fr 3
  obtain ⟨W3, hW3⟩ : ∃ W3, W2.setCell ⟨b, 3, none⟩ (.int .u8 0) = W3 := ⟨_, rfl⟩
  rw [hW3] at hr3
  have HR3 := Lib.hid hr3
  clear hr2 hr3
  go_wp2_with (go_at_call 67; ((with_reducible refine (HLF.out _ _ _ HR3.out).mono ?_); rintro e w4 ⟨rfl, v4, hr4⟩; have HR4 := Lib.hid hr4; clear hr4))
  go_end0
  exact ⟨rfl, _, HR4.out⟩
set_option maxRecDepth 100000 in
set_option maxHeartbeats 4000000 in
theorem text_joins (w0 W : World) (O : Nat → Obj → Prop) (b : Nat) (line : ByteArray) (p f m whole N : Nat) (v : Value) (es : List PEv) (st : PSt) (hr : RdAt w0 W O b line p v es st) (hT : TabsP w0) (hp : p ≤ f) (hf : f ≤ line.size) (hm1 : 1 ≤ m) (hm : m ≤ 4) (hs : (line.size : Int) ≤ 1000000) (hl : es.length ≤ 1000000) (hN : f + (clo (quo m) ((bl line).drop f)).1 = N) (hNs : N ≤ line.size) (hx : (clo (quo m) ((bl line).drop f)).2 = 1) :
    Calls Tryz.prog 66 #[.pointer (some ⟨b, 0, none⟩), .int .i64 (f : Nat), .int .u8 (m : Nat), .int .u8 (whole : Nat)] W (Done w0 O b line N (es ++ [⟨16, p, N⟩]) (lfS ⟨m, st.depth, st.j, st.s, st.c⟩ 16 (((bl line).drop p).take (N - p)))) := by
  have HTE := Lib.hid (fun W => (show Calls Tryz.prog 76 #[.string line, .int .i64 (f : Nat), .string (quoB m)] W fun e w' => e = .returned (.tuple #[.int .i64 (N : Nat), .bool false, .bool true]) ∧ W = w' from by
    have h := textEnd_any line (quoB m) f W hs (Nat.le_trans (quoB_le m) (by decide)) (quoB_pos m) hf
    rw [quoB_bl, hN] at h
    rw [hx] at h
    exact h))
  have c0 : W.cell? ⟨b, 0, none⟩ = some (.string line) := hr.cell rfl
  have cq : W.cell? ⟨1, m, none⟩ = some (.string (quoB m)) := by rw [← quoV_m hm1]; exact (hT.up hr.up).qu m (by omega)
  have hS : RdAt w0 W O b line p v es st ∧ W.cell? ⟨b, 0, none⟩ = some (.string line) ∧ W.cell? ⟨1, m, none⟩ = some (.string (quoB m)) := ⟨hr, c0, cq⟩
  have m0 : (0 : Int) ≤ (m : Int) := by omega
  have m5 : (m : Int) < 5 := by omega
  have HQ := Lib.hid (fun W' (hu : Up w0 W') => (by rw [← quoV_m hm1]; exact (hT.up hu).qu m (by omega) : W'.cell? ⟨1, m, none⟩ = some (.string (quoB m))))
  have HLF := Lib.hid (fun W' (v' : Value) (st' : PSt) (hr' : RdAt w0 W' O b line p v' es st') => leaf_any w0 W' O b line p N v' es st' (16) hr' (by omega) hNs hs hl)
  rw [show ((16 : Nat) : Int) = 16 from rfl] at HLF
  clear hr hT hp hf hm1 hm hs hl hN hNs hx c0 cq
  go_enter Tryz.func66, Tryz.ntmps66
  go_wp2
  go_region_held3 (fun w' => RdAt w0 w' O b line p v es st ∧ w'.cell? ⟨b, 0, none⟩ = some (.string line) ∧ w'.cell? ⟨1, m, none⟩ = some (.string (quoB m)))
    (first | assumption | with_reducible exact keepT (Up.drew _) (by assumption))
    (first | (go_at_call 76; ((with_reducible refine (HTE.out _).mono ?_); rintro e w2 ⟨rfl, rfl⟩)))
  have hr2 := hS.1.more (Up.drew W)
  clear hS
  obtain ⟨W2, hW2⟩ : ∃ W2, W.drew = W2 := ⟨_, rfl⟩
  rw [hW2] at hr2 ⊢
  clear hW2
  have hr3 := hr2.set (k := 3) (u := .int .u8 0) (p' := p) (st' := ⟨0, st.depth, st.j, st.s, st.c⟩) rfl
  have c3 := hr2.cell (k := 3) (show _ = some (.int .u8 (st.mark : Nat)) from rfl)
  have f3 := hr2.fr 3
  obtain ⟨W3, hW3⟩ : ∃ W3, W2.setCell ⟨b, 3, none⟩ (.int .u8 0) = W3 := ⟨_, rfl⟩
  rw [hW3] at hr3
  have HR3 := Lib.hid hr3
  have c3b := hr3.cell (k := 3) (show _ = some (.int .u8 0) from rfl)
  have f3b := hr3.fr 3
  have cqb := HQ.out _ hr3.up
  have hr5 := hr3.set (k := 3) (u := .int .u8 (m : Nat)) (p' := p) (st' := ⟨m, st.depth, st.j, st.s, st.c⟩) rfl
  obtain ⟨W5, hW5⟩ : ∃ W5, W3.setCell ⟨b, 3, none⟩ (.int .u8 (m : Nat)) = W5 := ⟨_, rfl⟩
  rw [hW5] at hr5
  have HR5 := Lib.hid hr5
  clear hr2 hr3 hr5
  go_wp2_with (go_at_call 67; ((with_reducible refine (HLF.out _ _ _ HR5.out).mono ?_); rintro e w4 ⟨rfl, v4, hr4⟩; have HR4 := Lib.hid hr4; clear hr4))
  go_end0
  exact ⟨rfl, _, HR4.out⟩
set_option maxRecDepth 100000 in
set_option maxHeartbeats 4000000 in
theorem text_long (w0 W : World) (O : Nat → Obj → Prop) (b : Nat) (line : ByteArray) (p f m whole N : Nat) (v : Value) (es : List PEv) (st : PSt) (hr : RdAt w0 W O b line p v es st) (hT : TabsP w0) (hp : p ≤ f) (hf : f ≤ line.size) (hm1 : 1 ≤ m) (hm : m ≤ 4) (hs : (line.size : Int) ≤ 1000000) (hl : es.length ≤ 1000000) (hN : f + (clo (quo m) ((bl line).drop f)).1 = N) (hNs : N ≤ line.size) (hx : (clo (quo m) ((bl line).drop f)).2 = 2) (h2 : m ≤ 2) :
    Calls Tryz.prog 66 #[.pointer (some ⟨b, 0, none⟩), .int .i64 (f : Nat), .int .u8 (m : Nat), .int .u8 (whole : Nat)] W (Done w0 O b line N (es ++ [⟨16, p, N⟩]) (lfS ⟨m, st.depth, st.j, st.s, st.c⟩ 16 (((bl line).drop p).take (N - p)))) := by
  have HTE := Lib.hid (fun W => (show Calls Tryz.prog 76 #[.string line, .int .i64 (f : Nat), .string (quoB m)] W fun e w' => e = .returned (.tuple #[.int .i64 (N : Nat), .bool false, .bool false]) ∧ W = w' from by
    have h := textEnd_any line (quoB m) f W hs (Nat.le_trans (quoB_le m) (by decide)) (quoB_pos m) hf
    rw [quoB_bl, hN] at h
    rw [hx] at h
    exact h))
  have c0 : W.cell? ⟨b, 0, none⟩ = some (.string line) := hr.cell rfl
  have cq : W.cell? ⟨1, m, none⟩ = some (.string (quoB m)) := by rw [← quoV_m hm1]; exact (hT.up hr.up).qu m (by omega)
  have hS : RdAt w0 W O b line p v es st ∧ W.cell? ⟨b, 0, none⟩ = some (.string line) ∧ W.cell? ⟨1, m, none⟩ = some (.string (quoB m)) := ⟨hr, c0, cq⟩
  have m0 : (0 : Int) ≤ (m : Int) := by omega
  have m5 : (m : Int) < 5 := by omega
  have HQ := Lib.hid (fun W' (hu : Up w0 W') => (by rw [← quoV_m hm1]; exact (hT.up hu).qu m (by omega) : W'.cell? ⟨1, m, none⟩ = some (.string (quoB m))))
  have HLF := Lib.hid (fun W' (v' : Value) (st' : PSt) (hr' : RdAt w0 W' O b line p v' es st') => leaf_any w0 W' O b line p N v' es st' (16) hr' (by omega) hNs hs hl)
  rw [show ((16 : Nat) : Int) = 16 from rfl] at HLF
  have q1 : (1 : Int) < ((quoB m).size : Int) := by have := (quoB_one hm1 hm).2 h2; omega
  clear hr hT hp hf hm1 hm hs hl hN hNs hx c0 cq
  go_enter Tryz.func66, Tryz.ntmps66
  go_wp2
  go_region_held3 (fun w' => RdAt w0 w' O b line p v es st ∧ w'.cell? ⟨b, 0, none⟩ = some (.string line) ∧ w'.cell? ⟨1, m, none⟩ = some (.string (quoB m)))
    (first | assumption | with_reducible exact keepT (Up.drew _) (by assumption))
    (first | (go_at_call 76; ((with_reducible refine (HTE.out _).mono ?_); rintro e w2 ⟨rfl, rfl⟩)))
  have hr2 := hS.1.more (Up.drew W)
  clear hS
  obtain ⟨W2, hW2⟩ : ∃ W2, W.drew = W2 := ⟨_, rfl⟩
  rw [hW2] at hr2 ⊢
  clear hW2
  have hr3 := hr2.set (k := 3) (u := .int .u8 0) (p' := p) (st' := ⟨0, st.depth, st.j, st.s, st.c⟩) rfl
  have c3 := hr2.cell (k := 3) (show _ = some (.int .u8 (st.mark : Nat)) from rfl)
  have f3 := hr2.fr 3
  obtain ⟨W3, hW3⟩ : ∃ W3, W2.setCell ⟨b, 3, none⟩ (.int .u8 0) = W3 := ⟨_, rfl⟩
  rw [hW3] at hr3
  have HR3 := Lib.hid hr3
  have c3b := hr3.cell (k := 3) (show _ = some (.int .u8 0) from rfl)
  have f3b := hr3.fr 3
  have cqb := HQ.out _ hr3.up
  have hr5 := hr3.set (k := 3) (u := .int .u8 (m : Nat)) (p' := p) (st' := ⟨m, st.depth, st.j, st.s, st.c⟩) rfl
  obtain ⟨W5, hW5⟩ : ∃ W5, W3.setCell ⟨b, 3, none⟩ (.int .u8 (m : Nat)) = W5 := ⟨_, rfl⟩
  rw [hW5] at hr5
  have HR5 := Lib.hid hr5
  clear hr2 hr3 hr5
  go_wp2_with (go_at_call 67; ((with_reducible refine (HLF.out _ _ _ HR5.out).mono ?_); rintro e w4 ⟨rfl, v4, hr4⟩; have HR4 := Lib.hid hr4; clear hr4))
  go_end0
  exact ⟨rfl, _, HR4.out⟩
set_option maxRecDepth 100000 in
set_option maxHeartbeats 4000000 in
theorem text_lost (w0 W : World) (O : Nat → Obj → Prop) (b : Nat) (line : ByteArray) (p f m whole N : Nat) (v : Value) (es : List PEv) (st : PSt) (hr : RdAt w0 W O b line p v es st) (hT : TabsP w0) (hp : p ≤ f) (hf : f ≤ line.size) (hm1 : 1 ≤ m) (hm : m ≤ 4) (hs : (line.size : Int) ≤ 1000000) (hl : es.length ≤ 1000000) (hN : f + (clo (quo m) ((bl line).drop f)).1 = N) (hNs : N ≤ line.size) (hx : (clo (quo m) ((bl line).drop f)).2 = 2) (h2 : ¬ m ≤ 2) :
    Calls Tryz.prog 66 #[.pointer (some ⟨b, 0, none⟩), .int .i64 (f : Nat), .int .u8 (m : Nat), .int .u8 (whole : Nat)] W (Done w0 O b line N (es ++ [⟨2, p, N⟩]) (lfS ⟨0, st.depth, st.j, st.s, st.c⟩ 2 (((bl line).drop p).take (N - p)))) := by
  have HTE := Lib.hid (fun W => (show Calls Tryz.prog 76 #[.string line, .int .i64 (f : Nat), .string (quoB m)] W fun e w' => e = .returned (.tuple #[.int .i64 (N : Nat), .bool false, .bool false]) ∧ W = w' from by
    have h := textEnd_any line (quoB m) f W hs (Nat.le_trans (quoB_le m) (by decide)) (quoB_pos m) hf
    rw [quoB_bl, hN] at h
    rw [hx] at h
    exact h))
  have c0 : W.cell? ⟨b, 0, none⟩ = some (.string line) := hr.cell rfl
  have cq : W.cell? ⟨1, m, none⟩ = some (.string (quoB m)) := by rw [← quoV_m hm1]; exact (hT.up hr.up).qu m (by omega)
  have hS : RdAt w0 W O b line p v es st ∧ W.cell? ⟨b, 0, none⟩ = some (.string line) ∧ W.cell? ⟨1, m, none⟩ = some (.string (quoB m)) := ⟨hr, c0, cq⟩
  have m0 : (0 : Int) ≤ (m : Int) := by omega
  have m5 : (m : Int) < 5 := by omega
  have HQ := Lib.hid (fun W' (hu : Up w0 W') => (by rw [← quoV_m hm1]; exact (hT.up hu).qu m (by omega) : W'.cell? ⟨1, m, none⟩ = some (.string (quoB m))))
  have HLF := Lib.hid (fun W' (v' : Value) (st' : PSt) (hr' : RdAt w0 W' O b line p v' es st') => leaf_any w0 W' O b line p N v' es st' (2) hr' (by omega) hNs hs hl)
  rw [show ((2 : Nat) : Int) = 2 from rfl] at HLF
  have q1 : decide ((1 : Int) < ((quoB m).size : Int)) = false := decide_eq_false (fun h => h2 ((quoB_one hm1 hm).1 (by omega)))
  have q2 : decide (1 < (quoB m).size) = false := decide_eq_false (fun h => h2 ((quoB_one hm1 hm).1 h))
  clear hr hT hp hf hm1 hm hs hl hN hNs hx c0 cq
  go_enter Tryz.func66, Tryz.ntmps66
  go_wp2
  go_region_held3 (fun w' => RdAt w0 w' O b line p v es st ∧ w'.cell? ⟨b, 0, none⟩ = some (.string line) ∧ w'.cell? ⟨1, m, none⟩ = some (.string (quoB m)))
    (first | assumption | with_reducible exact keepT (Up.drew _) (by assumption))
    (first | (go_at_call 76; ((with_reducible refine (HTE.out _).mono ?_); rintro e w2 ⟨rfl, rfl⟩)))
  have hr2 := hS.1.more (Up.drew W)
  clear hS
  obtain ⟨W2, hW2⟩ : ∃ W2, W.drew = W2 := ⟨_, rfl⟩
  rw [hW2] at hr2 ⊢
  clear hW2
  have hr3 := hr2.set (k := 3) (u := .int .u8 0) (p' := p) (st' := ⟨0, st.depth, st.j, st.s, st.c⟩) rfl
  have c3 := hr2.cell (k := 3) (show _ = some (.int .u8 (st.mark : Nat)) from rfl)
  have f3 := hr2.fr 3
  obtain ⟨W3, hW3⟩ : ∃ W3, W2.setCell ⟨b, 3, none⟩ (.int .u8 0) = W3 := ⟨_, rfl⟩
  rw [hW3] at hr3
  have HR3 := Lib.hid hr3
  have cqb := HQ.out _ hr3.up
  clear hr2 hr3
  go_wp2_with (go_at_call 67; ((with_reducible refine (HLF.out _ _ _ HR3.out).mono ?_); rintro e w4 ⟨rfl, v4, hr4⟩; have HR4 := Lib.hid hr4; clear hr4))
  go_end0
  exact ⟨rfl, _, HR4.out⟩
theorem textFrom_any (w0 W : World) (O : Nat → Obj → Prop) (b : Nat) (line : ByteArray) (p f m whole : Nat) (v : Value) (es : List PEv) (st : PSt) (hr : RdAt w0 W O b line p v es st) (hT : TabsP w0) (hp : p ≤ f) (hf : f ≤ line.size) (hm1 : 1 ≤ m) (hm : m ≤ 4) (hs : (line.size : Int) ≤ 1000000) (hl : es.length ≤ 1000000) :
    Calls Tryz.prog 66 #[.pointer (some ⟨b, 0, none⟩), .int .i64 (f : Nat), .int .u8 (m : Nat), .int .u8 (whole : Nat)] W (Done w0 O b line (f + (clo (quo m) ((bl line).drop f)).1) (es ++ [⟨(textK whole m (clo (quo m) ((bl line).drop f)).2).1, p, f + (clo (quo m) ((bl line).drop f)).1⟩]) (lfS ⟨(textK whole m (clo (quo m) ((bl line).drop f)).2).2, st.depth, st.j, st.s, st.c⟩ (textK whole m (clo (quo m) ((bl line).drop f)).2).1 (((bl line).drop p).take (f + (clo (quo m) ((bl line).drop f)).1 - p)))) := by
  have hc := clo_le (quo m) (quo_len m).1 ((bl line).drop f)
  rw [List.length_drop, bl_len] at hc
  have hN : f + (clo (quo m) ((bl line).drop f)).1 ≤ line.size := by have := hc.1; omega
  have h3 := hc.2.2.2
  by_cases h0 : (clo (quo m) ((bl line).drop f)).2 = 0
  · have e : textK whole m (clo (quo m) ((bl line).drop f)).2 = (whole, 0) := by rw [h0]; rfl
    rw [e]
    exact text_ends w0 W O b line p f m whole _ v es st hr hT hp hf hm1 hm hs hl rfl hN h0
  by_cases h1 : (clo (quo m) ((bl line).drop f)).2 = 1
  · have e : textK whole m (clo (quo m) ((bl line).drop f)).2 = (16, m) := by rw [h1]; unfold textK; rw [if_neg (by decide), if_pos (.inr rfl)]
    rw [e]
    exact text_joins w0 W O b line p f m whole _ v es st hr hT hp hf hm1 hm hs hl rfl hN h1
  have h2 : (clo (quo m) ((bl line).drop f)).2 = 2 := by omega
  by_cases hm2 : m ≤ 2
  · have e : textK whole m (clo (quo m) ((bl line).drop f)).2 = (16, m) := by rw [h2]; unfold textK; rw [if_neg (by decide), if_pos (.inl hm2)]
    rw [e]
    exact text_long w0 W O b line p f m whole _ v es st hr hT hp hf hm1 hm hs hl rfl hN h2 hm2
  · have e : textK whole m (clo (quo m) ((bl line).drop f)).2 = (2, 0) := by rw [h2]; unfold textK; rw [if_neg (by decide), if_neg (by omega)]
    rw [e]
    exact text_lost w0 W O b line p f m whole _ v es st hr hT hp hf hm1 hm hs hl rfl hN h2 hm2
end Go.Proofs.YtmfcapbllbfjnaaGreatDoor
