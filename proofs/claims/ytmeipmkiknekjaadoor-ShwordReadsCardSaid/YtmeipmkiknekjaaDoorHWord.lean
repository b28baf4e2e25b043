/- The program's word. -/
import Derived.Test.YtmeipmkiknekjaaDoorHTell
import Derived.Deep.RegionHeld3
namespace Go.Proofs.YtmeipmkiknekjaaDoor
open Go.RowKit
set_option linter.unusedVariables false

theorem lth_new {w0 W : World} {b n p mk : Nat} {line : ByteArray} {v : Value} {ps : List Pc} (h : RdH w0 W b line n p mk v ps) : LtH w0 (W.alloc (.cells #[.slice none 0 0] TT)) b W.heap.size line n p mk v ps (.slice none 0 0) [] :=
  ⟨h.more (Up.alloc _ _), Go.heap_alloc_new _ _, World.ownsRow_nil _ _ _ _, Below.size h.up⟩
theorem keepW {w0 W W2 : World} {b tb n p mk : Nat} {line : ByteArray} {v tv : Value} {ps : List Pc} {l : List Nat} {z : Int} (hu : Up W W2) (h : LtH w0 W b tb line n p mk v ps tv l ∧ W.cell? ⟨b, 0, none⟩ = some (.string line) ∧ W.cell? ⟨b, 2, none⟩ = some (.int .i64 z)) :
    LtH w0 W2 b tb line n p mk v ps tv l ∧ W2.cell? ⟨b, 0, none⟩ = some (.string line) ∧ W2.cell? ⟨b, 2, none⟩ = some (.int .i64 z) := ⟨h.1.more hu, cell_up hu h.2.1, cell_up hu h.2.2⟩
section
variable {w0 W : World} {b n p mk : Nat} {line : ByteArray} {v : Value} {ps : List Pc}
set_option maxRecDepth 100000 in
set_option maxHeartbeats 4000000 in
theorem word_zero (hT : TabH w0) (hn : n = con (bl line)) (hs : (line.size : Int) ≤ 1000000) (hp : p ≤ n) (hl : ps.length ≤ 1000000) (h : RdH w0 W b line n p mk v ps) (hM : (wd 0 ((bl line).drop p)).2.2 = 0) :
    Calls Tryd.prog 16 #[.pointer (some ⟨b, 0, none⟩), .int .u8 0] W fun e w' => e = .returned (.tuple #[]) ∧ ∃ v', RdH w0 w' b line n (p + (wd 0 ((bl line).drop p)).1) 0 v' (ps ++ [⟨51, p, (p + (wd 0 ((bl line).drop p)).1), (wd 0 ((bl line).drop p)).2.1, (((bl line).drop p).take ((p + (wd 0 ((bl line).drop p)).1) - p)).any sgB, true⟩]) := by
  have hal := wd_all n 0 ((bl line).drop p) (by rw [con_drop p _ (by omega)]; omega) (.inl rfl)
  have hle := con_le (bl line)
  rw [bl_len, ← hn] at hle
  have hcd : con ((bl line).drop p) = n - p := by rw [con_drop p _ (by omega)]; omega
  have HLT := Lib.hid (letters_any hT hn hs 0 (.inl rfl) (lth_new h) hp)
  rw [hM, show ((0 : Nat) : Int) = 0 from rfl] at HLT
  obtain ⟨K, hK⟩ : ∃ K, (wd 0 ((bl line).drop p)).1 = K := ⟨_, rfl⟩
  obtain ⟨T, hTT⟩ : ∃ T, (wd 0 ((bl line).drop p)).2.1 = T := ⟨_, rfl⟩
  obtain ⟨r, hr⟩ : ∃ r, p + K = r := ⟨_, rfl⟩
  rw [hK, hTT] at hal HLT
  try rw [hK]
  rw [hTT]
  rw [hr] at HLT
  try rw [hr]
  have hKn : r ≤ n := by have := hal.1; omega
  have hTl : T.length ≤ K := hal.2.1
  have hTl2 : T.length ≤ 1000000 := by omega
  have hcut : bl (line.extract p r) = ((bl line).drop p).take (r - p) := by rw [bl_extract, List.drop_take]
  have hcz : ((line.extract p r).size : Int) ≤ 1000000 := by
    have : (line.extract p r).size ≤ line.size := by rw [ByteArray.size_extract]; omega
    omega
  have HCA := Lib.hid (fun W => (show Calls Tryd.prog 26 #[.string (line.extract p r), .string ⟨#[39, 34, 92]⟩] W fun e w' => e = .returned (.bool ((bl (line.extract p r)).any sgB)) ∧ Up W w' from containsAny_any (line.extract p r) W hcz))
  rw [hcut] at HCA
  generalize (((bl line).drop p).take (r - p)).any sgB = X at HCA ⊢
  clear hcz hcut
  have c2 : W.cell? ⟨b, 2, none⟩ = some (.int .i64 (p : Nat)) := h.cell rfl
  have d2 : (W.alloc (.cells #[.slice none 0 0] TT)).cell? ⟨b, 2, none⟩ = some (.int .i64 (p : Nat)) := cell_up (Up.alloc _ _) c2
  have p0 : (0 : Int) ≤ (p : Int) := by omega
  have p1 : (p : Int) ≤ (r : Int) := by omega
  have p2 : (r : Int) ≤ line.size := by omega
  have q1 : p ≤ r := by omega
  have q2 : r ≤ line.size := by omega
  have HS := Lib.hid hs
  have HNL := Lib.hid (show n ≤ line.size from by omega)
  have HM := Lib.hid hM
  clear hal hle hcd hK hTT hM h c2 hr hs
  go_enter Tryd.func16, Tryd.ntmps16
  go_wp2_with (go_at_call 24; ((with_reducible refine (HLT.out).mono ?_); rintro e w1 ⟨rfl, tv, h1⟩; have c3 : w1.cell? ⟨b, 3, none⟩ = some (.int .u8 (mk : Nat)) := h1.rd.cell rfl; have z3 := h1.rd.fr 3; have h2 := h1.set (k := 3) (u := .int .u8 0) (p' := r) (mk' := 0) rfl; have d3 := h2.rd.cell (k := 3) (show _ = some (.int .u8 0) from rfl); have HL := Lib.hid h2; clear h1 h2))
  obtain ⟨W2, hW2⟩ : ∃ W2, w1.setCell ⟨b, 3, none⟩ (.int .u8 0) = W2 := ⟨_, rfl⟩
  rw [hW2] at HL ⊢
  clear hW2 c3 z3 d3 d2 HLT
  have hS : LtH w0 W2 b W.heap.size line n r 0 v ps tv T ∧ W2.cell? ⟨b, 0, none⟩ = some (.string line) ∧ W2.cell? ⟨b, 2, none⟩ = some (.int .i64 (r : Nat)) := ⟨HL.out, HL.out.rd.cell rfl, HL.out.rd.cell rfl⟩
  go_region_held3 (fun w' => LtH w0 w' b W.heap.size line n r 0 v ps tv T ∧ w'.cell? ⟨b, 0, none⟩ = some (.string line) ∧ w'.cell? ⟨b, 2, none⟩ = some (.int .i64 (r : Nat)))
    (first | assumption | with_reducible exact keepW (Up.drew _) (by assumption) | with_reducible exact keepW hu (by assumption))
    (first | (go_at_call 26; ((with_reducible refine (HCA.out _).mono ?_); rintro e w2 ⟨rfl, hu⟩)))
  have HL3 := Lib.hid (hS.1.more ((Up.drew W2).trans hu))
  clear hS hu HL HCA p0 p1 p2 q1 q2
  obtain ⟨W3, hW3⟩ : ∃ W3, w2 = W3 := ⟨_, rfl⟩
  rw [hW3] at HL3 ⊢
  clear hW3
  go_wp2
  refine tell_bare (B := true) rfl HL3.out hl _ _ _ _ _ _ _ _ _ _ _ _ _ _ _ _ _ _ _ _ _ _ _ _ _ _ _ _ _ _ _ _ _ _ _ _ _ _ _ _ _ _ _ _ _ _ _ _ _ _ _ _ _ _ _ _ _ _ _ _ _ _ _ _ _ _ _ _ _ _ _ _ _ _ _ _ _ _ _ _ ?_
  intro y57 y58 y59 y60 y61 y62 y63 y64 y65 y66 y67 y68 y69 y70 y71 y72 y73 y74 y75 y76 y77 y78 y79 y80 y81 y82 y83 w5 v5 h5
  have H5 := Lib.hid h5
  clear h5
  go_end0
  exact ⟨rfl, _, H5.out⟩
set_option maxRecDepth 100000 in
set_option maxHeartbeats 4000000 in
theorem word_sgn (hT : TabH w0) (hn : n = con (bl line)) (hs : (line.size : Int) ≤ 1000000) (hp : p ≤ n) (hl : ps.length ≤ 1000000) (h : RdH w0 W b line n p mk v ps) (m : Nat) (hm : m = 39 ∨ m = 34) (hM : (wd m ((bl line).drop p)).2.2 = 0) :
    Calls Tryd.prog 16 #[.pointer (some ⟨b, 0, none⟩), .int .u8 (m : Nat)] W fun e w' => e = .returned (.tuple #[]) ∧ ∃ v', RdH w0 w' b line n (p + (wd m ((bl line).drop p)).1) 0 v' (ps ++ [⟨51, p, (p + (wd m ((bl line).drop p)).1), (wd m ((bl line).drop p)).2.1, true, false⟩]) := by
  have hal := wd_all n m ((bl line).drop p) (by rw [con_drop p _ (by omega)]; omega) (.inr hm)
  have hle := con_le (bl line)
  rw [bl_len, ← hn] at hle
  have hcd : con ((bl line).drop p) = n - p := by rw [con_drop p _ (by omega)]; omega
  have HLT := Lib.hid (letters_any hT hn hs m (.inr hm) (lth_new h) hp)
  rw [hM, show ((0 : Nat) : Int) = 0 from rfl] at HLT
  have hz : ((m : Int) == 0) = false := beq_eq_false_iff_ne.2 (by omega)
  have hz2 : ((m : Int) != 0) = true := by rw [bne, hz]; rfl
  obtain ⟨K, hK⟩ : ∃ K, (wd m ((bl line).drop p)).1 = K := ⟨_, rfl⟩
  obtain ⟨T, hTT⟩ : ∃ T, (wd m ((bl line).drop p)).2.1 = T := ⟨_, rfl⟩
  obtain ⟨r, hr⟩ : ∃ r, p + K = r := ⟨_, rfl⟩
  rw [hK, hTT] at hal HLT
  try rw [hK]
  rw [hTT]
  rw [hr] at HLT
  try rw [hr]
  have hKn : r ≤ n := by have := hal.1; omega
  have hTl : T.length ≤ K := hal.2.1
  have hTl2 : T.length ≤ 1000000 := by omega
  have c2 : W.cell? ⟨b, 2, none⟩ = some (.int .i64 (p : Nat)) := h.cell rfl
  have d2 : (W.alloc (.cells #[.slice none 0 0] TT)).cell? ⟨b, 2, none⟩ = some (.int .i64 (p : Nat)) := cell_up (Up.alloc _ _) c2
  have p0 : (0 : Int) ≤ (p : Int) := by omega
  have p1 : (p : Int) ≤ (r : Int) := by omega
  have p2 : (r : Int) ≤ line.size := by omega
  have q1 : p ≤ r := by omega
  have q2 : r ≤ line.size := by omega
  have HS := Lib.hid hs
  have HNL := Lib.hid (show n ≤ line.size from by omega)
  have HM := Lib.hid hM
  clear hal hle hcd hK hTT hM h c2 hr hs
  go_enter Tryd.func16, Tryd.ntmps16
  go_wp2_with (go_at_call 24; ((with_reducible refine (HLT.out).mono ?_); rintro e w1 ⟨rfl, tv, h1⟩; have c3 : w1.cell? ⟨b, 3, none⟩ = some (.int .u8 (mk : Nat)) := h1.rd.cell rfl; have z3 := h1.rd.fr 3; have h2 := h1.set (k := 3) (u := .int .u8 0) (p' := r) (mk' := 0) rfl; have d3 := h2.rd.cell (k := 3) (show _ = some (.int .u8 0) from rfl); have HL := Lib.hid h2; clear h1 h2))
  obtain ⟨W2, hW2⟩ : ∃ W2, w1.setCell ⟨b, 3, none⟩ (.int .u8 0) = W2 := ⟨_, rfl⟩
  rw [hW2] at HL ⊢
  clear hW2 c3 z3 d3 d2 HLT
  go_region
  have HL3 := Lib.hid (HL.out.more (Up.drew W2))
  generalize W2.drew = W3 at HL3 ⊢
  go_wp2
  refine tell_sign hz HL3.out hl _ _ _ _ _ _ _ _ _ _ _ _ _ _ _ _ _ _ _ _ _ _ _ _ _ _ _ _ _ _ _ _ _ _ _ _ _ _ _ _ _ _ _ _ _ _ _ _ _ _ _ _ _ _ _ _ _ _ _ _ _ _ _ _ _ _ _ _ _ _ _ _ _ _ _ _ _ _ _ _ ?_
  intro y57 y58 y59 y60 y61 y62 y63 y64 y65 y66 y67 y68 y69 y70 y71 y72 y73 y74 y75 y76 y77 y78 y79 y80 y81 y82 y83 w5 v5 h5
  have H5 := Lib.hid h5
  clear h5
  go_end0
  exact ⟨rfl, _, H5.out⟩
set_option maxRecDepth 100000 in
set_option maxHeartbeats 4000000 in
theorem word_mark (hT : TabH w0) (hn : n = con (bl line)) (hs : (line.size : Int) ≤ 1000000) (hp : p ≤ n) (hl : ps.length ≤ 1000000) (h : RdH w0 W b line n p mk v ps) (hM : (wd 0 ((bl line).drop p)).2.2 ≠ 0) :
    Calls Tryd.prog 16 #[.pointer (some ⟨b, 0, none⟩), .int .u8 0] W fun e w' => e = .returned (.tuple #[]) ∧ ∃ v', RdH w0 w' b line n line.size (wd 0 ((bl line).drop p)).2.2 v' (ps ++ [⟨51, p, line.size, ((wd 0 ((bl line).drop p)).2.1 ++ (bl line).drop n), (((bl line).drop p).take (line.size - p)).any sgB, false⟩]) := by
  have hal := wd_all n 0 ((bl line).drop p) (by rw [con_drop p _ (by omega)]; omega) (.inl rfl)
  have hle := con_le (bl line)
  rw [bl_len, ← hn] at hle
  have hcd : con ((bl line).drop p) = n - p := by rw [con_drop p _ (by omega)]; omega
  have HLT := Lib.hid (letters_any hT hn hs 0 (.inl rfl) (lth_new h) hp)
  rw [show ((0 : Nat) : Int) = 0 from rfl] at HLT
  obtain ⟨M, hMM⟩ : ∃ M, (wd 0 ((bl line).drop p)).2.2 = M := ⟨_, rfl⟩
  rw [hMM] at hal hM HLT ⊢
  have g0 : ((M : Int) == 0) = false := beq_eq_false_iff_ne.2 (by omega)
  have g1 : ((M : Int) != 0) = true := by rw [bne, g0]; rfl
  obtain ⟨K, hK⟩ : ∃ K, (wd 0 ((bl line).drop p)).1 = K := ⟨_, rfl⟩
  obtain ⟨T, hTT⟩ : ∃ T, (wd 0 ((bl line).drop p)).2.1 = T := ⟨_, rfl⟩
  obtain ⟨r, hr⟩ : ∃ r, p + K = r := ⟨_, rfl⟩
  rw [hK, hTT] at hal HLT
  try rw [hK]
  rw [hTT]
  rw [hr] at HLT
  try rw [hr]
  have hKn : r ≤ n := by have := hal.1; omega
  have hTl : T.length ≤ K := hal.2.1
  have hTl2 : T.length ≤ 1000000 := by omega
  obtain ⟨q, hq⟩ : ∃ q, line.size = q := ⟨_, rfl⟩
  have hqs : (line.size : Int) = (q : Nat) := by omega
  rw [hq]
  have hcut : bl (line.extract p q) = ((bl line).drop p).take (q - p) := by rw [bl_extract, List.drop_take]
  have hcz : ((line.extract p q).size : Int) ≤ 1000000 := by
    have : (line.extract p q).size ≤ line.size := by rw [ByteArray.size_extract]; omega
    omega
  have HCA := Lib.hid (fun W => (show Calls Tryd.prog 26 #[.string (line.extract p q), .string ⟨#[39, 34, 92]⟩] W fun e w' => e = .returned (.bool ((bl (line.extract p q)).any sgB)) ∧ Up W w' from containsAny_any (line.extract p q) W hcz))
  rw [hcut] at HCA
  generalize (((bl line).drop p).take (q - p)).any sgB = X at HCA ⊢
  clear hcz hcut
  have c2 : W.cell? ⟨b, 2, none⟩ = some (.int .i64 (p : Nat)) := h.cell rfl
  have d2 : (W.alloc (.cells #[.slice none 0 0] TT)).cell? ⟨b, 2, none⟩ = some (.int .i64 (p : Nat)) := cell_up (Up.alloc _ _) c2
  have p0 : (0 : Int) ≤ (p : Int) := by omega
  have p1 : (p : Int) ≤ (q : Int) := by omega
  have p2 : (q : Int) ≤ line.size := by omega
  have q1 : p ≤ q := by omega
  have q2 : q ≤ line.size := by omega
  have HS := Lib.hid hs
  have HNL := Lib.hid (show n ≤ line.size from by omega)
  have HM := Lib.hid hM
  clear hal hle hcd hK hTT hM h c2 hr hs
  clear hMM hq
  go_enter Tryd.func16, Tryd.ntmps16
  go_wp2_with (go_at_call 24; ((with_reducible refine (HLT.out).mono ?_); rintro e w1 ⟨rfl, tv, h1⟩; have c3 : w1.cell? ⟨b, 3, none⟩ = some (.int .u8 (mk : Nat)) := h1.rd.cell rfl; have z3 := h1.rd.fr 3; have h2 := h1.set (k := 3) (u := .int .u8 (M : Nat)) (p' := r) (mk' := M) rfl; have d3 := h2.rd.cell (k := 3) (show _ = some (.int .u8 (M : Nat)) from rfl); have HL := Lib.hid h2; clear h1 h2))
  obtain ⟨W2, hW2⟩ : ∃ W2, w1.setCell ⟨b, 3, none⟩ (.int .u8 (M : Nat)) = W2 := ⟨_, rfl⟩
  rw [hW2] at HL ⊢
  clear hW2 c3 z3 d3 d2 HLT
  refine word_adds HL.out hTl2 HS.out HNL.out _ _ _ _ _ _ _ _ _ _ _ _ _ _ _ _ _ _ _ _ _ _ _ _ _ _ _ _ _ _ _ _ _ _ _ _ _ _ _ _ _ _ _ _ _ _ _ _ _ _ _ _ _ _ _ _ _ _ _ _ _ _ _ _ _ _ _ _ _ _ _ _ _ _ _ _ _ _ _ _ _ _ _ ?_
  intro y23 y24 y25 y26 y27 y28 y29 y30 y31 y32 y33 W4 tv4 h4
  have c2 : W4.cell? ⟨b, 2, none⟩ = some (.int .i64 (r : Nat)) := h4.rd.cell rfl
  have c0 : W4.cell? ⟨b, 0, none⟩ = some (.string line) := h4.rd.cell rfl
  have z2 := h4.rd.fr 2
  have h5 := h4.set (k := 2) (u := .int .i64 (q : Nat)) (p' := q) (mk' := M) rfl
  have HL := Lib.hid h5
  clear h4 h5
  go_wp2
  obtain ⟨W2, hW2⟩ : ∃ W2, W4.setCell ⟨b, 2, none⟩ (.int .i64 (q : Nat)) = W2 := ⟨_, rfl⟩
  rw [hW2] at HL ⊢
  clear hW2 c2 c0 z2
  have hS : LtH w0 W2 b W.heap.size line n q M v ps tv4 (T ++ (bl line).drop n) ∧ W2.cell? ⟨b, 0, none⟩ = some (.string line) ∧ W2.cell? ⟨b, 2, none⟩ = some (.int .i64 (q : Nat)) := ⟨HL.out, HL.out.rd.cell rfl, HL.out.rd.cell rfl⟩
  go_region_held3 (fun w' => LtH w0 w' b W.heap.size line n q M v ps tv4 (T ++ (bl line).drop n) ∧ w'.cell? ⟨b, 0, none⟩ = some (.string line) ∧ w'.cell? ⟨b, 2, none⟩ = some (.int .i64 (q : Nat)))
    (first | assumption | with_reducible exact keepW (Up.drew _) (by assumption) | with_reducible exact keepW hu (by assumption))
    (first | (go_at_call 26; ((with_reducible refine (HCA.out _).mono ?_); rintro e w2 ⟨rfl, hu⟩)))
  have HL3 := Lib.hid (hS.1.more ((Up.drew W2).trans hu))
  clear hS hu HL HCA p0 p1 p2 q1 q2
  obtain ⟨W3, hW3⟩ : ∃ W3, w2 = W3 := ⟨_, rfl⟩
  rw [hW3] at HL3 ⊢
  clear hW3
  go_wp2
  refine tell_bare g0 HL3.out hl _ _ _ _ _ _ _ _ _ _ _ _ _ _ _ _ _ _ _ _ _ _ _ _ _ _ _ _ _ _ _ _ _ _ _ _ _ _ _ _ _ _ _ _ _ _ _ _ _ _ _ _ _ _ _ _ _ _ _ _ _ _ _ _ _ _ _ _ _ _ _ _ _ _ _ _ _ _ _ _ ?_
  intro y57 y58 y59 y60 y61 y62 y63 y64 y65 y66 y67 y68 y69 y70 y71 y72 y73 y74 y75 y76 y77 y78 y79 y80 y81 y82 y83 w5 v5 h5
  have H5 := Lib.hid h5
  clear h5
  go_end0
  exact ⟨rfl, _, H5.out⟩
set_option maxRecDepth 100000 in
set_option maxHeartbeats 4000000 in
theorem word_both (hT : TabH w0) (hn : n = con (bl line)) (hs : (line.size : Int) ≤ 1000000) (hp : p ≤ n) (hl : ps.length ≤ 1000000) (h : RdH w0 W b line n p mk v ps) (m : Nat) (hm : m = 39 ∨ m = 34) (hM : (wd m ((bl line).drop p)).2.2 ≠ 0) :
    Calls Tryd.prog 16 #[.pointer (some ⟨b, 0, none⟩), .int .u8 (m : Nat)] W fun e w' => e = .returned (.tuple #[]) ∧ ∃ v', RdH w0 w' b line n line.size (wd m ((bl line).drop p)).2.2 v' (ps ++ [⟨51, p, line.size, ((wd m ((bl line).drop p)).2.1 ++ (bl line).drop n), true, false⟩]) := by
  have hal := wd_all n m ((bl line).drop p) (by rw [con_drop p _ (by omega)]; omega) (.inr hm)
  have hle := con_le (bl line)
  rw [bl_len, ← hn] at hle
  have hcd : con ((bl line).drop p) = n - p := by rw [con_drop p _ (by omega)]; omega
  have HLT := Lib.hid (letters_any hT hn hs m (.inr hm) (lth_new h) hp)
  have hz : ((m : Int) == 0) = false := beq_eq_false_iff_ne.2 (by omega)
  have hz2 : ((m : Int) != 0) = true := by rw [bne, hz]; rfl
  obtain ⟨M, hMM⟩ : ∃ M, (wd m ((bl line).drop p)).2.2 = M := ⟨_, rfl⟩
  rw [hMM] at hal hM HLT ⊢
  have g0 : ((M : Int) == 0) = false := beq_eq_false_iff_ne.2 (by omega)
  have g1 : ((M : Int) != 0) = true := by rw [bne, g0]; rfl
  obtain ⟨K, hK⟩ : ∃ K, (wd m ((bl line).drop p)).1 = K := ⟨_, rfl⟩
  obtain ⟨T, hTT⟩ : ∃ T, (wd m ((bl line).drop p)).2.1 = T := ⟨_, rfl⟩
  obtain ⟨r, hr⟩ : ∃ r, p + K = r := ⟨_, rfl⟩
  rw [hK, hTT] at hal HLT
  try rw [hK]
  rw [hTT]
  rw [hr] at HLT
  try rw [hr]
  have hKn : r ≤ n := by have := hal.1; omega
  have hTl : T.length ≤ K := hal.2.1
  have hTl2 : T.length ≤ 1000000 := by omega
  obtain ⟨q, hq⟩ : ∃ q, line.size = q := ⟨_, rfl⟩
  have hqs : (line.size : Int) = (q : Nat) := by omega
  rw [hq]
  have c2 : W.cell? ⟨b, 2, none⟩ = some (.int .i64 (p : Nat)) := h.cell rfl
  have d2 : (W.alloc (.cells #[.slice none 0 0] TT)).cell? ⟨b, 2, none⟩ = some (.int .i64 (p : Nat)) := cell_up (Up.alloc _ _) c2
  have p0 : (0 : Int) ≤ (p : Int) := by omega
  have p1 : (p : Int) ≤ (q : Int) := by omega
  have p2 : (q : Int) ≤ line.size := by omega
  have q1 : p ≤ q := by omega
  have q2 : q ≤ line.size := by omega
  have HS := Lib.hid hs
  have HNL := Lib.hid (show n ≤ line.size from by omega)
  have HM := Lib.hid hM
  clear hal hle hcd hK hTT hM h c2 hr hs
  clear hMM hq
  go_enter Tryd.func16, Tryd.ntmps16
  go_wp2_with (go_at_call 24; ((with_reducible refine (HLT.out).mono ?_); rintro e w1 ⟨rfl, tv, h1⟩; have c3 : w1.cell? ⟨b, 3, none⟩ = some (.int .u8 (mk : Nat)) := h1.rd.cell rfl; have z3 := h1.rd.fr 3; have h2 := h1.set (k := 3) (u := .int .u8 (M : Nat)) (p' := r) (mk' := M) rfl; have d3 := h2.rd.cell (k := 3) (show _ = some (.int .u8 (M : Nat)) from rfl); have HL := Lib.hid h2; clear h1 h2))
  obtain ⟨W2, hW2⟩ : ∃ W2, w1.setCell ⟨b, 3, none⟩ (.int .u8 (M : Nat)) = W2 := ⟨_, rfl⟩
  rw [hW2] at HL ⊢
  clear hW2 c3 z3 d3 d2 HLT
  refine word_adds HL.out hTl2 HS.out HNL.out _ _ _ _ _ _ _ _ _ _ _ _ _ _ _ _ _ _ _ _ _ _ _ _ _ _ _ _ _ _ _ _ _ _ _ _ _ _ _ _ _ _ _ _ _ _ _ _ _ _ _ _ _ _ _ _ _ _ _ _ _ _ _ _ _ _ _ _ _ _ _ _ _ _ _ _ _ _ _ _ _ _ _ ?_
  intro y23 y24 y25 y26 y27 y28 y29 y30 y31 y32 y33 W4 tv4 h4
  have c2 : W4.cell? ⟨b, 2, none⟩ = some (.int .i64 (r : Nat)) := h4.rd.cell rfl
  have c0 : W4.cell? ⟨b, 0, none⟩ = some (.string line) := h4.rd.cell rfl
  have z2 := h4.rd.fr 2
  have h5 := h4.set (k := 2) (u := .int .i64 (q : Nat)) (p' := q) (mk' := M) rfl
  have HL := Lib.hid h5
  clear h4 h5
  go_wp2
  obtain ⟨W2, hW2⟩ : ∃ W2, W4.setCell ⟨b, 2, none⟩ (.int .i64 (q : Nat)) = W2 := ⟨_, rfl⟩
  rw [hW2] at HL ⊢
  clear hW2 c2 c0 z2
  go_region
  have HL3 := Lib.hid (HL.out.more (Up.drew W2))
  generalize W2.drew = W3 at HL3 ⊢
  go_wp2
  refine tell_sign hz HL3.out hl _ _ _ _ _ _ _ _ _ _ _ _ _ _ _ _ _ _ _ _ _ _ _ _ _ _ _ _ _ _ _ _ _ _ _ _ _ _ _ _ _ _ _ _ _ _ _ _ _ _ _ _ _ _ _ _ _ _ _ _ _ _ _ _ _ _ _ _ _ _ _ _ _ _ _ _ _ _ _ _ ?_
  intro y57 y58 y59 y60 y61 y62 y63 y64 y65 y66 y67 y68 y69 y70 y71 y72 y73 y74 y75 y76 y77 y78 y79 y80 y81 y82 y83 w5 v5 h5
  have H5 := Lib.hid h5
  clear h5
  go_end0
  exact ⟨rfl, _, H5.out⟩
end
end Go.Proofs.YtmeipmkiknekjaaDoor
