/- The statements' own tells: at a rope of a text, true. -/
import Derived.Test.YtcbmigkdmmmahaaDoorRDoc
namespace Go.Proofs.YtcbmigkdmmmahaaDoor
open Go.RowKit

def DpOk (s : ByteArray) (e : Ending) : Prop := ∃ d : Nat, e = .returned (.int .i64 (d : Nat)) ∧ decide ((d : Int) < 0) = false ∧ decide (2 * (digs s.size : Int) + 2 < (d : Int)) = false
theorem depthT {w : World} {rb : Nat} {s : ByteArray} (hr : RopeIs w rb s) : Calls Tryd.prog 23 #[.pointer (some ⟨rb, 0, none⟩)] w fun e w' => DpOk s e ∧ w = w' :=
  (depth_any hr).mono fun e w' ⟨d, h1, h2, h3⟩ => ⟨⟨d, h2, decide_eq_false (by omega), decide_eq_false (by have := depth_digs h1; omega)⟩, h3⟩
theorem byte_ix {w : World} {rb : Nat} {s : ByteArray} (hr : RopeIs w rb s) (i : Nat) (hi : i < s.size) : Calls Tryd.prog 18 #[.pointer (some ⟨rb, 0, none⟩), .int .i64 (i : Nat)] w fun e' w' => e' = .returned (.tuple #[.int .u8 (s[i].toNat : Nat), .int .i64 0]) ∧ Up w w' := by
  rw [bt_eq hi]
  exact byte_in hr i hi
structure St0 (w : World) (rb : Nat) (t : ByteArray) (W : World) : Prop where
  r : RopeIs W rb t
  u : Up w W
theorem St0.up {w : World} {rb : Nat} {t : ByteArray} {W W' : World} (h : St0 w rb t W) (hu : Up W W') : St0 w rb t W' := ⟨h.r.up hu, h.u.trans hu⟩

set_option maxRecDepth 100000 in
set_option maxHeartbeats 8000000 in
theorem tells_in_in {w : World} {rb : Nat} {s : ByteArray} (hr : RopeIs w rb s) (i : Nat) (k : Int) (f u : Nat) (hi : i < s.size) (hfu : f ≤ u) (hus : u ≤ s.size) :
    Calls Tryd.prog 11 #[.pointer (some ⟨rb, 0, none⟩), .string s, .int .i64 (i : Nat), .int .i64 k, .int .i64 (f : Nat), .int .i64 (u : Nat)] w fun e w' => e = .returned (.bool true) ∧ Up w w' := by
  have hz := hr.size
  have HZ := Lib.hid hz
  have HS := Lib.hid (show St0 w rb s w from ⟨hr, Up.refl w⟩)
  have hnl := nl_le s
  have hnli : (nl s : Int) ≤ 1048576 := by omega
  have hdg := digs_le s.size s.size (Nat.le_refl _)
  have hdgi : (digs s.size : Int) ≤ 1048576 := by omega
  have HB := Lib.hid (fun (W : World) (h : RopeIs W rb s) => byte_ix h i hi)
  have HC := Lib.hid (fun (W : World) (h : RopeIs W rb s) => slice_in h f u hfu hus)
  clear hr hz hnl hdg
  go_enter Tryd.func11, Tryd.ntmps11
  go_wp2_with (first
    | (go_at_call 17; ((with_reducible refine (rope_len_any HS.out.r).mono ?_); rintro e w1 ⟨rfl, hu⟩; have HS := Lib.hid (HS.out.up hu); clear hu))
    | (go_at_call 16; ((with_reducible refine (text_any HS.out.r).mono ?_); rintro e w2 ⟨rfl, hu⟩; have HS := Lib.hid (HS.out.up hu); clear hu))
    | (go_at_call 22; ((with_reducible refine (rope_lines_any HS.out.r).mono ?_); rintro e w3 ⟨rfl, hu⟩; have HS := Lib.hid (HS.out.up hu); clear hu))
    | (go_at_call 25; ((with_reducible refine (refLines_at s HZ.out _).mono ?_); rintro e w4 ⟨g, cap, rfl, hg, hu, -⟩; have HS := Lib.hid (HS.out.up hu); clear hu hg))
    | (go_at_call 23; ((with_reducible refine (depthT HS.out.r).mono ?_); rintro e w5 ⟨⟨d, rfl, d0, d1⟩, rfl⟩))
    | (go_at_call 26; ((with_reducible refine (digits_any s.size HZ.out _).mono ?_); rintro e w6 ⟨rfl, rfl⟩))
    | (go_at_call 20; ((with_reducible refine (lineT HS.out.r k).mono ?_); rintro e w7 ⟨rfl, hu⟩; have HS := Lib.hid (HS.out.up (hu.trans (Up.alloc w7 (.cells #[.int .i64 (lnF s k), .int .i64 (lnT s k)] 45)))); have HR := rg_cells w7 (lnF s k) (lnT s k); clear hu))
    | (go_at_call 27; ((with_reducible refine (refLineT s HZ.out k _).mono ?_); rintro e w8 ⟨rfl, hu⟩; have HS := Lib.hid (HS.out.up (hu.trans (Up.alloc w8 (.cells #[.int .i64 (lnF s k), .int .i64 (lnT s k)] 45)))); have HR := HR.up (hu.trans (Up.alloc w8 (.cells #[.int .i64 (lnF s k), .int .i64 (lnT s k)] 45))); have HQ := rg_cells w8 (lnF s k) (lnT s k); clear hu))
    | (go_at_call 21; ((with_reducible refine (findT HS.out.r i).mono ?_); rintro e w9 ⟨rfl, hu⟩; have HS := Lib.hid (HS.out.up hu); obtain ⟨k0, k1, -⟩ := HR.up hu; obtain ⟨k2, k3, -⟩ := HQ.up hu; clear hu))
    | (go_at_call 28; ((with_reducible refine (refFindT s HZ.out i _).mono ?_); rintro e wA ⟨rfl, rfl⟩))
    | (go_at_call 18; ((with_reducible refine (HB.out _ HS.out.r).mono ?_); rintro e wB ⟨rfl, hu⟩; have HS := Lib.hid (HS.out.up hu); clear hu))
    | (go_at_call 19; ((with_reducible refine (HC.out _ HS.out.r).mono ?_); rintro e wC ⟨rfl, hu⟩; have HS := Lib.hid (HS.out.up hu); clear hu)))
  go_ret
  exact ⟨rfl, HS.out.u⟩

set_option maxRecDepth 100000 in
set_option maxHeartbeats 8000000 in
theorem tells_in_low {w : World} {rb : Nat} {s : ByteArray} (hr : RopeIs w rb s) (i : Nat) (k : Int) (f u : Int) (hi : i < s.size) (hf : f < 0) :
    Calls Tryd.prog 11 #[.pointer (some ⟨rb, 0, none⟩), .string s, .int .i64 (i : Nat), .int .i64 k, .int .i64 f, .int .i64 u] w fun e w' => e = .returned (.bool true) ∧ Up w w' := by
  have hz := hr.size
  have HZ := Lib.hid hz
  have HS := Lib.hid (show St0 w rb s w from ⟨hr, Up.refl w⟩)
  have hnl := nl_le s
  have hnli : (nl s : Int) ≤ 1048576 := by omega
  have hdg := digs_le s.size s.size (Nat.le_refl _)
  have hdgi : (digs s.size : Int) ≤ 1048576 := by omega
  have HB := Lib.hid (fun (W : World) (h : RopeIs W rb s) => byte_ix h i hi)
  have HC := Lib.hid (fun (W : World) (h : RopeIs W rb s) => slice_out h f u (by omega))
  clear hr hz hnl hdg
  go_enter Tryd.func11, Tryd.ntmps11
  go_wp2_with (first
    | (go_at_call 17; ((with_reducible refine (rope_len_any HS.out.r).mono ?_); rintro e w1 ⟨rfl, hu⟩; have HS := Lib.hid (HS.out.up hu); clear hu))
    | (go_at_call 16; ((with_reducible refine (text_any HS.out.r).mono ?_); rintro e w2 ⟨rfl, hu⟩; have HS := Lib.hid (HS.out.up hu); clear hu))
    | (go_at_call 22; ((with_reducible refine (rope_lines_any HS.out.r).mono ?_); rintro e w3 ⟨rfl, hu⟩; have HS := Lib.hid (HS.out.up hu); clear hu))
    | (go_at_call 25; ((with_reducible refine (refLines_at s HZ.out _).mono ?_); rintro e w4 ⟨g, cap, rfl, hg, hu, -⟩; have HS := Lib.hid (HS.out.up hu); clear hu hg))
    | (go_at_call 23; ((with_reducible refine (depthT HS.out.r).mono ?_); rintro e w5 ⟨⟨d, rfl, d0, d1⟩, rfl⟩))
    | (go_at_call 26; ((with_reducible refine (digits_any s.size HZ.out _).mono ?_); rintro e w6 ⟨rfl, rfl⟩))
    | (go_at_call 20; ((with_reducible refine (lineT HS.out.r k).mono ?_); rintro e w7 ⟨rfl, hu⟩; have HS := Lib.hid (HS.out.up (hu.trans (Up.alloc w7 (.cells #[.int .i64 (lnF s k), .int .i64 (lnT s k)] 45)))); have HR := rg_cells w7 (lnF s k) (lnT s k); clear hu))
    | (go_at_call 27; ((with_reducible refine (refLineT s HZ.out k _).mono ?_); rintro e w8 ⟨rfl, hu⟩; have HS := Lib.hid (HS.out.up (hu.trans (Up.alloc w8 (.cells #[.int .i64 (lnF s k), .int .i64 (lnT s k)] 45)))); have HR := HR.up (hu.trans (Up.alloc w8 (.cells #[.int .i64 (lnF s k), .int .i64 (lnT s k)] 45))); have HQ := rg_cells w8 (lnF s k) (lnT s k); clear hu))
    | (go_at_call 21; ((with_reducible refine (findT HS.out.r i).mono ?_); rintro e w9 ⟨rfl, hu⟩; have HS := Lib.hid (HS.out.up hu); obtain ⟨k0, k1, -⟩ := HR.up hu; obtain ⟨k2, k3, -⟩ := HQ.up hu; clear hu))
    | (go_at_call 28; ((with_reducible refine (refFindT s HZ.out i _).mono ?_); rintro e wA ⟨rfl, rfl⟩))
    | (go_at_call 18; ((with_reducible refine (HB.out _ HS.out.r).mono ?_); rintro e wB ⟨rfl, hu⟩; have HS := Lib.hid (HS.out.up hu); clear hu))
    | (go_at_call 19; ((with_reducible refine (HC.out _ HS.out.r).mono ?_); rintro e wC ⟨rfl, hu⟩; have HS := Lib.hid (HS.out.up hu); clear hu)))
  go_ret
  exact ⟨rfl, HS.out.u⟩

set_option maxRecDepth 100000 in
set_option maxHeartbeats 8000000 in
theorem tells_in_past {w : World} {rb : Nat} {s : ByteArray} (hr : RopeIs w rb s) (i : Nat) (k : Int) (f u : Int) (hi : i < s.size) (hf : 0 ≤ f) (hu : (s.size : Int) < u) :
    Calls Tryd.prog 11 #[.pointer (some ⟨rb, 0, none⟩), .string s, .int .i64 (i : Nat), .int .i64 k, .int .i64 f, .int .i64 u] w fun e w' => e = .returned (.bool true) ∧ Up w w' := by
  have hz := hr.size
  have HZ := Lib.hid hz
  have HS := Lib.hid (show St0 w rb s w from ⟨hr, Up.refl w⟩)
  have hnl := nl_le s
  have hnli : (nl s : Int) ≤ 1048576 := by omega
  have hdg := digs_le s.size s.size (Nat.le_refl _)
  have hdgi : (digs s.size : Int) ≤ 1048576 := by omega
  have HB := Lib.hid (fun (W : World) (h : RopeIs W rb s) => byte_ix h i hi)
  have HC := Lib.hid (fun (W : World) (h : RopeIs W rb s) => slice_out h f u (by omega))
  have ff0 : decide (f < 0) = false := decide_eq_false (by omega)
  clear hr hz hnl hdg
  go_enter Tryd.func11, Tryd.ntmps11
  go_wp2_with (first
    | (go_at_call 17; ((with_reducible refine (rope_len_any HS.out.r).mono ?_); rintro e w1 ⟨rfl, hu⟩; have HS := Lib.hid (HS.out.up hu); clear hu))
    | (go_at_call 16; ((with_reducible refine (text_any HS.out.r).mono ?_); rintro e w2 ⟨rfl, hu⟩; have HS := Lib.hid (HS.out.up hu); clear hu))
    | (go_at_call 22; ((with_reducible refine (rope_lines_any HS.out.r).mono ?_); rintro e w3 ⟨rfl, hu⟩; have HS := Lib.hid (HS.out.up hu); clear hu))
    | (go_at_call 25; ((with_reducible refine (refLines_at s HZ.out _).mono ?_); rintro e w4 ⟨g, cap, rfl, hg, hu, -⟩; have HS := Lib.hid (HS.out.up hu); clear hu hg))
    | (go_at_call 23; ((with_reducible refine (depthT HS.out.r).mono ?_); rintro e w5 ⟨⟨d, rfl, d0, d1⟩, rfl⟩))
    | (go_at_call 26; ((with_reducible refine (digits_any s.size HZ.out _).mono ?_); rintro e w6 ⟨rfl, rfl⟩))
    | (go_at_call 20; ((with_reducible refine (lineT HS.out.r k).mono ?_); rintro e w7 ⟨rfl, hu⟩; have HS := Lib.hid (HS.out.up (hu.trans (Up.alloc w7 (.cells #[.int .i64 (lnF s k), .int .i64 (lnT s k)] 45)))); have HR := rg_cells w7 (lnF s k) (lnT s k); clear hu))
    | (go_at_call 27; ((with_reducible refine (refLineT s HZ.out k _).mono ?_); rintro e w8 ⟨rfl, hu⟩; have HS := Lib.hid (HS.out.up (hu.trans (Up.alloc w8 (.cells #[.int .i64 (lnF s k), .int .i64 (lnT s k)] 45)))); have HR := HR.up (hu.trans (Up.alloc w8 (.cells #[.int .i64 (lnF s k), .int .i64 (lnT s k)] 45))); have HQ := rg_cells w8 (lnF s k) (lnT s k); clear hu))
    | (go_at_call 21; ((with_reducible refine (findT HS.out.r i).mono ?_); rintro e w9 ⟨rfl, hu⟩; have HS := Lib.hid (HS.out.up hu); obtain ⟨k0, k1, -⟩ := HR.up hu; obtain ⟨k2, k3, -⟩ := HQ.up hu; clear hu))
    | (go_at_call 28; ((with_reducible refine (refFindT s HZ.out i _).mono ?_); rintro e wA ⟨rfl, rfl⟩))
    | (go_at_call 18; ((with_reducible refine (HB.out _ HS.out.r).mono ?_); rintro e wB ⟨rfl, hu⟩; have HS := Lib.hid (HS.out.up hu); clear hu))
    | (go_at_call 19; ((with_reducible refine (HC.out _ HS.out.r).mono ?_); rintro e wC ⟨rfl, hu⟩; have HS := Lib.hid (HS.out.up hu); clear hu)))
  go_ret
  exact ⟨rfl, HS.out.u⟩

set_option maxRecDepth 100000 in
set_option maxHeartbeats 8000000 in
theorem tells_in_rev {w : World} {rb : Nat} {s : ByteArray} (hr : RopeIs w rb s) (i : Nat) (k : Int) (f u : Int) (hi : i < s.size) (hf : 0 ≤ f) (hu : u ≤ (s.size : Int)) (hr2 : u < f) :
    Calls Tryd.prog 11 #[.pointer (some ⟨rb, 0, none⟩), .string s, .int .i64 (i : Nat), .int .i64 k, .int .i64 f, .int .i64 u] w fun e w' => e = .returned (.bool true) ∧ Up w w' := by
  have hz := hr.size
  have HZ := Lib.hid hz
  have HS := Lib.hid (show St0 w rb s w from ⟨hr, Up.refl w⟩)
  have hnl := nl_le s
  have hnli : (nl s : Int) ≤ 1048576 := by omega
  have hdg := digs_le s.size s.size (Nat.le_refl _)
  have hdgi : (digs s.size : Int) ≤ 1048576 := by omega
  have HB := Lib.hid (fun (W : World) (h : RopeIs W rb s) => byte_ix h i hi)
  have HC := Lib.hid (fun (W : World) (h : RopeIs W rb s) => slice_out h f u (by omega))
  have ff0 : decide (f < 0) = false := decide_eq_false (by omega)
  have ff1 : decide ((s.size : Int) < u) = false := decide_eq_false (by omega)
  clear hr hz hnl hdg
  go_enter Tryd.func11, Tryd.ntmps11
  go_wp2_with (first
    | (go_at_call 17; ((with_reducible refine (rope_len_any HS.out.r).mono ?_); rintro e w1 ⟨rfl, hu⟩; have HS := Lib.hid (HS.out.up hu); clear hu))
    | (go_at_call 16; ((with_reducible refine (text_any HS.out.r).mono ?_); rintro e w2 ⟨rfl, hu⟩; have HS := Lib.hid (HS.out.up hu); clear hu))
    | (go_at_call 22; ((with_reducible refine (rope_lines_any HS.out.r).mono ?_); rintro e w3 ⟨rfl, hu⟩; have HS := Lib.hid (HS.out.up hu); clear hu))
    | (go_at_call 25; ((with_reducible refine (refLines_at s HZ.out _).mono ?_); rintro e w4 ⟨g, cap, rfl, hg, hu, -⟩; have HS := Lib.hid (HS.out.up hu); clear hu hg))
    | (go_at_call 23; ((with_reducible refine (depthT HS.out.r).mono ?_); rintro e w5 ⟨⟨d, rfl, d0, d1⟩, rfl⟩))
    | (go_at_call 26; ((with_reducible refine (digits_any s.size HZ.out _).mono ?_); rintro e w6 ⟨rfl, rfl⟩))
    | (go_at_call 20; ((with_reducible refine (lineT HS.out.r k).mono ?_); rintro e w7 ⟨rfl, hu⟩; have HS := Lib.hid (HS.out.up (hu.trans (Up.alloc w7 (.cells #[.int .i64 (lnF s k), .int .i64 (lnT s k)] 45)))); have HR := rg_cells w7 (lnF s k) (lnT s k); clear hu))
    | (go_at_call 27; ((with_reducible refine (refLineT s HZ.out k _).mono ?_); rintro e w8 ⟨rfl, hu⟩; have HS := Lib.hid (HS.out.up (hu.trans (Up.alloc w8 (.cells #[.int .i64 (lnF s k), .int .i64 (lnT s k)] 45)))); have HR := HR.up (hu.trans (Up.alloc w8 (.cells #[.int .i64 (lnF s k), .int .i64 (lnT s k)] 45))); have HQ := rg_cells w8 (lnF s k) (lnT s k); clear hu))
    | (go_at_call 21; ((with_reducible refine (findT HS.out.r i).mono ?_); rintro e w9 ⟨rfl, hu⟩; have HS := Lib.hid (HS.out.up hu); obtain ⟨k0, k1, -⟩ := HR.up hu; obtain ⟨k2, k3, -⟩ := HQ.up hu; clear hu))
    | (go_at_call 28; ((with_reducible refine (refFindT s HZ.out i _).mono ?_); rintro e wA ⟨rfl, rfl⟩))
    | (go_at_call 18; ((with_reducible refine (HB.out _ HS.out.r).mono ?_); rintro e wB ⟨rfl, hu⟩; have HS := Lib.hid (HS.out.up hu); clear hu))
    | (go_at_call 19; ((with_reducible refine (HC.out _ HS.out.r).mono ?_); rintro e wC ⟨rfl, hu⟩; have HS := Lib.hid (HS.out.up hu); clear hu)))
  go_ret
  exact ⟨rfl, HS.out.u⟩

set_option maxRecDepth 100000 in
set_option maxHeartbeats 8000000 in
theorem tells_low_in {w : World} {rb : Nat} {s : ByteArray} (hr : RopeIs w rb s) (a : Int) (k : Int) (f u : Nat) (ha : a < 0) (hfu : f ≤ u) (hus : u ≤ s.size) :
    Calls Tryd.prog 11 #[.pointer (some ⟨rb, 0, none⟩), .string s, .int .i64 a, .int .i64 k, .int .i64 (f : Nat), .int .i64 (u : Nat)] w fun e w' => e = .returned (.bool true) ∧ Up w w' := by
  have hz := hr.size
  have HZ := Lib.hid hz
  have HS := Lib.hid (show St0 w rb s w from ⟨hr, Up.refl w⟩)
  have hnl := nl_le s
  have hnli : (nl s : Int) ≤ 1048576 := by omega
  have hdg := digs_le s.size s.size (Nat.le_refl _)
  have hdgi : (digs s.size : Int) ≤ 1048576 := by omega
  have HB := Lib.hid (fun (W : World) (h : RopeIs W rb s) => byte_out h a (by omega))
  have HC := Lib.hid (fun (W : World) (h : RopeIs W rb s) => slice_in h f u hfu hus)
  have fa0 : decide (0 ≤ a) = false := decide_eq_false (by omega)
  clear hr hz hnl hdg
  go_enter Tryd.func11, Tryd.ntmps11
  go_wp2_with (first
    | (go_at_call 17; ((with_reducible refine (rope_len_any HS.out.r).mono ?_); rintro e w1 ⟨rfl, hu⟩; have HS := Lib.hid (HS.out.up hu); clear hu))
    | (go_at_call 16; ((with_reducible refine (text_any HS.out.r).mono ?_); rintro e w2 ⟨rfl, hu⟩; have HS := Lib.hid (HS.out.up hu); clear hu))
    | (go_at_call 22; ((with_reducible refine (rope_lines_any HS.out.r).mono ?_); rintro e w3 ⟨rfl, hu⟩; have HS := Lib.hid (HS.out.up hu); clear hu))
    | (go_at_call 25; ((with_reducible refine (refLines_at s HZ.out _).mono ?_); rintro e w4 ⟨g, cap, rfl, hg, hu, -⟩; have HS := Lib.hid (HS.out.up hu); clear hu hg))
    | (go_at_call 23; ((with_reducible refine (depthT HS.out.r).mono ?_); rintro e w5 ⟨⟨d, rfl, d0, d1⟩, rfl⟩))
    | (go_at_call 26; ((with_reducible refine (digits_any s.size HZ.out _).mono ?_); rintro e w6 ⟨rfl, rfl⟩))
    | (go_at_call 20; ((with_reducible refine (lineT HS.out.r k).mono ?_); rintro e w7 ⟨rfl, hu⟩; have HS := Lib.hid (HS.out.up (hu.trans (Up.alloc w7 (.cells #[.int .i64 (lnF s k), .int .i64 (lnT s k)] 45)))); have HR := rg_cells w7 (lnF s k) (lnT s k); clear hu))
    | (go_at_call 27; ((with_reducible refine (refLineT s HZ.out k _).mono ?_); rintro e w8 ⟨rfl, hu⟩; have HS := Lib.hid (HS.out.up (hu.trans (Up.alloc w8 (.cells #[.int .i64 (lnF s k), .int .i64 (lnT s k)] 45)))); have HR := HR.up (hu.trans (Up.alloc w8 (.cells #[.int .i64 (lnF s k), .int .i64 (lnT s k)] 45))); have HQ := rg_cells w8 (lnF s k) (lnT s k); clear hu))
    | (go_at_call 21; ((with_reducible refine (findT HS.out.r a).mono ?_); rintro e w9 ⟨rfl, hu⟩; have HS := Lib.hid (HS.out.up hu); obtain ⟨k0, k1, -⟩ := HR.up hu; obtain ⟨k2, k3, -⟩ := HQ.up hu; clear hu))
    | (go_at_call 28; ((with_reducible refine (refFindT s HZ.out a _).mono ?_); rintro e wA ⟨rfl, rfl⟩))
    | (go_at_call 18; ((with_reducible refine (HB.out _ HS.out.r).mono ?_); rintro e wB ⟨rfl, hu⟩; have HS := Lib.hid (HS.out.up hu); clear hu))
    | (go_at_call 19; ((with_reducible refine (HC.out _ HS.out.r).mono ?_); rintro e wC ⟨rfl, hu⟩; have HS := Lib.hid (HS.out.up hu); clear hu)))
  go_ret
  exact ⟨rfl, HS.out.u⟩

set_option maxRecDepth 100000 in
set_option maxHeartbeats 8000000 in
theorem tells_low_low {w : World} {rb : Nat} {s : ByteArray} (hr : RopeIs w rb s) (a : Int) (k : Int) (f u : Int) (ha : a < 0) (hf : f < 0) :
    Calls Tryd.prog 11 #[.pointer (some ⟨rb, 0, none⟩), .string s, .int .i64 a, .int .i64 k, .int .i64 f, .int .i64 u] w fun e w' => e = .returned (.bool true) ∧ Up w w' := by
  have hz := hr.size
  have HZ := Lib.hid hz
  have HS := Lib.hid (show St0 w rb s w from ⟨hr, Up.refl w⟩)
  have hnl := nl_le s
  have hnli : (nl s : Int) ≤ 1048576 := by omega
  have hdg := digs_le s.size s.size (Nat.le_refl _)
  have hdgi : (digs s.size : Int) ≤ 1048576 := by omega
  have HB := Lib.hid (fun (W : World) (h : RopeIs W rb s) => byte_out h a (by omega))
  have HC := Lib.hid (fun (W : World) (h : RopeIs W rb s) => slice_out h f u (by omega))
  have fa0 : decide (0 ≤ a) = false := decide_eq_false (by omega)
  clear hr hz hnl hdg
  go_enter Tryd.func11, Tryd.ntmps11
  go_wp2_with (first
    | (go_at_call 17; ((with_reducible refine (rope_len_any HS.out.r).mono ?_); rintro e w1 ⟨rfl, hu⟩; have HS := Lib.hid (HS.out.up hu); clear hu))
    | (go_at_call 16; ((with_reducible refine (text_any HS.out.r).mono ?_); rintro e w2 ⟨rfl, hu⟩; have HS := Lib.hid (HS.out.up hu); clear hu))
    | (go_at_call 22; ((with_reducible refine (rope_lines_any HS.out.r).mono ?_); rintro e w3 ⟨rfl, hu⟩; have HS := Lib.hid (HS.out.up hu); clear hu))
    | (go_at_call 25; ((with_reducible refine (refLines_at s HZ.out _).mono ?_); rintro e w4 ⟨g, cap, rfl, hg, hu, -⟩; have HS := Lib.hid (HS.out.up hu); clear hu hg))
    | (go_at_call 23; ((with_reducible refine (depthT HS.out.r).mono ?_); rintro e w5 ⟨⟨d, rfl, d0, d1⟩, rfl⟩))
    | (go_at_call 26; ((with_reducible refine (digits_any s.size HZ.out _).mono ?_); rintro e w6 ⟨rfl, rfl⟩))
    | (go_at_call 20; ((with_reducible refine (lineT HS.out.r k).mono ?_); rintro e w7 ⟨rfl, hu⟩; have HS := Lib.hid (HS.out.up (hu.trans (Up.alloc w7 (.cells #[.int .i64 (lnF s k), .int .i64 (lnT s k)] 45)))); have HR := rg_cells w7 (lnF s k) (lnT s k); clear hu))
    | (go_at_call 27; ((with_reducible refine (refLineT s HZ.out k _).mono ?_); rintro e w8 ⟨rfl, hu⟩; have HS := Lib.hid (HS.out.up (hu.trans (Up.alloc w8 (.cells #[.int .i64 (lnF s k), .int .i64 (lnT s k)] 45)))); have HR := HR.up (hu.trans (Up.alloc w8 (.cells #[.int .i64 (lnF s k), .int .i64 (lnT s k)] 45))); have HQ := rg_cells w8 (lnF s k) (lnT s k); clear hu))
    | (go_at_call 21; ((with_reducible refine (findT HS.out.r a).mono ?_); rintro e w9 ⟨rfl, hu⟩; have HS := Lib.hid (HS.out.up hu); obtain ⟨k0, k1, -⟩ := HR.up hu; obtain ⟨k2, k3, -⟩ := HQ.up hu; clear hu))
    | (go_at_call 28; ((with_reducible refine (refFindT s HZ.out a _).mono ?_); rintro e wA ⟨rfl, rfl⟩))
    | (go_at_call 18; ((with_reducible refine (HB.out _ HS.out.r).mono ?_); rintro e wB ⟨rfl, hu⟩; have HS := Lib.hid (HS.out.up hu); clear hu))
    | (go_at_call 19; ((with_reducible refine (HC.out _ HS.out.r).mono ?_); rintro e wC ⟨rfl, hu⟩; have HS := Lib.hid (HS.out.up hu); clear hu)))
  go_ret
  exact ⟨rfl, HS.out.u⟩

set_option maxRecDepth 100000 in
set_option maxHeartbeats 8000000 in
theorem tells_low_past {w : World} {rb : Nat} {s : ByteArray} (hr : RopeIs w rb s) (a : Int) (k : Int) (f u : Int) (ha : a < 0) (hf : 0 ≤ f) (hu : (s.size : Int) < u) :
    Calls Tryd.prog 11 #[.pointer (some ⟨rb, 0, none⟩), .string s, .int .i64 a, .int .i64 k, .int .i64 f, .int .i64 u] w fun e w' => e = .returned (.bool true) ∧ Up w w' := by
  have hz := hr.size
  have HZ := Lib.hid hz
  have HS := Lib.hid (show St0 w rb s w from ⟨hr, Up.refl w⟩)
  have hnl := nl_le s
  have hnli : (nl s : Int) ≤ 1048576 := by omega
  have hdg := digs_le s.size s.size (Nat.le_refl _)
  have hdgi : (digs s.size : Int) ≤ 1048576 := by omega
  have HB := Lib.hid (fun (W : World) (h : RopeIs W rb s) => byte_out h a (by omega))
  have HC := Lib.hid (fun (W : World) (h : RopeIs W rb s) => slice_out h f u (by omega))
  have fa0 : decide (0 ≤ a) = false := decide_eq_false (by omega)
  have ff0 : decide (f < 0) = false := decide_eq_false (by omega)
  clear hr hz hnl hdg
  go_enter Tryd.func11, Tryd.ntmps11
  go_wp2_with (first
    | (go_at_call 17; ((with_reducible refine (rope_len_any HS.out.r).mono ?_); rintro e w1 ⟨rfl, hu⟩; have HS := Lib.hid (HS.out.up hu); clear hu))
    | (go_at_call 16; ((with_reducible refine (text_any HS.out.r).mono ?_); rintro e w2 ⟨rfl, hu⟩; have HS := Lib.hid (HS.out.up hu); clear hu))
    | (go_at_call 22; ((with_reducible refine (rope_lines_any HS.out.r).mono ?_); rintro e w3 ⟨rfl, hu⟩; have HS := Lib.hid (HS.out.up hu); clear hu))
    | (go_at_call 25; ((with_reducible refine (refLines_at s HZ.out _).mono ?_); rintro e w4 ⟨g, cap, rfl, hg, hu, -⟩; have HS := Lib.hid (HS.out.up hu); clear hu hg))
    | (go_at_call 23; ((with_reducible refine (depthT HS.out.r).mono ?_); rintro e w5 ⟨⟨d, rfl, d0, d1⟩, rfl⟩))
    | (go_at_call 26; ((with_reducible refine (digits_any s.size HZ.out _).mono ?_); rintro e w6 ⟨rfl, rfl⟩))
    | (go_at_call 20; ((with_reducible refine (lineT HS.out.r k).mono ?_); rintro e w7 ⟨rfl, hu⟩; have HS := Lib.hid (HS.out.up (hu.trans (Up.alloc w7 (.cells #[.int .i64 (lnF s k), .int .i64 (lnT s k)] 45)))); have HR := rg_cells w7 (lnF s k) (lnT s k); clear hu))
    | (go_at_call 27; ((with_reducible refine (refLineT s HZ.out k _).mono ?_); rintro e w8 ⟨rfl, hu⟩; have HS := Lib.hid (HS.out.up (hu.trans (Up.alloc w8 (.cells #[.int .i64 (lnF s k), .int .i64 (lnT s k)] 45)))); have HR := HR.up (hu.trans (Up.alloc w8 (.cells #[.int .i64 (lnF s k), .int .i64 (lnT s k)] 45))); have HQ := rg_cells w8 (lnF s k) (lnT s k); clear hu))
    | (go_at_call 21; ((with_reducible refine (findT HS.out.r a).mono ?_); rintro e w9 ⟨rfl, hu⟩; have HS := Lib.hid (HS.out.up hu); obtain ⟨k0, k1, -⟩ := HR.up hu; obtain ⟨k2, k3, -⟩ := HQ.up hu; clear hu))
    | (go_at_call 28; ((with_reducible refine (refFindT s HZ.out a _).mono ?_); rintro e wA ⟨rfl, rfl⟩))
    | (go_at_call 18; ((with_reducible refine (HB.out _ HS.out.r).mono ?_); rintro e wB ⟨rfl, hu⟩; have HS := Lib.hid (HS.out.up hu); clear hu))
    | (go_at_call 19; ((with_reducible refine (HC.out _ HS.out.r).mono ?_); rintro e wC ⟨rfl, hu⟩; have HS := Lib.hid (HS.out.up hu); clear hu)))
  go_ret
  exact ⟨rfl, HS.out.u⟩

set_option maxRecDepth 100000 in
set_option maxHeartbeats 8000000 in
theorem tells_low_rev {w : World} {rb : Nat} {s : ByteArray} (hr : RopeIs w rb s) (a : Int) (k : Int) (f u : Int) (ha : a < 0) (hf : 0 ≤ f) (hu : u ≤ (s.size : Int)) (hr2 : u < f) :
    Calls Tryd.prog 11 #[.pointer (some ⟨rb, 0, none⟩), .string s, .int .i64 a, .int .i64 k, .int .i64 f, .int .i64 u] w fun e w' => e = .returned (.bool true) ∧ Up w w' := by
  have hz := hr.size
  have HZ := Lib.hid hz
  have HS := Lib.hid (show St0 w rb s w from ⟨hr, Up.refl w⟩)
  have hnl := nl_le s
  have hnli : (nl s : Int) ≤ 1048576 := by omega
  have hdg := digs_le s.size s.size (Nat.le_refl _)
  have hdgi : (digs s.size : Int) ≤ 1048576 := by omega
  have HB := Lib.hid (fun (W : World) (h : RopeIs W rb s) => byte_out h a (by omega))
  have HC := Lib.hid (fun (W : World) (h : RopeIs W rb s) => slice_out h f u (by omega))
  have fa0 : decide (0 ≤ a) = false := decide_eq_false (by omega)
  have ff0 : decide (f < 0) = false := decide_eq_false (by omega)
  have ff1 : decide ((s.size : Int) < u) = false := decide_eq_false (by omega)
  clear hr hz hnl hdg
  go_enter Tryd.func11, Tryd.ntmps11
  go_wp2_with (first
    | (go_at_call 17; ((with_reducible refine (rope_len_any HS.out.r).mono ?_); rintro e w1 ⟨rfl, hu⟩; have HS := Lib.hid (HS.out.up hu); clear hu))
    | (go_at_call 16; ((with_reducible refine (text_any HS.out.r).mono ?_); rintro e w2 ⟨rfl, hu⟩; have HS := Lib.hid (HS.out.up hu); clear hu))
    | (go_at_call 22; ((with_reducible refine (rope_lines_any HS.out.r).mono ?_); rintro e w3 ⟨rfl, hu⟩; have HS := Lib.hid (HS.out.up hu); clear hu))
    | (go_at_call 25; ((with_reducible refine (refLines_at s HZ.out _).mono ?_); rintro e w4 ⟨g, cap, rfl, hg, hu, -⟩; have HS := Lib.hid (HS.out.up hu); clear hu hg))
    | (go_at_call 23; ((with_reducible refine (depthT HS.out.r).mono ?_); rintro e w5 ⟨⟨d, rfl, d0, d1⟩, rfl⟩))
    | (go_at_call 26; ((with_reducible refine (digits_any s.size HZ.out _).mono ?_); rintro e w6 ⟨rfl, rfl⟩))
    | (go_at_call 20; ((with_reducible refine (lineT HS.out.r k).mono ?_); rintro e w7 ⟨rfl, hu⟩; have HS := Lib.hid (HS.out.up (hu.trans (Up.alloc w7 (.cells #[.int .i64 (lnF s k), .int .i64 (lnT s k)] 45)))); have HR := rg_cells w7 (lnF s k) (lnT s k); clear hu))
    | (go_at_call 27; ((with_reducible refine (refLineT s HZ.out k _).mono ?_); rintro e w8 ⟨rfl, hu⟩; have HS := Lib.hid (HS.out.up (hu.trans (Up.alloc w8 (.cells #[.int .i64 (lnF s k), .int .i64 (lnT s k)] 45)))); have HR := HR.up (hu.trans (Up.alloc w8 (.cells #[.int .i64 (lnF s k), .int .i64 (lnT s k)] 45))); have HQ := rg_cells w8 (lnF s k) (lnT s k); clear hu))
    | (go_at_call 21; ((with_reducible refine (findT HS.out.r a).mono ?_); rintro e w9 ⟨rfl, hu⟩; have HS := Lib.hid (HS.out.up hu); obtain ⟨k0, k1, -⟩ := HR.up hu; obtain ⟨k2, k3, -⟩ := HQ.up hu; clear hu))
    | (go_at_call 28; ((with_reducible refine (refFindT s HZ.out a _).mono ?_); rintro e wA ⟨rfl, rfl⟩))
    | (go_at_call 18; ((with_reducible refine (HB.out _ HS.out.r).mono ?_); rintro e wB ⟨rfl, hu⟩; have HS := Lib.hid (HS.out.up hu); clear hu))
    | (go_at_call 19; ((with_reducible refine (HC.out _ HS.out.r).mono ?_); rintro e wC ⟨rfl, hu⟩; have HS := Lib.hid (HS.out.up hu); clear hu)))
  go_ret
  exact ⟨rfl, HS.out.u⟩

set_option maxRecDepth 100000 in
set_option maxHeartbeats 8000000 in
theorem tells_high_in {w : World} {rb : Nat} {s : ByteArray} (hr : RopeIs w rb s) (a : Int) (k : Int) (f u : Nat) (ha0 : 0 ≤ a) (ha : (s.size : Int) ≤ a) (hfu : f ≤ u) (hus : u ≤ s.size) :
    Calls Tryd.prog 11 #[.pointer (some ⟨rb, 0, none⟩), .string s, .int .i64 a, .int .i64 k, .int .i64 (f : Nat), .int .i64 (u : Nat)] w fun e w' => e = .returned (.bool true) ∧ Up w w' := by
  have hz := hr.size
  have HZ := Lib.hid hz
  have HS := Lib.hid (show St0 w rb s w from ⟨hr, Up.refl w⟩)
  have hnl := nl_le s
  have hnli : (nl s : Int) ≤ 1048576 := by omega
  have hdg := digs_le s.size s.size (Nat.le_refl _)
  have hdgi : (digs s.size : Int) ≤ 1048576 := by omega
  have HB := Lib.hid (fun (W : World) (h : RopeIs W rb s) => byte_out h a (by omega))
  have HC := Lib.hid (fun (W : World) (h : RopeIs W rb s) => slice_in h f u hfu hus)
  have fa0 : decide (a < s.size) = false := decide_eq_false (by omega)
  have fa1 : decide (a < 0) = false := decide_eq_false (by omega)
  clear hr hz hnl hdg
  go_enter Tryd.func11, Tryd.ntmps11
  go_wp2_with (first
    | (go_at_call 17; ((with_reducible refine (rope_len_any HS.out.r).mono ?_); rintro e w1 ⟨rfl, hu⟩; have HS := Lib.hid (HS.out.up hu); clear hu))
    | (go_at_call 16; ((with_reducible refine (text_any HS.out.r).mono ?_); rintro e w2 ⟨rfl, hu⟩; have HS := Lib.hid (HS.out.up hu); clear hu))
    | (go_at_call 22; ((with_reducible refine (rope_lines_any HS.out.r).mono ?_); rintro e w3 ⟨rfl, hu⟩; have HS := Lib.hid (HS.out.up hu); clear hu))
    | (go_at_call 25; ((with_reducible refine (refLines_at s HZ.out _).mono ?_); rintro e w4 ⟨g, cap, rfl, hg, hu, -⟩; have HS := Lib.hid (HS.out.up hu); clear hu hg))
    | (go_at_call 23; ((with_reducible refine (depthT HS.out.r).mono ?_); rintro e w5 ⟨⟨d, rfl, d0, d1⟩, rfl⟩))
    | (go_at_call 26; ((with_reducible refine (digits_any s.size HZ.out _).mono ?_); rintro e w6 ⟨rfl, rfl⟩))
    | (go_at_call 20; ((with_reducible refine (lineT HS.out.r k).mono ?_); rintro e w7 ⟨rfl, hu⟩; have HS := Lib.hid (HS.out.up (hu.trans (Up.alloc w7 (.cells #[.int .i64 (lnF s k), .int .i64 (lnT s k)] 45)))); have HR := rg_cells w7 (lnF s k) (lnT s k); clear hu))
    | (go_at_call 27; ((with_reducible refine (refLineT s HZ.out k _).mono ?_); rintro e w8 ⟨rfl, hu⟩; have HS := Lib.hid (HS.out.up (hu.trans (Up.alloc w8 (.cells #[.int .i64 (lnF s k), .int .i64 (lnT s k)] 45)))); have HR := HR.up (hu.trans (Up.alloc w8 (.cells #[.int .i64 (lnF s k), .int .i64 (lnT s k)] 45))); have HQ := rg_cells w8 (lnF s k) (lnT s k); clear hu))
    | (go_at_call 21; ((with_reducible refine (findT HS.out.r a).mono ?_); rintro e w9 ⟨rfl, hu⟩; have HS := Lib.hid (HS.out.up hu); obtain ⟨k0, k1, -⟩ := HR.up hu; obtain ⟨k2, k3, -⟩ := HQ.up hu; clear hu))
    | (go_at_call 28; ((with_reducible refine (refFindT s HZ.out a _).mono ?_); rintro e wA ⟨rfl, rfl⟩))
    | (go_at_call 18; ((with_reducible refine (HB.out _ HS.out.r).mono ?_); rintro e wB ⟨rfl, hu⟩; have HS := Lib.hid (HS.out.up hu); clear hu))
    | (go_at_call 19; ((with_reducible refine (HC.out _ HS.out.r).mono ?_); rintro e wC ⟨rfl, hu⟩; have HS := Lib.hid (HS.out.up hu); clear hu)))
  go_ret
  exact ⟨rfl, HS.out.u⟩

set_option maxRecDepth 100000 in
set_option maxHeartbeats 8000000 in
theorem tells_high_low {w : World} {rb : Nat} {s : ByteArray} (hr : RopeIs w rb s) (a : Int) (k : Int) (f u : Int) (ha0 : 0 ≤ a) (ha : (s.size : Int) ≤ a) (hf : f < 0) :
    Calls Tryd.prog 11 #[.pointer (some ⟨rb, 0, none⟩), .string s, .int .i64 a, .int .i64 k, .int .i64 f, .int .i64 u] w fun e w' => e = .returned (.bool true) ∧ Up w w' := by
  have hz := hr.size
  have HZ := Lib.hid hz
  have HS := Lib.hid (show St0 w rb s w from ⟨hr, Up.refl w⟩)
  have hnl := nl_le s
  have hnli : (nl s : Int) ≤ 1048576 := by omega
  have hdg := digs_le s.size s.size (Nat.le_refl _)
  have hdgi : (digs s.size : Int) ≤ 1048576 := by omega
  have HB := Lib.hid (fun (W : World) (h : RopeIs W rb s) => byte_out h a (by omega))
  have HC := Lib.hid (fun (W : World) (h : RopeIs W rb s) => slice_out h f u (by omega))
  have fa0 : decide (a < s.size) = false := decide_eq_false (by omega)
  have fa1 : decide (a < 0) = false := decide_eq_false (by omega)
  clear hr hz hnl hdg
  go_enter Tryd.func11, Tryd.ntmps11
  go_wp2_with (first
    | (go_at_call 17; ((with_reducible refine (rope_len_any HS.out.r).mono ?_); rintro e w1 ⟨rfl, hu⟩; have HS := Lib.hid (HS.out.up hu); clear hu))
    | (go_at_call 16; ((with_reducible refine (text_any HS.out.r).mono ?_); rintro e w2 ⟨rfl, hu⟩; have HS := Lib.hid (HS.out.up hu); clear hu))
    | (go_at_call 22; ((with_reducible refine (rope_lines_any HS.out.r).mono ?_); rintro e w3 ⟨rfl, hu⟩; have HS := Lib.hid (HS.out.up hu); clear hu))
    | (go_at_call 25; ((with_reducible refine (refLines_at s HZ.out _).mono ?_); rintro e w4 ⟨g, cap, rfl, hg, hu, -⟩; have HS := Lib.hid (HS.out.up hu); clear hu hg))
    | (go_at_call 23; ((with_reducible refine (depthT HS.out.r).mono ?_); rintro e w5 ⟨⟨d, rfl, d0, d1⟩, rfl⟩))
    | (go_at_call 26; ((with_reducible refine (digits_any s.size HZ.out _).mono ?_); rintro e w6 ⟨rfl, rfl⟩))
    | (go_at_call 20; ((with_reducible refine (lineT HS.out.r k).mono ?_); rintro e w7 ⟨rfl, hu⟩; have HS := Lib.hid (HS.out.up (hu.trans (Up.alloc w7 (.cells #[.int .i64 (lnF s k), .int .i64 (lnT s k)] 45)))); have HR := rg_cells w7 (lnF s k) (lnT s k); clear hu))
    | (go_at_call 27; ((with_reducible refine (refLineT s HZ.out k _).mono ?_); rintro e w8 ⟨rfl, hu⟩; have HS := Lib.hid (HS.out.up (hu.trans (Up.alloc w8 (.cells #[.int .i64 (lnF s k), .int .i64 (lnT s k)] 45)))); have HR := HR.up (hu.trans (Up.alloc w8 (.cells #[.int .i64 (lnF s k), .int .i64 (lnT s k)] 45))); have HQ := rg_cells w8 (lnF s k) (lnT s k); clear hu))
    | (go_at_call 21; ((with_reducible refine (findT HS.out.r a).mono ?_); rintro e w9 ⟨rfl, hu⟩; have HS := Lib.hid (HS.out.up hu); obtain ⟨k0, k1, -⟩ := HR.up hu; obtain ⟨k2, k3, -⟩ := HQ.up hu; clear hu))
    | (go_at_call 28; ((with_reducible refine (refFindT s HZ.out a _).mono ?_); rintro e wA ⟨rfl, rfl⟩))
    | (go_at_call 18; ((with_reducible refine (HB.out _ HS.out.r).mono ?_); rintro e wB ⟨rfl, hu⟩; have HS := Lib.hid (HS.out.up hu); clear hu))
    | (go_at_call 19; ((with_reducible refine (HC.out _ HS.out.r).mono ?_); rintro e wC ⟨rfl, hu⟩; have HS := Lib.hid (HS.out.up hu); clear hu)))
  go_ret
  exact ⟨rfl, HS.out.u⟩

set_option maxRecDepth 100000 in
set_option maxHeartbeats 8000000 in
theorem tells_high_past {w : World} {rb : Nat} {s : ByteArray} (hr : RopeIs w rb s) (a : Int) (k : Int) (f u : Int) (ha0 : 0 ≤ a) (ha : (s.size : Int) ≤ a) (hf : 0 ≤ f) (hu : (s.size : Int) < u) :
    Calls Tryd.prog 11 #[.pointer (some ⟨rb, 0, none⟩), .string s, .int .i64 a, .int .i64 k, .int .i64 f, .int .i64 u] w fun e w' => e = .returned (.bool true) ∧ Up w w' := by
  have hz := hr.size
  have HZ := Lib.hid hz
  have HS := Lib.hid (show St0 w rb s w from ⟨hr, Up.refl w⟩)
  have hnl := nl_le s
  have hnli : (nl s : Int) ≤ 1048576 := by omega
  have hdg := digs_le s.size s.size (Nat.le_refl _)
  have hdgi : (digs s.size : Int) ≤ 1048576 := by omega
  have HB := Lib.hid (fun (W : World) (h : RopeIs W rb s) => byte_out h a (by omega))
  have HC := Lib.hid (fun (W : World) (h : RopeIs W rb s) => slice_out h f u (by omega))
  have fa0 : decide (a < s.size) = false := decide_eq_false (by omega)
  have fa1 : decide (a < 0) = false := decide_eq_false (by omega)
  have ff0 : decide (f < 0) = false := decide_eq_false (by omega)
  clear hr hz hnl hdg
  go_enter Tryd.func11, Tryd.ntmps11
  go_wp2_with (first
    | (go_at_call 17; ((with_reducible refine (rope_len_any HS.out.r).mono ?_); rintro e w1 ⟨rfl, hu⟩; have HS := Lib.hid (HS.out.up hu); clear hu))
    | (go_at_call 16; ((with_reducible refine (text_any HS.out.r).mono ?_); rintro e w2 ⟨rfl, hu⟩; have HS := Lib.hid (HS.out.up hu); clear hu))
    | (go_at_call 22; ((with_reducible refine (rope_lines_any HS.out.r).mono ?_); rintro e w3 ⟨rfl, hu⟩; have HS := Lib.hid (HS.out.up hu); clear hu))
    | (go_at_call 25; ((with_reducible refine (refLines_at s HZ.out _).mono ?_); rintro e w4 ⟨g, cap, rfl, hg, hu, -⟩; have HS := Lib.hid (HS.out.up hu); clear hu hg))
    | (go_at_call 23; ((with_reducible refine (depthT HS.out.r).mono ?_); rintro e w5 ⟨⟨d, rfl, d0, d1⟩, rfl⟩))
    | (go_at_call 26; ((with_reducible refine (digits_any s.size HZ.out _).mono ?_); rintro e w6 ⟨rfl, rfl⟩))
    | (go_at_call 20; ((with_reducible refine (lineT HS.out.r k).mono ?_); rintro e w7 ⟨rfl, hu⟩; have HS := Lib.hid (HS.out.up (hu.trans (Up.alloc w7 (.cells #[.int .i64 (lnF s k), .int .i64 (lnT s k)] 45)))); have HR := rg_cells w7 (lnF s k) (lnT s k); clear hu))
    | (go_at_call 27; ((with_reducible refine (refLineT s HZ.out k _).mono ?_); rintro e w8 ⟨rfl, hu⟩; have HS := Lib.hid (HS.out.up (hu.trans (Up.alloc w8 (.cells #[.int .i64 (lnF s k), .int .i64 (lnT s k)] 45)))); have HR := HR.up (hu.trans (Up.alloc w8 (.cells #[.int .i64 (lnF s k), .int .i64 (lnT s k)] 45))); have HQ := rg_cells w8 (lnF s k) (lnT s k); clear hu))
    | (go_at_call 21; ((with_reducible refine (findT HS.out.r a).mono ?_); rintro e w9 ⟨rfl, hu⟩; have HS := Lib.hid (HS.out.up hu); obtain ⟨k0, k1, -⟩ := HR.up hu; obtain ⟨k2, k3, -⟩ := HQ.up hu; clear hu))
    | (go_at_call 28; ((with_reducible refine (refFindT s HZ.out a _).mono ?_); rintro e wA ⟨rfl, rfl⟩))
    | (go_at_call 18; ((with_reducible refine (HB.out _ HS.out.r).mono ?_); rintro e wB ⟨rfl, hu⟩; have HS := Lib.hid (HS.out.up hu); clear hu))
    | (go_at_call 19; ((with_reducible refine (HC.out _ HS.out.r).mono ?_); rintro e wC ⟨rfl, hu⟩; have HS := Lib.hid (HS.out.up hu); clear hu)))
  go_ret
  exact ⟨rfl, HS.out.u⟩

set_option maxRecDepth 100000 in
set_option maxHeartbeats 8000000 in
theorem tells_high_rev {w : World} {rb : Nat} {s : ByteArray} (hr : RopeIs w rb s) (a : Int) (k : Int) (f u : Int) (ha0 : 0 ≤ a) (ha : (s.size : Int) ≤ a) (hf : 0 ≤ f) (hu : u ≤ (s.size : Int)) (hr2 : u < f) :
    Calls Tryd.prog 11 #[.pointer (some ⟨rb, 0, none⟩), .string s, .int .i64 a, .int .i64 k, .int .i64 f, .int .i64 u] w fun e w' => e = .returned (.bool true) ∧ Up w w' := by
  have hz := hr.size
  have HZ := Lib.hid hz
  have HS := Lib.hid (show St0 w rb s w from ⟨hr, Up.refl w⟩)
  have hnl := nl_le s
  have hnli : (nl s : Int) ≤ 1048576 := by omega
  have hdg := digs_le s.size s.size (Nat.le_refl _)
  have hdgi : (digs s.size : Int) ≤ 1048576 := by omega
  have HB := Lib.hid (fun (W : World) (h : RopeIs W rb s) => byte_out h a (by omega))
  have HC := Lib.hid (fun (W : World) (h : RopeIs W rb s) => slice_out h f u (by omega))
  have fa0 : decide (a < s.size) = false := decide_eq_false (by omega)
  have fa1 : decide (a < 0) = false := decide_eq_false (by omega)
  have ff0 : decide (f < 0) = false := decide_eq_false (by omega)
  have ff1 : decide ((s.size : Int) < u) = false := decide_eq_false (by omega)
  clear hr hz hnl hdg
  go_enter Tryd.func11, Tryd.ntmps11
  go_wp2_with (first
    | (go_at_call 17; ((with_reducible refine (rope_len_any HS.out.r).mono ?_); rintro e w1 ⟨rfl, hu⟩; have HS := Lib.hid (HS.out.up hu); clear hu))
    | (go_at_call 16; ((with_reducible refine (text_any HS.out.r).mono ?_); rintro e w2 ⟨rfl, hu⟩; have HS := Lib.hid (HS.out.up hu); clear hu))
    | (go_at_call 22; ((with_reducible refine (rope_lines_any HS.out.r).mono ?_); rintro e w3 ⟨rfl, hu⟩; have HS := Lib.hid (HS.out.up hu); clear hu))
    | (go_at_call 25; ((with_reducible refine (refLines_at s HZ.out _).mono ?_); rintro e w4 ⟨g, cap, rfl, hg, hu, -⟩; have HS := Lib.hid (HS.out.up hu); clear hu hg))
    | (go_at_call 23; ((with_reducible refine (depthT HS.out.r).mono ?_); rintro e w5 ⟨⟨d, rfl, d0, d1⟩, rfl⟩))
    | (go_at_call 26; ((with_reducible refine (digits_any s.size HZ.out _).mono ?_); rintro e w6 ⟨rfl, rfl⟩))
    | (go_at_call 20; ((with_reducible refine (lineT HS.out.r k).mono ?_); rintro e w7 ⟨rfl, hu⟩; have HS := Lib.hid (HS.out.up (hu.trans (Up.alloc w7 (.cells #[.int .i64 (lnF s k), .int .i64 (lnT s k)] 45)))); have HR := rg_cells w7 (lnF s k) (lnT s k); clear hu))
    | (go_at_call 27; ((with_reducible refine (refLineT s HZ.out k _).mono ?_); rintro e w8 ⟨rfl, hu⟩; have HS := Lib.hid (HS.out.up (hu.trans (Up.alloc w8 (.cells #[.int .i64 (lnF s k), .int .i64 (lnT s k)] 45)))); have HR := HR.up (hu.trans (Up.alloc w8 (.cells #[.int .i64 (lnF s k), .int .i64 (lnT s k)] 45))); have HQ := rg_cells w8 (lnF s k) (lnT s k); clear hu))
    | (go_at_call 21; ((with_reducible refine (findT HS.out.r a).mono ?_); rintro e w9 ⟨rfl, hu⟩; have HS := Lib.hid (HS.out.up hu); obtain ⟨k0, k1, -⟩ := HR.up hu; obtain ⟨k2, k3, -⟩ := HQ.up hu; clear hu))
    | (go_at_call 28; ((with_reducible refine (refFindT s HZ.out a _).mono ?_); rintro e wA ⟨rfl, rfl⟩))
    | (go_at_call 18; ((with_reducible refine (HB.out _ HS.out.r).mono ?_); rintro e wB ⟨rfl, hu⟩; have HS := Lib.hid (HS.out.up hu); clear hu))
    | (go_at_call 19; ((with_reducible refine (HC.out _ HS.out.r).mono ?_); rintro e wC ⟨rfl, hu⟩; have HS := Lib.hid (HS.out.up hu); clear hu)))
  go_ret
  exact ⟨rfl, HS.out.u⟩

theorem tells_any {w : World} {rb : Nat} {s : ByteArray} (hr : RopeIs w rb s) (a k f u : Int) :
    Calls Tryd.prog 11 #[.pointer (some ⟨rb, 0, none⟩), .string s, .int .i64 a, .int .i64 k, .int .i64 f, .int .i64 u] w fun e w' => e = .returned (.bool true) ∧ Up w w' := by
  by_cases a0 : a < 0
  · by_cases f0 : f < 0
    · exact tells_low_low hr a k f u a0 f0
    · by_cases u0 : (s.size : Int) < u
      · exact tells_low_past hr a k f u a0 (by omega) u0
      · by_cases r0 : u < f
        · exact tells_low_rev hr a k f u a0 (by omega) (by omega) r0
        · obtain ⟨f, rfl⟩ := Int.eq_ofNat_of_zero_le (show 0 ≤ f by omega)
          obtain ⟨u, rfl⟩ := Int.eq_ofNat_of_zero_le (show 0 ≤ u by omega)
          exact tells_low_in hr a k f u a0 (by omega) (by omega)
  by_cases a1 : (s.size : Int) ≤ a
  · by_cases f0 : f < 0
    · exact tells_high_low hr a k f u (by omega) a1 f0
    · by_cases u0 : (s.size : Int) < u
      · exact tells_high_past hr a k f u (by omega) a1 (by omega) u0
      · by_cases r0 : u < f
        · exact tells_high_rev hr a k f u (by omega) a1 (by omega) (by omega) r0
        · obtain ⟨f, rfl⟩ := Int.eq_ofNat_of_zero_le (show 0 ≤ f by omega)
          obtain ⟨u, rfl⟩ := Int.eq_ofNat_of_zero_le (show 0 ≤ u by omega)
          exact tells_high_in hr a k f u (by omega) a1 (by omega) (by omega)
  obtain ⟨i, rfl⟩ := Int.eq_ofNat_of_zero_le (show 0 ≤ a by omega)
  have hi : i < s.size := by omega
  by_cases f0 : f < 0
  · exact tells_in_low hr i k f u hi f0
  · by_cases u0 : (s.size : Int) < u
    · exact tells_in_past hr i k f u hi (by omega) u0
    · by_cases r0 : u < f
      · exact tells_in_rev hr i k f u hi (by omega) (by omega) r0
      · obtain ⟨f, rfl⟩ := Int.eq_ofNat_of_zero_le (show 0 ≤ f by omega)
        obtain ⟨u, rfl⟩ := Int.eq_ofNat_of_zero_le (show 0 ≤ u by omega)
        exact tells_in_in hr i k f u hi (by omega) (by omega)
end Go.Proofs.YtcbmigkdmmmahaaDoor
