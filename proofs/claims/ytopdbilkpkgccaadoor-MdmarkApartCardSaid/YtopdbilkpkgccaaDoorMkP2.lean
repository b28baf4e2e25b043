/- The program's row, over a text and over bytes, with each of its closures; last. -/
import Derived.Test.YtopdbilkpkgccaaDoorMkP1
namespace Go.Proofs.YtopdbilkpkgccaaDoor
open Go.RowKit Go.Shelf

set_option maxRecDepth 100000 in
set_option maxHeartbeats 4000000 in
theorem rowBk_any (o : ByteArray) (w : World) (hs : (o.size : Int) ≤ 1000000) :
    Calls Tryd.prog 18 #[.string o, .func (.func 20) #[] #[]] w fun e w' => e = .returned (.int .i64 ((rwL bk (bl o) : Nat) : Int)) ∧ w = w' := by
  obtain ⟨V, hV⟩ : ∃ V, rwL bk (bl o) = V := ⟨_, rfl⟩
  rw [hV]
  have HV := Lib.hid (show 0 + rwL bk ((bl o).drop 0) = V by rw [List.drop_zero, Nat.zero_add]; exact hV)
  have HS := Lib.hid hs
  have HF := Lib.hid (fun x => isBk_any x w)
  clear hV hs
  go_enter Tryd.func18, Tryd.ntmps18
  go_wp2
  go_loopg [5, 8] o.size (fun g _ iv wr => w = wr ∧ ∃ i : Nat, g = o.size - i ∧ iv = .int .i64 (i : Nat) ∧ Hid (i ≤ o.size) ∧ Hid (i + rwL bk ((bl o).drop i) = V))
  case atStart => exact ⟨rfl, 0, rfl, rfl, Lib.hid (Nat.zero_le _), HV⟩
  case round =>
    clear HV
    obtain ⟨rfl, i, hg, rfl, HI, HR⟩ := hrel
    have HG := Lib.hid hg
    clear hg
    by_cases hlt : i < o.size
    · obtain ⟨x, hx1⟩ : ∃ x, bt o i = x := ⟨_, rfl⟩
      have hx : o[i].toNat = x := by rw [bt_eq hlt]; exact hx1
      have hR := HR.out
      rw [bl_drop hlt, rwL_cons, hx1] at hR
      have k0 : (0 : Int) ≤ (i : Int) := by omega
      have k1 : (i : Int) < o.size := by omega
      have HB := Lib.hid hlt
      have HE := Lib.hid (show IntKind.i64.wrap ((i : Int) + 1) = (i : Int) + 1 from IntWalk.i64_in _ (by have := HS.out; omega))
      have HX := Lib.hid (HF.out x)
      obtain ⟨B, hB2⟩ : ∃ B, bk x = B := ⟨_, rfl⟩
      rw [hB2] at HX hR
      clear hB2 hx1
      cases B with
      | true =>
        rw [if_pos rfl] at hR
        have HR2 := Lib.hid (show i + 1 + rwL bk ((bl o).drop (i + 1)) = V by omega)
        clear hR
        have e1 := HE.out
        go_wp2_with (go_at_call 20; ((with_reducible refine HX.out.mono ?_); rintro e w2 ⟨rfl, rfl⟩))
        go_roundg (o.size - (i + 1))
        case measure => rw [HG.out]; have := HB.out; omega
        case rel => exact ⟨rfl, i + 1, rfl, by go_num, Lib.hid HB.out, HR2⟩
      | false =>
        rw [if_neg (by decide)] at hR
        have HR2 := Lib.hid (show i = V from hR)
        clear hR
        go_wp2_with (go_at_call 20; ((with_reducible refine HX.out.mono ?_); rintro e w2 ⟨rfl, rfl⟩))
        go_ret
        exact ⟨ret_int (by rw [← HR2.out]), rfl⟩
    · have hi : i = o.size := by have := HI.out; omega
      have hR := HR.out
      rw [bl_end (by omega)] at hR
      have HR2 := Lib.hid (show o.size = V from hi.symm.trans hR)
      have f2 : decide ((i : Int) < (o.size : Int)) = false := decide_eq_false (by omega)
      have f3 : decide (i < o.size) = false := decide_eq_false hlt
      clear hR hlt hi
      go_wp2
      go_ret
      exact ⟨ret_int (by rw [← HR2.out]), rfl⟩
set_option maxRecDepth 100000 in
set_option maxHeartbeats 4000000 in
theorem rowDg_any (o : ByteArray) (w : World) (hs : (o.size : Int) ≤ 1000000) :
    Calls Tryd.prog 18 #[.string o, .func (.func 25) #[] #[]] w fun e w' => e = .returned (.int .i64 ((rwL dgL (bl o) : Nat) : Int)) ∧ w = w' := by
  obtain ⟨V, hV⟩ : ∃ V, rwL dgL (bl o) = V := ⟨_, rfl⟩
  rw [hV]
  have HV := Lib.hid (show 0 + rwL dgL ((bl o).drop 0) = V by rw [List.drop_zero, Nat.zero_add]; exact hV)
  have HS := Lib.hid hs
  have HF := Lib.hid (fun x => digF_any x w)
  clear hV hs
  go_enter Tryd.func18, Tryd.ntmps18
  go_wp2
  go_loopg [5, 8] o.size (fun g _ iv wr => w = wr ∧ ∃ i : Nat, g = o.size - i ∧ iv = .int .i64 (i : Nat) ∧ Hid (i ≤ o.size) ∧ Hid (i + rwL dgL ((bl o).drop i) = V))
  case atStart => exact ⟨rfl, 0, rfl, rfl, Lib.hid (Nat.zero_le _), HV⟩
  case round =>
    clear HV
    obtain ⟨rfl, i, hg, rfl, HI, HR⟩ := hrel
    have HG := Lib.hid hg
    clear hg
    by_cases hlt : i < o.size
    · obtain ⟨x, hx1⟩ : ∃ x, bt o i = x := ⟨_, rfl⟩
      have hx : o[i].toNat = x := by rw [bt_eq hlt]; exact hx1
      have hR := HR.out
      rw [bl_drop hlt, rwL_cons, hx1] at hR
      have k0 : (0 : Int) ≤ (i : Int) := by omega
      have k1 : (i : Int) < o.size := by omega
      have HB := Lib.hid hlt
      have HE := Lib.hid (show IntKind.i64.wrap ((i : Int) + 1) = (i : Int) + 1 from IntWalk.i64_in _ (by have := HS.out; omega))
      have HX := Lib.hid (HF.out x)
      obtain ⟨B, hB2⟩ : ∃ B, dgL x = B := ⟨_, rfl⟩
      rw [hB2] at HX hR
      clear hB2 hx1
      cases B with
      | true =>
        rw [if_pos rfl] at hR
        have HR2 := Lib.hid (show i + 1 + rwL dgL ((bl o).drop (i + 1)) = V by omega)
        clear hR
        have e1 := HE.out
        go_wp2_with (go_at_call 25; ((with_reducible refine HX.out.mono ?_); rintro e w2 ⟨rfl, rfl⟩))
        go_roundg (o.size - (i + 1))
        case measure => rw [HG.out]; have := HB.out; omega
        case rel => exact ⟨rfl, i + 1, rfl, by go_num, Lib.hid HB.out, HR2⟩
      | false =>
        rw [if_neg (by decide)] at hR
        have HR2 := Lib.hid (show i = V from hR)
        clear hR
        go_wp2_with (go_at_call 25; ((with_reducible refine HX.out.mono ?_); rintro e w2 ⟨rfl, rfl⟩))
        go_ret
        exact ⟨ret_int (by rw [← HR2.out]), rfl⟩
    · have hi : i = o.size := by have := HI.out; omega
      have hR := HR.out
      rw [bl_end (by omega)] at hR
      have HR2 := Lib.hid (show o.size = V from hi.symm.trans hR)
      have f2 : decide ((i : Int) < (o.size : Int)) = false := decide_eq_false (by omega)
      have f3 : decide (i < o.size) = false := decide_eq_false hlt
      clear hR hlt hi
      go_wp2
      go_ret
      exact ⟨ret_int (by rw [← HR2.out]), rfl⟩
set_option maxRecDepth 100000 in
set_option maxHeartbeats 4000000 in
theorem rowSm_any (o : ByteArray) (c b : Nat) (w : World) (hs : (o.size : Int) ≤ 1000000) (hc : w.cell? ⟨b, 0, none⟩ = some (.int .u8 (c : Nat))) :
    Calls Tryd.prog 18 #[.string o, .func (.func 30) #[] #[.pointer (some ⟨b, 0, none⟩)]] w fun e w' => e = .returned (.int .i64 ((rwL (· == c) (bl o) : Nat) : Int)) ∧ w = w' := by
  obtain ⟨V, hV⟩ : ∃ V, rwL (· == c) (bl o) = V := ⟨_, rfl⟩
  rw [hV]
  have HV := Lib.hid (show 0 + rwL (· == c) ((bl o).drop 0) = V by rw [List.drop_zero, Nat.zero_add]; exact hV)
  have HS := Lib.hid hs
  have HF := Lib.hid (fun x => sameF_any x c b w hc)
  clear hV hs hc
  go_enter Tryd.func18, Tryd.ntmps18
  go_wp2
  go_loopg [5, 8] o.size (fun g _ iv wr => w = wr ∧ ∃ i : Nat, g = o.size - i ∧ iv = .int .i64 (i : Nat) ∧ Hid (i ≤ o.size) ∧ Hid (i + rwL (· == c) ((bl o).drop i) = V))
  case atStart => exact ⟨rfl, 0, rfl, rfl, Lib.hid (Nat.zero_le _), HV⟩
  case round =>
    clear HV
    obtain ⟨rfl, i, hg, rfl, HI, HR⟩ := hrel
    have HG := Lib.hid hg
    clear hg
    by_cases hlt : i < o.size
    · obtain ⟨x, hx1⟩ : ∃ x, bt o i = x := ⟨_, rfl⟩
      have hx : o[i].toNat = x := by rw [bt_eq hlt]; exact hx1
      have hR := HR.out
      rw [bl_drop hlt, rwL_cons, hx1] at hR
      have k0 : (0 : Int) ≤ (i : Int) := by omega
      have k1 : (i : Int) < o.size := by omega
      have HB := Lib.hid hlt
      have HE := Lib.hid (show IntKind.i64.wrap ((i : Int) + 1) = (i : Int) + 1 from IntWalk.i64_in _ (by have := HS.out; omega))
      have HX := Lib.hid (HF.out x)
      obtain ⟨B, hB2⟩ : ∃ B, (x == c) = B := ⟨_, rfl⟩
      rw [hB2] at HX hR
      clear hB2 hx1
      cases B with
      | true =>
        rw [if_pos rfl] at hR
        have HR2 := Lib.hid (show i + 1 + rwL (· == c) ((bl o).drop (i + 1)) = V by omega)
        clear hR
        have e1 := HE.out
        go_wp2_with (go_at_call 30; ((with_reducible refine HX.out.mono ?_); rintro e w2 ⟨rfl, rfl⟩))
        go_roundg (o.size - (i + 1))
        case measure => rw [HG.out]; have := HB.out; omega
        case rel => exact ⟨rfl, i + 1, rfl, by go_num, Lib.hid HB.out, HR2⟩
      | false =>
        rw [if_neg (by decide)] at hR
        have HR2 := Lib.hid (show i = V from hR)
        clear hR
        go_wp2_with (go_at_call 30; ((with_reducible refine HX.out.mono ?_); rintro e w2 ⟨rfl, rfl⟩))
        go_ret
        exact ⟨ret_int (by rw [← HR2.out]), rfl⟩
    · have hi : i = o.size := by have := HI.out; omega
      have hR := HR.out
      rw [bl_end (by omega)] at hR
      have HR2 := Lib.hid (show o.size = V from hi.symm.trans hR)
      have f2 : decide ((i : Int) < (o.size : Int)) = false := decide_eq_false (by omega)
      have f3 : decide (i < o.size) = false := decide_eq_false hlt
      clear hR hlt hi
      go_wp2
      go_ret
      exact ⟨ret_int (by rw [← HR2.out]), rfl⟩
set_option maxRecDepth 100000 in
set_option maxHeartbeats 4000000 in
theorem rowBy_any (L : List Nat) (g0 cap c b : Nat) (w : World) (hs : (L.length : Int) ≤ 1000000) (hc : w.cell? ⟨b, 0, none⟩ = some (.int .u8 (c : Nat))) (hL : ∀ (i x : Nat), L[i]? = some x → w.cell? ⟨g0, i, none⟩ = some (.int .u8 (x : Nat))) :
    Calls Tryd.prog 44 #[.slice (some ⟨g0, 0, none⟩) L.length cap, .func (.func 30) #[] #[.pointer (some ⟨b, 0, none⟩)]] w fun e w' => e = .returned (.int .i64 ((rwL (· == c) L : Nat) : Int)) ∧ w = w' := by
  obtain ⟨V, hV⟩ : ∃ V, rwL (· == c) L = V := ⟨_, rfl⟩
  rw [hV]
  have HV := Lib.hid (show 0 + rwL (· == c) (L.drop 0) = V by rw [List.drop_zero, Nat.zero_add]; exact hV)
  have HS := Lib.hid hs
  have HF := Lib.hid (fun x => sameF_any x c b w hc)
  have HL := Lib.hid hL
  clear hV hs hc hL
  go_enter Tryd.func44, Tryd.ntmps44
  go_wp2
  go_loopg [5, 8] L.length (fun g _ iv wr => w = wr ∧ ∃ i : Nat, g = L.length - i ∧ iv = .int .i64 (i : Nat) ∧ Hid (i ≤ L.length) ∧ Hid (i + rwL (· == c) (L.drop i) = V))
  case atStart => exact ⟨rfl, 0, rfl, rfl, Lib.hid (Nat.zero_le _), HV⟩
  case round =>
    clear HV
    obtain ⟨rfl, i, hg, rfl, HI, HR⟩ := hrel
    have HG := Lib.hid hg
    clear hg
    by_cases hlt : i < L.length
    · obtain ⟨x, hx1⟩ : ∃ x, L[i]? = some x := ⟨L[i], List.getElem?_eq_getElem hlt⟩
      have hcell := HL.out i x hx1
      have hdr : L.drop i = x :: L.drop (i + 1) := by
        rw [List.drop_eq_getElem_cons hlt]
        rw [List.getElem?_eq_getElem hlt] at hx1
        rw [Option.some.inj hx1]
      have hR := HR.out
      rw [hdr, rwL_cons] at hR
      clear hdr
      have k0 : (0 : Int) ≤ (i : Int) := by omega
      have k1 : (i : Int) < L.length := by omega
      have HB := Lib.hid hlt
      have HE := Lib.hid (show IntKind.i64.wrap ((i : Int) + 1) = (i : Int) + 1 from IntWalk.i64_in _ (by have := HS.out; omega))
      have HX := Lib.hid (HF.out x)
      obtain ⟨B, hB2⟩ : ∃ B, (x == c) = B := ⟨_, rfl⟩
      rw [hB2] at HX hR
      clear hB2 hx1
      cases B with
      | true =>
        rw [if_pos rfl] at hR
        have HR2 := Lib.hid (show i + 1 + rwL (· == c) (L.drop (i + 1)) = V by omega)
        clear hR
        have e1 := HE.out
        go_wp2_with (go_at_call 30; ((with_reducible refine HX.out.mono ?_); rintro e w2 ⟨rfl, rfl⟩))
        go_roundg (L.length - (i + 1))
        case measure => rw [HG.out]; have := HB.out; omega
        case rel => exact ⟨rfl, i + 1, rfl, by go_num, Lib.hid HB.out, HR2⟩
      | false =>
        rw [if_neg (by decide)] at hR
        have HR2 := Lib.hid (show i = V from hR)
        clear hR
        go_wp2_with (go_at_call 30; ((with_reducible refine HX.out.mono ?_); rintro e w2 ⟨rfl, rfl⟩))
        go_ret
        exact ⟨ret_int (by rw [← HR2.out]), rfl⟩
    · have hi : i = L.length := by have := HI.out; omega
      have hR := HR.out
      rw [List.drop_of_length_le (by omega)] at hR
      have HR2 := Lib.hid (show L.length = V from hi.symm.trans hR)
      have f2 : decide ((i : Int) < (L.length : Int)) = false := decide_eq_false (by omega)
      have f3 : decide (i < L.length) = false := decide_eq_false hlt
      clear hR hlt hi
      go_wp2
      go_ret
      exact ⟨ret_int (by rw [← HR2.out]), rfl⟩
theorem trimR_len (l : List UInt8) : (Lib.trimRightS l [32, 9]).length = laL (l.map (·.toNat)) := by
  have hp : ∀ x : UInt8, ([32, 9] : List UInt8).contains x = bk x.toNat := fun x => by
    unfold bk
    rw [Bool.eq_iff_iff]
    simp only [List.contains_cons, List.contains_nil, Bool.or_eq_true, beq_iff_eq, ← UInt8.toNat_inj]
    simp
  have hd : ∀ u : List UInt8, (u.dropWhile (([32, 9] : List UInt8).contains ·)).length = laL (u.reverse.map (·.toNat)) := by
    intro u
    induction u with
    | nil => rfl
    | cons c r ih =>
      rw [List.dropWhile_cons, List.reverse_cons, List.map_append, List.map_singleton, laL_snoc, hp c]
      cases bk c.toNat with
      | true => rw [if_pos rfl, if_pos rfl]; exact ih
      | false => rw [if_neg (by decide), if_neg (by decide)]; simp
  unfold Lib.trimRightS
  rw [List.length_reverse, hd, List.reverse_reverse]
theorem h116 : (Tryd.prog.info? (Tryd.lays162_ren.t 116)).map (fun i => (i.zero, i.size)) = some (some (.agg (Array.replicate 256 (.bool false))), 256) := by kernel_rfl
theorem trimR_any (o : ByteArray) (W : World) (hs : (o.size : Int) ≤ 1000000) : Calls Tryd.prog 31 #[.string o, .string ⟨#[32, 9]⟩] W fun e w' => ∃ r : ByteArray, e = .returned (.string r) ∧ r.size = laL (bl o) ∧ Up W w' := by
  have h := Any.strings_TrimRight_laid Tryd.lays162 h116 o ⟨#[32, 9]⟩ W (by omega) (by decide) (by
    intro j b hb
    have : b ∈ [32, 9] := List.mem_of_getElem? hb
    simp at this
    rcases this with rfl | rfl <;> decide)
  change Calls Tryd.prog 31 _ _ (fun e w' => e = .returned (.string ⟨(Lib.trimRightS o.data.toList [32, 9]).toArray⟩) ∧ Below W.heap.size W w') at h
  refine h.mono fun e w' hh => ⟨_, hh.1, ?_, hh.2⟩
  rw [Lib.size_mk, trimR_len]
  rfl
set_option maxRecDepth 100000 in
set_option maxHeartbeats 4000000 in
theorem last_any (o : ByteArray) (p : Nat) (w : World) (hs : (o.size : Int) ≤ 1000000) (hp : p ≤ o.size) :
    Calls Tryd.prog 21 #[.string o, .int .i64 (p : Nat)] w fun e w' => e = .returned (.int .i64 ((p + laL ((bl o).drop p) : Nat) : Int)) ∧ Up w w' := by
  have HT0 := (fun W => trimR_any (o.extract p o.size) W (by rw [ByteArray.size_extract]; omega))
  rw [← drop_bytes] at HT0
  have hl := laL_le ((bl o).drop p)
  rw [List.length_drop, bl_len] at hl
  obtain ⟨L, hL⟩ : ∃ L, laL ((bl o).drop p) = L := ⟨_, rfl⟩
  rw [hL] at HT0 hl ⊢
  have HT := Lib.hid HT0
  have p0 : (0 : Int) ≤ (p : Int) := by omega
  have p1 : (p : Int) ≤ o.size := by omega
  have HE := Lib.hid (show IntKind.i64.wrap ((p : Int) + (L : Nat)) = ((p + L : Nat) : Int) from (IntWalk.i64_in _ (by omega)).trans (by omega))
  clear HT0 hL hl hs hp
  go_enter Tryd.func21, Tryd.ntmps21
  have e1 := HE.out
  go_wp2_with (go_at_call 31; ((with_reducible refine (HT.out _).mono ?_); rintro e2 w2 ⟨r, rfl, hr, hu⟩; have HU := Lib.hid hu; have hz : (r.size : Int) = (L : Nat) := (by rw [hr]); clear hu hr))
  go_ret
  exact ⟨rfl, HU.out⟩
end Go.Proofs.YtopdbilkpkgccaaDoor
