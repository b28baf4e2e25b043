/- The program's rest, isBlank, same, isParted, last, row. -/
import Derived.Test.YtopdbilkpkgccaaDoorMkBox
import Derived.Test.YtopdbilkpkgccaaDoorShelf
namespace Go.Proofs.YtopdbilkpkgccaaDoor
open Go.RowKit Go.Shelf

theorem idx_lf (s : ByteArray) (W : World) : Calls Tryd.prog 45 #[.string s, .string ⟨#[10]⟩] W fun e w' => e = .returned (.int .i64 (Lib.indexByte s.data.toList 10)) ∧ W = w' := by
  have h := Any.stringslite_Index_one Tryd.lays219 s 10 W
  change Calls Tryd.prog 45 #[.string s, .string ⟨#[10]⟩] W (fun e w' => e = .returned (.int .i64 (Lib.indexByte s.data.toList 10)) ∧ w' = W) at h
  exact h.mono fun _ _ ⟨a, b⟩ => ⟨a, b.symm⟩
theorem tsuf_any (h t : ByteArray) (W : World) (hs : h.size ≤ 9223372036854775807) : Calls Tryd.prog 28 #[.string h, .string t] W fun e w' => e = .returned (.string ⟨(Lib.trimSuffix h.data.toList t.data.toList).toArray⟩) ∧ W = w' := by
  have h := Any.strings_TrimSuffix Tryd.lays102 h t W hs
  exact h.mono fun _ _ ⟨a, b⟩ => ⟨a, b.symm⟩
set_option maxRecDepth 100000 in
set_option maxHeartbeats 4000000 in
theorem cutLow_any (s : ByteArray) (w : World) (hs : (s.size : Int) ≤ 1000000) : Calls Tryd.prog 36 #[.string s, .string ⟨#[10]⟩] w fun e w' => ((ownB s = s ∧ e = .returned (.tuple #[.string s, .string ⟨#[]⟩, .bool false])) ∨ ∃ (h t : ByteArray), (⟨(Lib.trimSuffix h.data.toList [13]).toArray⟩ : ByteArray) = ownB s ∧ h.size ≤ s.size ∧ e = .returned (.tuple #[.string h, .string t, .bool true])) ∧ DrN w w' := by
  have HI := Lib.hid (fun W => idx_lf s W)
  rcases ib_own (s := s) with ⟨h1, h2⟩ | ⟨i, h1, h2, h3⟩
  · rw [h1] at HI
    clear h1 hs
    go_enter Tryd.func36, Tryd.ntmps36
    go_wp2_with (go_at_call 45; (with_reducible refine (HI.out _).mono ?_); rintro e w1 ⟨rfl, rfl⟩)
    go_ret3
    exact ⟨.inl ⟨h2, rfl⟩, DrN.refl _⟩
  · rw [h1] at HI
    have p0 : (0 : Int) ≤ (i : Int) := by omega
    have p1 : (i : Int) ≤ (s.size : Int) := by omega
    have p2 : (0 : Int) ≤ (i : Int) + 1 := by omega
    have p3 : (i : Int) + 1 ≤ (s.size : Int) := by omega
    have hsz : (s.extract 0 i).size ≤ s.size := by rw [ByteArray.size_extract]; omega
    have e1 : IntKind.i64.wrap ((i : Int) + 1) = (i : Int) + 1 := IntWalk.i64_in _ (by omega)
    have e2 : wrap64 ((i : Int) + 1) = (i : Int) + 1 := IntWalk.wrap64_in _ (by omega)
    clear h1 hs
    go_enter Tryd.func36, Tryd.ntmps36
    go_wp2_with (go_at_call 45; (with_reducible refine (HI.out _).mono ?_); rintro e w1 ⟨rfl, rfl⟩)
    go_quiet (fail)
    go_wp2
    go_ret3
    exact ⟨.inr ⟨_, _, h3, hsz, rfl⟩, _, rfl⟩
set_option maxRecDepth 100000 in
set_option maxHeartbeats 4000000 in
theorem cut_any (s : ByteArray) (w : World) (hs : (s.size : Int) ≤ 1000000) : Calls Tryd.prog 27 #[.string s, .string ⟨#[10]⟩] w fun e w' => ((ownB s = s ∧ e = .returned (.tuple #[.string s, .string ⟨#[]⟩, .bool false])) ∨ ∃ (h t : ByteArray), (⟨(Lib.trimSuffix h.data.toList [13]).toArray⟩ : ByteArray) = ownB s ∧ h.size ≤ s.size ∧ e = .returned (.tuple #[.string h, .string t, .bool true])) ∧ DrN w w' := by
  have HC := Lib.hid (fun W => cutLow_any s W hs)
  go_enter Tryd.func27, Tryd.ntmps27
  go_wp2_with (go_at_call 36; (with_reducible refine (HC.out _).mono ?_); rintro e w1 ⟨⟨h1, rfl⟩ | ⟨h, t, h1, h2, rfl⟩, hu⟩)
  · go_ret3
    exact ⟨.inl ⟨h1, rfl⟩, hu⟩
  · go_ret3
    exact ⟨.inr ⟨h, t, h1, h2, rfl⟩, hu⟩
/-- What a line has from a place on, ahead of its end. -/
def restB (s : ByteArray) (a : Int) : ByteArray := if outE s a = true then ⟨#[]⟩ else (ownB s).extract a.toNat (ownB s).size
theorem restB_bl (s : ByteArray) (a : Int) : bl (restB s a) = restL (bl s) a := by
  unfold restB
  cases h : outE s a with
  | true => rw [if_pos rfl, rest_out h]; rfl
  | false =>
    obtain ⟨p, rfl, hp⟩ := out_in h
    rw [if_neg (by decide), rest_in, Int.toNat_natCast, bl_extract, List.take_of_length_le (by rw [bl_len]; exact Nat.le_refl _)]
theorem restB_size (s : ByteArray) (a : Int) : (restB s a).size ≤ s.size := by
  have h := restL_len (bl s) a
  rw [← restB_bl, bl_len, bl_len] at h
  exact h
set_option maxRecDepth 100000 in
set_option maxHeartbeats 4000000 in
theorem rest_any (s : ByteArray) (a : Int) (w : World) (hs : (s.size : Int) ≤ 1000000) : Calls Tryd.prog 15 #[.string s, .int .i64 a] w fun e w' => e = .returned (.string (restB s a)) ∧ DrN w w' := by
  have HC := Lib.hid (fun W => cut_any s W hs)
  obtain ⟨o, ho⟩ : ∃ o, ownB s = o := ⟨_, rfl⟩
  have HT := Lib.hid (fun W (h : ByteArray) (k : h.size ≤ s.size) (e : (⟨(Lib.trimSuffix h.data.toList [13]).toArray⟩ : ByteArray) = o) => by
    have q := tsuf_any h ⟨#[13]⟩ W (by omega)
    rw [show (⟨#[13]⟩ : ByteArray).data.toList = [13] from rfl, e] at q
    exact q)
  have hR : restB s a = if outE s a = true then ⟨#[]⟩ else o.extract a.toNat o.size := by unfold restB; rw [ho]
  have hO : outE s a = decide (a < 0 ∨ (o.size : Int) ≤ a) := by unfold outE; rw [ho]
  rw [hR, hO]
  have HOn := Lib.hid ho
  clear hR hO hs ho
  by_cases h0 : a < 0
  · rw [if_pos (decide_eq_true (.inl h0))]
    go_enter Tryd.func15, Tryd.ntmps15
    go_wp2_with (first | (go_at_call 27; (with_reducible refine (HC.out _).mono ?_); rintro e w1 ⟨⟨h1, rfl⟩ | ⟨h, t, h1, h2, rfl⟩, hu⟩ <;> (have HU := Lib.hid hu; clear hu; rw [HOn.out] at h1; (first | (obtain rfl : o = s := h1) | skip))) | (go_at_call 28; (with_reducible refine (HT.out _ h h2 h1).mono ?_); rintro e w2 ⟨rfl, rfl⟩))
    all_goals
      go_ret
      exact ⟨rfl, HU.out⟩
  obtain ⟨p, rfl⟩ : ∃ p : Nat, a = (p : Int) := ⟨a.toNat, by omega⟩
  rw [Int.toNat_natCast]
  by_cases h1 : o.size ≤ p
  · rw [if_pos (decide_eq_true (.inr (by omega)))]
    have g0 : (o.size : Int) ≤ (p : Int) := by omega
    go_enter Tryd.func15, Tryd.ntmps15
    go_wp2_with (first | (go_at_call 27; (with_reducible refine (HC.out _).mono ?_); rintro e w1 ⟨⟨h1, rfl⟩ | ⟨h, t, h1, h2, rfl⟩, hu⟩ <;> (have HU := Lib.hid hu; clear hu; rw [HOn.out] at h1; (first | (obtain rfl : o = s := h1) | skip))) | (go_at_call 28; (with_reducible refine (HT.out _ h h2 h1).mono ?_); rintro e w2 ⟨rfl, rfl⟩))
    all_goals
      go_ret
      exact ⟨rfl, HU.out⟩
  · rw [if_neg (by rw [decide_eq_true_eq]; omega)]
    have g0 : ¬ ((o.size : Int) ≤ (p : Int)) := by omega
    have g1 : (0 : Int) ≤ (p : Int) := by omega
    have g2 : (p : Int) ≤ (o.size : Int) := by omega
    have g3 : p ≤ o.size := by omega
    go_enter Tryd.func15, Tryd.ntmps15
    go_wp2_with (first | (go_at_call 27; (with_reducible refine (HC.out _).mono ?_); rintro e w1 ⟨⟨h1, rfl⟩ | ⟨h, t, h1, h2, rfl⟩, hu⟩ <;> (have HU := Lib.hid hu; clear hu; rw [HOn.out] at h1; (first | (obtain rfl : o = s := h1) | skip))) | (go_at_call 28; (with_reducible refine (HT.out _ h h2 h1).mono ?_); rintro e w2 ⟨rfl, rfl⟩))
    all_goals
      go_ret
      exact ⟨rfl, HU.out⟩
set_option maxRecDepth 100000 in
theorem isBk_any (c : Nat) (w : World) : Calls Tryd.prog 20 #[.int .u8 (c : Nat)] w fun e w' => e = .returned (.bool (bk c)) ∧ w = w' := by
  by_cases h32 : c = 32
  · subst h32
    go_enter Tryd.func20, Tryd.ntmps20
    go_wp2
    go_ret
    exact ⟨rfl, rfl⟩
  have n1 : ((c : Int) == 32) = false := beq_eq_false_iff_ne.2 (by omega)
  by_cases h9 : c = 9
  · subst h9
    clear h32
    go_enter Tryd.func20, Tryd.ntmps20
    go_wp2
    go_ret
    exact ⟨rfl, rfl⟩
  have n2 : ((c : Int) == 9) = false := beq_eq_false_iff_ne.2 (by omega)
  have e : bk c = false := by unfold bk; rw [beq_eq_false_iff_ne.2 h32, beq_eq_false_iff_ne.2 h9]; rfl
  rw [e]
  clear h32 h9 e
  go_enter Tryd.func20, Tryd.ntmps20
  go_wp2
  go_ret
  exact ⟨rfl, rfl⟩
set_option maxRecDepth 100000 in
theorem digF_any (c : Nat) (w : World) : Calls Tryd.prog 25 #[.int .u8 (c : Nat)] w fun e w' => e = .returned (.bool (dgL c)) ∧ w = w' := by
  unfold dgL
  by_cases h0 : 48 ≤ c
  case neg =>
    have f0 : decide ((48 : Int) ≤ (c : Int)) = false := decide_eq_false (by omega)
    rw [decide_eq_false (by omega)]
    clear h0
    go_enter Tryd.func25, Tryd.ntmps25
    go_wp2
    go_ret
    exact ⟨rfl, rfl⟩
  have f0 : (48 : Int) ≤ (c : Int) := by omega
  by_cases h1 : c ≤ 57
  · have f1 : (c : Int) ≤ 57 := by omega
    rw [decide_eq_true (by omega)]
    clear h0 h1
    go_enter Tryd.func25, Tryd.ntmps25
    go_wp2
    go_ret
    exact ⟨rfl, rfl⟩
  · have f1 : decide ((c : Int) ≤ 57) = false := decide_eq_false (by omega)
    rw [decide_eq_false (by omega)]
    clear h0 h1
    go_enter Tryd.func25, Tryd.ntmps25
    go_wp2
    go_ret
    exact ⟨rfl, rfl⟩
theorem byte_beq (x c : Nat) : ((x : Int) == (c : Int)) = (x == c) := by
  rw [Bool.eq_iff_iff, beq_iff_eq, beq_iff_eq]
  omega
set_option maxRecDepth 100000 in
theorem sameF_any (x c b : Nat) (w : World) (hc : w.cell? ⟨b, 0, none⟩ = some (.int .u8 (c : Nat))) : Calls Tryd.prog 30 #[.int .u8 (x : Nat), .pointer (some ⟨b, 0, none⟩)] w fun e w' => e = .returned (.bool (x == c)) ∧ w = w' := by
  obtain ⟨B, hB⟩ : ∃ B, ((x : Int) == (c : Int)) = B := ⟨_, rfl⟩
  rw [← byte_beq, hB]
  go_enter Tryd.func30, Tryd.ntmps30
  go_wp2
  go_ret
  exact ⟨rfl, rfl⟩
set_option maxRecDepth 100000 in
set_option maxHeartbeats 4000000 in
theorem isPart_any (o : ByteArray) (p : Nat) (w : World) (hp : p ≤ o.size) : Calls Tryd.prog 22 #[.string o, .int .i64 (p : Nat)] w fun e w' => e = .returned (.bool (ptL ((bl o).drop p))) ∧ w = w' := by
  have HB := Lib.hid (fun c W => isBk_any c W)
  by_cases h1 : p = o.size
  · rw [bl_end (by omega)]
    have g : ((p : Int) == (o.size : Int)) = true := by rw [h1]; exact beq_self_eq_true _
    clear h1 hp
    go_enter Tryd.func22, Tryd.ntmps22
    go_wp2
    go_ret
    exact ⟨rfl, rfl⟩
  rw [bl_drop (by omega)]
  have hps : p < o.size := by omega
  obtain ⟨x, hx0⟩ : ∃ x, bt o p = x := ⟨_, rfl⟩
  have hx : o[p].toNat = x := by rw [bt_eq hps]; exact hx0
  rw [hx0]
  have p0 : (0 : Int) ≤ (p : Int) := by omega
  have p1 : (p : Int) < o.size := by omega
  have g : ((p : Int) == (o.size : Int)) = false := beq_eq_false_iff_ne.2 (by omega)
  show Calls _ _ _ _ fun e w' => e = .returned (.bool (bk x)) ∧ w = w'
  clear h1 hp hx0
  go_enter Tryd.func22, Tryd.ntmps22
  go_wp2_with (go_at_call 20; ((with_reducible refine (HB.out x _).mono ?_); rintro e2 w2 ⟨rfl, rfl⟩))
  go_ret
  exact ⟨rfl, rfl⟩
end Go.Proofs.YtopdbilkpkgccaaDoor
