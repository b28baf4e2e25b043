/- What the program's pieces answer is what is read of a line: in plain mathematics. -/
import Derived.Test.YtmfcapbllbfjnaaGreatDoorYS
import Derived.Lib.Strings
import Derived.Lib.Bytealg
namespace Go.Proofs.YtmfcapbllbfjnaaGreatDoor

/-! A line ahead of its end. -/
theorem ib_lf : ∀ l : List UInt8, (Lib.indexByte l 10 = -1 ∧ 10 ∉ l.map (·.toNat)) ∨ ∃ i : Nat, Lib.indexByte l 10 = i ∧ i < l.length ∧ 10 ∉ (l.take i).map (·.toNat) ∧ l[i]? = some 10
  | [] => .inl ⟨rfl, by simp⟩
  | b :: l => by
    by_cases hb : b = 10
    · subst hb
      exact .inr ⟨0, rfl, by simp, by simp, rfl⟩
    · have h0 : (b == 10) = false := beq_eq_false_iff_ne.2 hb
      have hbn : ¬ (10 : Nat) = b.toNat := fun e => hb (UInt8.toNat_inj.1 (by simpa using e.symm))
      have hu : Lib.indexByte (b :: l) 10 = if Lib.indexByte l 10 == -1 then -1 else Lib.indexByte l 10 + 1 := by
        rw [Lib.indexByte, if_neg (by rw [h0]; exact Bool.false_ne_true)]
      rcases ib_lf l with ⟨h1, h2⟩ | ⟨i, h1, h2, h3, h4⟩
      · refine .inl ⟨by rw [hu, h1]; rfl, ?_⟩
        rw [List.map_cons, List.mem_cons]
        exact fun k => k.elim hbn h2
      · refine .inr ⟨i + 1, ?_, by rw [List.length_cons]; omega, ?_, by simpa using h4⟩
        · rw [hu, h1, if_neg (by rw [beq_iff_eq]; omega)]
          omega
        · rw [List.take_succ_cons, List.map_cons, List.mem_cons]
          exact fun k => k.elim hbn h3
theorem endL_none {l : List Nat} (h : 10 ∉ l) : endL l = l.length := by
  have := endF_app l [] false 0 h
  rw [List.append_nil] at this
  unfold endL
  rw [this]
  simp [endF]
theorem endL_at {u r : List Nat} (h : 10 ∉ u) : endL (u ++ 10 :: r) = if lastB false u = true then u.length - 1 else u.length := by
  unfold endL
  rw [endF_app u (10 :: r) false 0 h, endF_cons, if_pos rfl, Nat.zero_add]
theorem last_suffix (l : List UInt8) : Lib.hasSuffix l [13] = lastB false (l.map (·.toNat)) := by
  rcases List.eq_nil_or_concat l with rfl | ⟨v, c, rfl⟩
  · rfl
  · rw [List.concat_eq_append, List.map_append, List.map_cons, List.map_nil, lastB_snoc]
    unfold Lib.hasSuffix List.isSuffixOf
    rw [List.reverse_append]
    have e : (13 == c) = (c.toNat == 13) := by
      rw [Bool.eq_iff_iff, beq_iff_eq, beq_iff_eq]
      exact ⟨fun e => by rw [← e]; rfl, fun e => UInt8.toNat_inj.1 (by rw [e]; rfl)⟩
    simpa [List.isPrefixOf] using e
/-- What a line has ahead of its end. -/
def ownB (s : ByteArray) : ByteArray := s.extract 0 (endL (bl s))
theorem ownB_bl (s : ByteArray) : bl (ownB s) = (bl s).take (endL (bl s)) := bl_cut s
theorem own_miss {s : ByteArray} (h : Lib.indexByte s.data.toList 10 = -1) : ownB s = s := by
  rcases ib_lf s.data.toList with ⟨h1, h2⟩ | ⟨i, h1, -⟩
  · apply bl_inj
    rw [ownB_bl, endL_none (show 10 ∉ bl s from h2), List.take_length]
  · omega
theorem own_hit {s : ByteArray} {i : Nat} (h : Lib.indexByte s.data.toList 10 = i) : (⟨(Lib.trimSuffix (s.extract 0 i).data.toList [13]).toArray⟩ : ByteArray) = ownB s := by
  rcases ib_lf s.data.toList with ⟨h1, -⟩ | ⟨j, h1, h2, h3, h4⟩
  · omega
  · obtain rfl : i = j := by omega
    apply bl_inj
    have e0 : (s.extract 0 i).data.toList = s.data.toList.take i := by
      rw [Lib.extract_data]; simp
    have e1 : bl s = (s.data.toList.take i).map (·.toNat) ++ 10 :: (s.data.toList.drop (i + 1)).map (·.toNat) := by
      have e2 : s.data.toList = s.data.toList.take i ++ 10 :: s.data.toList.drop (i + 1) := by
        obtain ⟨h5, h6⟩ := List.getElem?_eq_some_iff.1 h4
        rw [← h6, ← List.drop_eq_getElem_cons h5, List.take_append_drop]
      have e3 := congrArg (List.map (fun b : UInt8 => b.toNat)) e2
      rw [List.map_append, List.map_cons] at e3
      exact e3
    have hl : ((s.data.toList.take i).map (·.toNat)).length = i := by rw [List.length_map, List.length_take]; omega
    rw [ownB_bl, e1, endL_at h3, e0]
    generalize hu : s.data.toList.take i = u at *
    have hs := last_suffix u
    unfold bl Lib.trimSuffix
    rw [hs]
    have hlu : u.length = i := by rw [← hl, List.length_map]
    by_cases hc : lastB false (u.map (·.toNat)) = true
    · rw [if_pos hc, if_pos hc]
      simp [List.take_append, hlu]
    · rw [if_neg hc, if_neg hc]
      simp [hlu]

theorem pres_two : ∀ p ∈ pres, p.length ≤ 2 := by decide
theorem pres_low : ∀ p ∈ pres, ∀ c ∈ p, c < 128 ∧ c ≠ 39 ∧ c ≠ 34 := by decide
theorem lowN_high {c : Nat} (h : 128 ≤ c) : 128 ≤ lowN c := by unfold lowN; split <;> omega

/-! A text that begins. -/
/-- How many bytes stand ahead of a quote, or two. -/
def skipQ : Nat → List Nat → Nat
  | 0, _ => 0
  | _, [] => 0
  | f + 1, c :: r => if c = 39 ∨ c = 34 then 0 else skipQ f r + 1
theorem skipQ_le : ∀ (f : Nat) (l : List Nat), skipQ f l ≤ f ∧ skipQ f l ≤ l.length
  | 0, _ => by simp [skipQ]
  | _ + 1, [] => by simp [skipQ]
  | f + 1, c :: r => by
    have := skipQ_le f r
    unfold skipQ
    rw [List.length_cons]
    split <;> omega
def openL (l : List Nat) : Nat × Nat := if (begM (l.drop (skipQ 2 l)) (skipQ 2 l)).1 ≠ 0 ∧ (l.take (skipQ 2 l)).map lowN ∈ pres then begM (l.drop (skipQ 2 l)) (skipQ 2 l) else (0, 0)
theorem begM_head {l : List Nat} {n : Nat} (h : (begM l n).1 ≠ 0) : ∃ r, l = 39 :: r ∨ l = 34 :: r := by
  unfold begM at h
  (repeat' split at h) <;> rename_i hh
  all_goals first
    | exact absurd rfl h
    | (obtain ⟨r, rfl⟩ := List.isPrefixOf_iff_prefix.1 hh; first | exact ⟨_, .inl rfl⟩ | exact ⟨_, .inr rfl⟩)
theorem skipQ_at : ∀ (f k : Nat) (l : List Nat), k ≤ f → (∀ c ∈ l.take k, c ≠ 39 ∧ c ≠ 34) → (∃ r, l.drop k = 39 :: r ∨ l.drop k = 34 :: r) → skipQ f l = k
  | 0, k, l, h, _, _ => by rw [show k = 0 from by omega]; rfl
  | f + 1, k, [], _, _, ⟨r, h⟩ => by simp at h
  | f + 1, 0, c :: r, _, _, ⟨r', h⟩ => by
    have : c = 39 ∨ c = 34 := by
      rcases h with h | h
      · rw [List.drop_zero] at h; injection h with h; exact .inl h
      · rw [List.drop_zero] at h; injection h with h; exact .inr h
    rw [skipQ, if_pos this]
  | f + 1, k + 1, c :: r, h, hn, hq => by
    have hc := hn c (by rw [List.take_succ_cons]; exact List.mem_cons_self ..)
    rw [skipQ, if_neg (by omega), skipQ_at f k r (by omega) (fun x hx => hn x (by rw [List.take_succ_cons]; exact List.mem_cons_of_mem _ hx)) (by simpa using hq)]
theorem begF_of (l : List Nat) (n : Nat) (hn : n ≤ l.length) : ∀ ps : List (List Nat), (∀ p ∈ ps, begP p l = true → (begM (l.drop p.length) p.length).1 ≠ 0 → p.length = n) →
    begF ps l = if (begM (l.drop n) n).1 ≠ 0 ∧ (l.take n).map lowN ∈ ps then begM (l.drop n) n else (0, 0)
  | [], _ => by rw [if_neg (by rintro ⟨-, h⟩; cases h)]; rfl
  | p :: ps, h => by
    rw [begF_cons, begF_of l n hn ps fun q hq => h q (List.mem_cons_of_mem _ hq)]
    by_cases hc : begP p l = true ∧ (begM (l.drop p.length) p.length).1 ≠ 0
    · have hp := h p (List.mem_cons_self ..) hc.1 hc.2
      have hm : (l.take n).map lowN = p := by
        have := hc.1
        unfold begP at this
        simp only [Bool.and_eq_true, decide_eq_true_eq, beq_iff_eq] at this
        rw [← hp]
        exact this.2
      rw [if_pos hc, if_pos ⟨by rw [← hp]; exact hc.2, by rw [hm]; exact List.mem_cons_self ..⟩, hp]
    · rw [if_neg hc]
      by_cases hm : (begM (l.drop n) n).1 ≠ 0
      · have hne : (l.take n).map lowN ≠ p := fun e => hc (by
          have hpl : p.length = n := by rw [← e, List.length_map, List.length_take]; omega
          refine ⟨?_, by rw [hpl]; exact hm⟩
          unfold begP
          rw [hpl, e]
          simp [hn])
        have hiff : ((l.take n).map lowN ∈ p :: ps) ↔ (l.take n).map lowN ∈ ps := by
          rw [List.mem_cons]
          exact ⟨fun k => k.elim (fun e => absurd e hne) id, .inr⟩
        simp only [hiff]
      · rw [if_neg (fun k => hm k.1), if_neg (fun k => hm k.1)]
theorem open_eq (l : List Nat) : openL l = begL l := by
  unfold begL openL
  refine (begF_of l (skipQ 2 l) (skipQ_le 2 l).2 pres fun p hp h1 h2 => ?_).symm
  refine (skipQ_at 2 p.length l (pres_two p hp) (fun c hc => ?_) (begM_head h2)).symm
  unfold begP at h1
  simp only [Bool.and_eq_true, decide_eq_true_eq, beq_iff_eq] at h1
  have hm : lowN c ∈ p := by rw [← h1.2]; exact List.mem_map.2 ⟨c, hc, rfl⟩
  have := (pres_low p hp _ hm).2
  constructor
  · rintro rfl; exact this.1 rfl
  · rintro rfl; exact this.2 rfl

/-! Operators, cut out of one text. -/
def anyP (n : Nat) (x : List Nat) : Nat → List Nat → Bool
  | 0, _ => false
  | k + 1, r => (r.take n == x) || anyP n x k (r.drop n)
def threes : ByteArray := ⟨#[42, 42, 61, 47, 47, 61, 62, 62, 61, 60, 60, 61, 46, 46, 46]⟩
def twos : ByteArray := ⟨#[42, 42, 47, 47, 62, 62, 60, 60, 60, 61, 62, 61, 61, 61, 33, 61, 45, 62, 43, 61, 45, 61, 42, 61, 47, 61, 37, 61, 38, 61, 124, 61, 94, 61, 64, 61, 58, 61]⟩
def ones : ByteArray := ⟨#[43, 45, 42, 47, 37, 64, 38, 124, 94, 126, 60, 62, 40, 41, 91, 93, 123, 125, 44, 58, 46, 59, 61]⟩
theorem pre_take {p l : List Nat} : p.isPrefixOf l = (p == l.take p.length) := by
  rw [pre_iff, Bool.eq_iff_iff, decide_eq_true_eq, beq_iff_eq]
  exact eq_comm
theorem any_take {ps : List (List Nat)} {l : List Nat} {n : Nat} (hn : ∀ p ∈ ps, p.length = n) : ps.any (·.isPrefixOf l) = ps.any (· == l.take n) := by
  rw [Bool.eq_iff_iff, List.any_eq_true, List.any_eq_true]
  constructor
  · rintro ⟨p, hp, h⟩
    refine ⟨p, hp, ?_⟩
    rw [pre_take, hn p hp] at h
    exact h
  · rintro ⟨p, hp, h⟩
    refine ⟨p, hp, ?_⟩
    rw [pre_take, hn p hp]
    exact h
theorem any_short {ps : List (List Nat)} {l : List Nat} {n : Nat} (hn : ∀ p ∈ ps, p.length = n) (hl : ¬ n ≤ l.length) : ps.any (·.isPrefixOf l) = false := by
  rw [Bool.eq_false_iff]
  intro k
  exact hl (any_pre k hn)
theorem threes_any (x : List Nat) : anyP 3 x 5 (bl threes) = op3.any (· == x) := by
  show ([42, 42, 61] == x || ([47, 47, 61] == x || ([62, 62, 61] == x || ([60, 60, 61] == x || ([46, 46, 46] == x || false))))) = _
  rfl
theorem twos_any (x : List Nat) : anyP 2 x 19 (bl twos) = op2.any (· == x) := by rfl
theorem ones_any (x : List Nat) : anyP 1 x 23 (bl ones) = (op1.map fun c => [c]).any (· == x) := by rfl
/-- Whether a text begins with one of the pieces. -/
def begins (n K : Nat) (all l : List Nat) : Bool := decide (n ≤ l.length) && anyP n (l.take n) K all
theorem begins3 (l : List Nat) : begins 3 5 (bl threes) l = op3.any (·.isPrefixOf l) := by
  unfold begins
  by_cases h : 3 ≤ l.length
  · rw [threes_any, any_take (n := 3) (by decide), decide_eq_true h, Bool.true_and]
  · rw [any_short (n := 3) (by decide) h, decide_eq_false h, Bool.false_and]
theorem begins2 (l : List Nat) : begins 2 19 (bl twos) l = op2.any (·.isPrefixOf l) := by
  unfold begins
  by_cases h : 2 ≤ l.length
  · rw [twos_any, any_take (n := 2) (by decide), decide_eq_true h, Bool.true_and]
  · rw [any_short (n := 2) (by decide) h, decide_eq_false h, Bool.false_and]
theorem begins1 (l : List Nat) : begins 1 23 (bl ones) l = op1.any (fun c => [c].isPrefixOf l) := by
  unfold begins
  have e : op1.any (fun c => [c].isPrefixOf l) = (op1.map fun c => [c]).any (·.isPrefixOf l) := by rw [List.any_map]; rfl
  rw [e]
  by_cases h : 1 ≤ l.length
  · rw [ones_any, any_take (n := 1) (by decide), decide_eq_true h, Bool.true_and]
  · rw [any_short (n := 1) (by decide) h, decide_eq_false h, Bool.false_and]

/-! Numbers. -/
def numO : List Nat → Nat
  | [] => 0
  | c :: r => if (digN c || (c == 46 && digH r)) = true then numL (c :: r) else 0
end Go.Proofs.YtmfcapbllbfjnaaGreatDoor
