/- The bytes of a line, its end, its blanks: plain mathematics. -/
import Derived.Test.YtopdbilkpkgccaaDoorBase
import Derived.Lib.Strings
import Derived.Lib.Bytealg
namespace Go.Proofs.YtopdbilkpkgccaaDoor

/-- The bytes of a text. -/
def bl (s : ByteArray) : List Nat := s.data.toList.map (·.toNat)
theorem bl_len (s : ByteArray) : (bl s).length = s.size := by unfold bl; rw [List.length_map, ← Lib.size_eq]
theorem bl_at {s : ByteArray} {i : Nat} (h : i < s.size) : (bl s)[i]? = some (bt s i) := by
  unfold bl
  rw [List.getElem?_map, List.getElem?_eq_getElem (by rw [← Lib.size_eq]; exact h), bt_list s i h]
  rfl
theorem bl_drop {s : ByteArray} {p : Nat} (h : p < s.size) : (bl s).drop p = bt s p :: (bl s).drop (p + 1) := by
  have h1 : p < (bl s).length := by rw [bl_len]; exact h
  rw [List.drop_eq_getElem_cons h1]
  congr 1
  have := bl_at h
  rw [List.getElem?_eq_getElem h1] at this
  exact Option.some.inj this
theorem bl_end {s : ByteArray} {p : Nat} (h : s.size ≤ p) : (bl s).drop p = [] := List.drop_of_length_le (by rw [bl_len]; exact h)
theorem bl_extract (s : ByteArray) (a b : Nat) : bl (s.extract a b) = ((bl s).take b).drop a := by
  unfold bl
  rw [show (s.extract a b).data.toList = (s.data.toList.take b).drop a from by
    simp [ByteArray.data_extract, Array.toList_extract, List.extract, List.drop_take]]
  simp [List.map_drop, List.map_take]
theorem bl_inj {s t : ByteArray} (h : bl s = bl t) : s = t := by
  have h1 : s.data.toList = t.data.toList := (List.map_inj_right (f := UInt8.toNat) (fun a b e => UInt8.toNat_inj.1 e)).1 h
  cases s; cases t
  congr 1
  exact Array.toList_inj.1 h1
theorem bl_append (s t : ByteArray) : bl (s ++ t) = bl s ++ bl t := by simp [bl]
theorem bl_lt {s : ByteArray} {c : Nat} (h : c ∈ bl s) : c < 256 := by
  unfold bl at h
  obtain ⟨x, -, rfl⟩ := List.mem_map.1 h
  exact x.toNat_lt
def endF : Bool → Nat → List Nat → Nat
  | _, p, [] => p
  | b, p, c :: r => if c = 10 then (if b then p - 1 else p) else endF (c == 13) (p + 1) r
def endL (l : List Nat) : Nat := endF false 0 l
/-- A blank. -/
def bk (c : Nat) : Bool := c == 32 || c == 9
/-- How many blanks stand first. -/
def skL : List Nat → Nat
  | [] => 0
  | c :: r => if bk c = true then skL r + 1 else 0
/-- How many bytes up to the last one that is no blank. -/
def laL : List Nat → Nat
  | [] => 0
  | c :: r => if laL r = 0 ∧ bk c = true then 0 else laL r + 1
theorem skL_le : ∀ l : List Nat, skL l ≤ l.length
  | [] => Nat.le_refl _
  | c :: r => by have := skL_le r; unfold skL; rw [List.length_cons]; split <;> omega
theorem laL_le : ∀ l : List Nat, laL l ≤ l.length
  | [] => Nat.le_refl _
  | c :: r => by have := laL_le r; unfold laL; rw [List.length_cons]; split <;> omega
theorem laL_pos {c : Nat} {r : List Nat} (h : bk c = false) : 0 < laL (c :: r) := by
  unfold laL
  rw [if_neg (fun k => by rw [h] at k; exact Bool.false_ne_true k.2)]
  omega
/-- The last byte is no blank. -/
theorem laL_last : ∀ l : List Nat, 0 < laL l → ∃ c, l[laL l - 1]? = some c ∧ bk c = false
  | [], h => absurd h (Nat.lt_irrefl _)
  | c :: r, h => by
    unfold laL at h ⊢
    by_cases hc : laL r = 0 ∧ bk c = true
    · rw [if_pos hc] at h; exact absurd h (Nat.lt_irrefl _)
    · rw [if_neg hc, Nat.add_sub_cancel]
      by_cases h0 : laL r = 0
      · refine ⟨c, by rw [h0]; rfl, ?_⟩
        cases hb : bk c with
        | false => rfl
        | true => exact absurd ⟨h0, hb⟩ hc
      · obtain ⟨d, h1, h2⟩ := laL_last r (by omega)
        refine ⟨d, ?_, h2⟩
        obtain ⟨n, hn⟩ : ∃ n, laL r = n + 1 := ⟨laL r - 1, by omega⟩
        rw [hn] at h1 ⊢
        simpa using h1
theorem laL_snoc (u : List Nat) (c : Nat) : laL (u ++ [c]) = if bk c = true then laL u else u.length + 1 := by
  induction u with
  | nil => rw [List.nil_append]; unfold laL laL; cases bk c <;> simp
  | cons d u ih =>
    rw [List.cons_append]
    unfold laL
    rw [ih]
    cases hb : bk c with
    | true => simp
    | false => simp

/-- Is a text's last byte 13? -/
def lastB : Bool → List Nat → Bool
  | b, [] => b
  | _, c :: r => lastB (c == 13) r
theorem lastB_snoc (b : Bool) (u : List Nat) (c : Nat) : lastB b (u ++ [c]) = (c == 13) := by
  induction u generalizing b with
  | nil => rfl
  | cons d r ih => exact ih _
theorem endF_cons (b : Bool) (p c : Nat) (r : List Nat) : endF b p (c :: r) = if c = 10 then (if b then p - 1 else p) else endF (c == 13) (p + 1) r := rfl
theorem endF_app : ∀ (u l : List Nat) (b : Bool) (p : Nat), 10 ∉ u → endF b p (u ++ l) = endF (lastB b u) (p + u.length) l
  | [], _, _, _, _ => rfl
  | c :: r, l, b, p, h => by
    have hc : c ≠ 10 := fun e => h (by simp [e])
    rw [List.cons_append, endF_cons, if_neg hc, endF_app r l _ _ (fun k => h (by simp [k])), List.length_cons, show p + 1 + r.length = p + (r.length + 1) from by omega]
    rfl
theorem endF_le : ∀ (l : List Nat) (b : Bool) (p : Nat), endF b p l ≤ p + l.length
  | [], _, p => by simp [endF]
  | c :: r, b, p => by
    have := endF_le r (c == 13) (p + 1)
    unfold endF
    simp only [List.length_cons]
    (repeat' split) <;> omega
theorem endL_le (l : List Nat) : endL l ≤ l.length := by have := endF_le l false 0; unfold endL; omega
theorem bl_cut (line : ByteArray) : bl (line.extract 0 (endL (bl line))) = (bl line).take (endL (bl line)) := by rw [bl_extract, List.drop_zero]
theorem ib_lf : ∀ l : List UInt8, (Lib.indexByte l 10 = -1 ∧ 10 ∉ l.map (·.toNat)) ∨ ∃ i : Nat, Lib.indexByte l 10 = i ∧ i < l.length ∧ 10 ∉ (l.take i).map (·.toNat) ∧ l[i]? = some 10
  | [] => .inl ⟨rfl, by simp⟩
  | b :: l => by
    by_cases hb : b = 10
    · subst hb
      exact .inr ⟨0, rfl, by simp, by simp, rfl⟩
    · have h0 : (b == 10) = false := beq_eq_false_iff_ne.2 hb
      have hbn : ¬ (10 : Nat) = b.toNat := fun e => hb (UInt8.toNat_inj.1 (by simpa using e.symm))
      have hu : Lib.indexByte (b :: l) 10 = if Lib.indexByte l 10 == -1 then -1 else Lib.indexByte l 10 + 1 := by
        rw [Lib.indexByte, if_neg (by rw [h0]; exact Bool.false_ne_true)]
      rcases ib_lf l with ⟨h1, h2⟩ | ⟨i, h1, h2, h3, h4⟩
      · refine .inl ⟨by rw [hu, h1]; rfl, ?_⟩
        rw [List.map_cons, List.mem_cons]
        exact fun k => k.elim hbn h2
      · refine .inr ⟨i + 1, ?_, by rw [List.length_cons]; omega, ?_, by simpa using h4⟩
        · rw [hu, h1, if_neg (by rw [beq_iff_eq]; omega)]
          omega
        · rw [List.take_succ_cons, List.map_cons, List.mem_cons]
          exact fun k => k.elim hbn h3
theorem endL_none {l : List Nat} (h : 10 ∉ l) : endL l = l.length := by
  have := endF_app l [] false 0 h
  rw [List.append_nil] at this
  unfold endL
  rw [this]
  simp [endF]
theorem endL_at {u r : List Nat} (h : 10 ∉ u) : endL (u ++ 10 :: r) = if lastB false u = true then u.length - 1 else u.length := by
  unfold endL
  rw [endF_app u (10 :: r) false 0 h, endF_cons, if_pos rfl, Nat.zero_add]
theorem last_suffix (l : List UInt8) : Lib.hasSuffix l [13] = lastB false (l.map (·.toNat)) := by
  rcases List.eq_nil_or_concat l with rfl | ⟨v, c, rfl⟩
  · rfl
  · rw [List.concat_eq_append, List.map_append, List.map_cons, List.map_nil, lastB_snoc]
    unfold Lib.hasSuffix List.isSuffixOf
    rw [List.reverse_append]
    have e : (13 == c) = (c.toNat == 13) := by
      rw [Bool.eq_iff_iff, beq_iff_eq, beq_iff_eq]
      exact ⟨fun e => by rw [← e]; rfl, fun e => UInt8.toNat_inj.1 (by rw [e]; rfl)⟩
    simpa [List.isPrefixOf] using e
/-- What a line has ahead of its end. -/
def ownB (s : ByteArray) : ByteArray := s.extract 0 (endL (bl s))
theorem ownB_bl (s : ByteArray) : bl (ownB s) = (bl s).take (endL (bl s)) := bl_cut s
theorem own_miss {s : ByteArray} (h : Lib.indexByte s.data.toList 10 = -1) : ownB s = s := by
  rcases ib_lf s.data.toList with ⟨h1, h2⟩ | ⟨i, h1, -⟩
  · apply bl_inj
    rw [ownB_bl, endL_none (show 10 ∉ bl s from h2), List.take_length]
  · omega
theorem own_hit {s : ByteArray} {i : Nat} (h : Lib.indexByte s.data.toList 10 = i) : (⟨(Lib.trimSuffix (s.extract 0 i).data.toList [13]).toArray⟩ : ByteArray) = ownB s := by
  rcases ib_lf s.data.toList with ⟨h1, -⟩ | ⟨j, h1, h2, h3, h4⟩
  · omega
  · obtain rfl : i = j := by omega
    apply bl_inj
    have e0 : (s.extract 0 i).data.toList = s.data.toList.take i := by
      rw [Lib.extract_data]; simp
    have e1 : bl s = (s.data.toList.take i).map (·.toNat) ++ 10 :: (s.data.toList.drop (i + 1)).map (·.toNat) := by
      have e2 : s.data.toList = s.data.toList.take i ++ 10 :: s.data.toList.drop (i + 1) := by
        obtain ⟨h5, h6⟩ := List.getElem?_eq_some_iff.1 h4
        rw [← h6, ← List.drop_eq_getElem_cons h5, List.take_append_drop]
      have e3 := congrArg (List.map (fun b : UInt8 => b.toNat)) e2
      rw [List.map_append, List.map_cons] at e3
      exact e3
    have hl : ((s.data.toList.take i).map (·.toNat)).length = i := by rw [List.length_map, List.length_take]; omega
    rw [ownB_bl, e1, endL_at h3, e0]
    generalize hu : s.data.toList.take i = u at *
    have hs := last_suffix u
    unfold bl Lib.trimSuffix
    rw [hs]
    have hlu : u.length = i := by rw [← hl, List.length_map]
    by_cases hc : lastB false (u.map (·.toNat)) = true
    · rw [if_pos hc, if_pos hc]
      simp [List.take_append, hlu]
    · rw [if_neg hc, if_neg hc]
      simp [hlu]
theorem take_bytes (s : ByteArray) (n : Nat) : (bl s).take n = bl (s.extract 0 n) := by rw [bl_extract, List.drop_zero]
theorem drop_bytes (s : ByteArray) (n : Nat) : (bl s).drop n = bl (s.extract n s.size) := by
  rw [bl_extract, List.take_of_length_le (by rw [bl_len]; exact Nat.le_refl _)]
theorem pre_iff {w l : List Nat} : w.isPrefixOf l = decide (l.take w.length = w) := by
  rw [Bool.eq_iff_iff, List.isPrefixOf_iff_prefix, decide_eq_true_eq, List.prefix_iff_eq_take]
  exact eq_comm
theorem pre_long {w l : List Nat} (h : l.length < w.length) : w.isPrefixOf l = false := by
  rw [Bool.eq_false_iff]
  intro k
  have := (List.isPrefixOf_iff_prefix.1 k).length_le
  omega
theorem pre_bytes (s t : ByteArray) (p : Nat) : (bl t).isPrefixOf ((bl s).drop p) = decide (s.extract p (p + t.size) = t) := by
  rw [pre_iff, bl_len]
  apply decide_eq_decide.2
  have e : bl (s.extract p (p + t.size)) = ((bl s).drop p).take t.size := by
    rw [bl_extract, List.drop_take, Nat.add_sub_cancel_left]
  rw [← e]
  exact ⟨fun k => bl_inj k, fun k => by rw [k]⟩
theorem beq_bytes (a b : ByteArray) : (a.toList == b.toList) = decide (a = b) := by
  rw [Bool.eq_iff_iff, beq_iff_eq, decide_eq_true_eq]
  exact ⟨bytes_ext, fun h => by rw [h]⟩
theorem endF_step {s : ByteArray} {p : Nat} {b : Bool} (h : p < s.size) : endF b p ((bl s).drop p) = if bt s p = 10 then (if b then p - 1 else p) else endF (bt s p == 13) (p + 1) ((bl s).drop (p + 1)) := by
  rw [bl_drop h]
  rfl
theorem endF_last {s : ByteArray} {p : Nat} {b : Bool} (h : s.size ≤ p) : endF b p ((bl s).drop p) = p := by
  rw [bl_end h]
  rfl
/-- A byte 13 stands right ahead. -/
def p13 (s : ByteArray) (p : Nat) : Bool := decide (0 < p) && (bt s (p - 1) == 13)
theorem p13_zero (s : ByteArray) : p13 s 0 = false := rfl
theorem p13_succ (s : ByteArray) (p : Nat) : p13 s (p + 1) = (bt s p == 13) := by unfold p13; simp
theorem hp_bl (s p : ByteArray) : Lib.hasPrefix s.data.toList p.data.toList = (bl p).isPrefixOf (bl s) := by
  unfold Lib.hasPrefix
  rw [pre_iff, bl_len, Bool.eq_iff_iff, List.isPrefixOf_iff_prefix, List.prefix_iff_eq_take, decide_eq_true_eq, take_bytes]
  constructor
  · intro h
    congr 1
    apply ByteArray.ext
    apply Array.toList_inj.1
    rw [h, Lib.extract_data, ← Lib.size_eq]
    simp
  · intro h
    have := congrArg (fun b : ByteArray => b.data.toList) (bl_inj h)
    simp only [Lib.extract_data, List.drop_zero, Nat.sub_zero] at this
    rw [← Lib.size_eq]
    exact this.symm
theorem ib_own {s : ByteArray} : (Lib.indexByte s.data.toList 10 = -1 ∧ ownB s = s) ∨ ∃ i : Nat, Lib.indexByte s.data.toList 10 = i ∧ i < s.size ∧ (⟨(Lib.trimSuffix (s.extract 0 i).data.toList [13]).toArray⟩ : ByteArray) = ownB s := by
  rcases ib_lf s.data.toList with ⟨h1, -⟩ | ⟨i, h1, h2, -⟩
  · exact .inl ⟨h1, own_miss h1⟩
  · exact .inr ⟨i, h1, by rw [Lib.size_eq]; exact h2, own_hit h1⟩
theorem endF_shift (k : Nat) : ∀ (l : List Nat) (b : Bool) (p : Nat), (b = true → 0 < p) → endF b (p + k) l = endF b p l + k
  | [], _, _, _ => rfl
  | c :: r, b, p, h => by
    rw [endF_cons, endF_cons]
    by_cases hc : c = 10
    · rw [if_pos hc, if_pos hc]
      cases b with
      | true => have := h rfl; simp; omega
      | false => rfl
    · rw [if_neg hc, if_neg hc, show p + k + 1 = p + 1 + k from by omega]
      exact endF_shift k r _ _ (fun _ => by omega)
theorem endL_split (a b : List Nat) (h : 10 ∉ a) : endL (a ++ 32 :: b) = endL b + (a.length + 1) := by
  unfold endL
  rw [show a ++ 32 :: b = (a ++ [32]) ++ b from by simp, endF_app (a ++ [32]) b false 0 (by simp [h]), lastB_snoc, List.length_append]
  exact endF_shift (a.length + 1) b false 0 (fun e => by cases e)
theorem endL_lf (x : List Nat) (c : Nat) (h : 10 ∉ x) (hc : c ≠ 10) (h13 : c ≠ 13) : endL (x ++ [c] ++ [10]) = x.length + 1 := by
  unfold endL
  rw [endF_app (x ++ [c]) [10] false 0 (by simp [h, Ne.symm hc]), lastB_snoc, beq_eq_false_iff_ne.2 h13, List.length_append]
  simp [endF]
theorem endF_flag (p : Nat) (v : List Nat) (h : v.head? ≠ some 10) : endF true p v = endF false p v := by
  cases v with
  | nil => rfl
  | cons c r =>
    have hc : c ≠ 10 := fun e => h (by simp [e])
    rw [endF_cons, endF_cons, if_neg hc, if_neg hc]
theorem endF_no : ∀ (l : List Nat) (b : Bool) (p : Nat), 10 ∉ l.take (endF b p l - p)
  | [], _, _ => by simp
  | c :: r, b, p => by
    rw [endF_cons]
    by_cases hc : c = 10
    · rw [if_pos hc]
      have e : (if b = true then p - 1 else p) - p = 0 := by split <;> omega
      rw [e]
      simp
    · rw [if_neg hc]
      have ih := endF_no r (c == 13) (p + 1)
      by_cases hz : endF (c == 13) (p + 1) r ≤ p
      · rw [show endF (c == 13) (p + 1) r - p = 0 from by omega]
        simp
      · rw [show endF (c == 13) (p + 1) r - p = (endF (c == 13) (p + 1) r - (p + 1)) + 1 from by omega, List.take_succ_cons]
        intro hm
        rcases List.mem_cons.1 hm with hm | hm
        · exact hc hm.symm
        · exact ih hm
theorem endL_drop (l : List Nat) (k : Nat) (hk : k ≤ endL l) : endL (l.drop k) = endL l - k := by
  have hn : 10 ∉ l.take k := fun hm => by
    have h0 := endF_no l false 0
    rw [Nat.sub_zero] at h0
    refine h0 ?_
    have hsub : l.take k <+: l.take (endF false 0 l) := List.take_prefix_take_left hk
    exact hsub.subset hm
  have hl := endL_le l
  have hkl : (l.take k).length = k := by rw [List.length_take]; omega
  have e : endL l = endF (lastB false (l.take k)) k (l.drop k) := by
    conv => lhs; unfold endL; rw [← List.take_append_drop k l]
    rw [endF_app _ _ _ _ hn, hkl, Nat.zero_add]
  have e2 : endF false k (l.drop k) = endL (l.drop k) + k := by
    have := endF_shift k (l.drop k) false 0 (fun e => by cases e)
    rw [Nat.zero_add] at this
    exact this
  cases hb : lastB false (l.take k) with
  | false => rw [hb] at e; omega
  | true =>
    rw [hb] at e
    by_cases hh : (l.drop k).head? = some 10
    · exfalso
      have hk0 : 0 < k := by
        rcases Nat.eq_zero_or_pos k with h | h
        · subst h; cases hb
        · exact h
      cases hd : l.drop k with
      | nil => rw [hd] at hh; cases hh
      | cons c r =>
        rw [hd] at hh e
        have hc : c = 10 := by simpa using hh
        rw [endF_cons, if_pos hc] at e
        simp at e
        omega
    · rw [endF_flag _ _ hh] at e
      omega
/-- Nothing more, or a blank. -/
def ptL : List Nat → Bool
  | [] => true
  | c :: _ => bk c
end Go.Proofs.YtopdbilkpkgccaaDoor
