/- The logical lines of Python and their blocks, in plain mathematics. What a line of Python's leaves: a state of Python's; events in order, within the line. States, as values: whatever cells they have, their type being one that a map may be keyed by. States in memory: a load, a store, a comparison, each as one step. What the documents of a state are, as cells: a text and two Bools each. States as values: what cells every state has; which states are Python's. Every state has the cells that its type says. Which states are Python's. Arguments: a state; arguments that read behind a call as they did. -/
import Derived.Test.YtmfcapbllbfjnaaGreatDoorYS
import Derived.Test.YtmfcapbllbfjnaaGreatDoorVA
import Derived.Test.YtmfcapbllbfjnaaGreatDoorBase
import Derived.Maps.Own
import Derived.MapViews
import Derived.DeepKeys4
import Derived.Deep.MidRow
import Derived.Laws.StructEq
import Derived.Great.BuildSlice
import Derived.Laws.ResultCell
import Derived.DeepKeys2
import Derived.Lib.SmallJoins
import Derived.OpenShut
import Derived.ChangeOld
import Derived.ReadAgain
import Derived.Deep.Slices
import Derived.Deep.Fields
import Derived.SizedLaws
namespace Go.Proofs.YtmfcapbllbfjnaaGreatDoor

/-- A state of Python's. -/
structure LSt where
  cols : List Nat
  mode : Nat
  mark : Nat
  flags : Nat
  count : Nat
structure LEv where
  op : Nat
  kind : Nat
  a : Nat
  b : Nat
def lst0 : LSt := ⟨[], 0, 0, 0, 0⟩
structure LOk (s : LSt) : Prop where
  len : s.cols.length ≤ 16
  up : s.cols.Pairwise (· < ·)
  lo : ∀ c ∈ s.cols, 1 ≤ c
  hi : ∀ c ∈ s.cols, c ≤ 8388608
  line : (s.mode = 0 ∧ s.mark = 0 ∧ s.count = 0 ∧ s.flags ≤ 1) ∨ (s.mode = 1 ∧ s.mark ≤ 4 ∧ s.count ≤ 1048576 ∧ (s.flags = 0 ∨ s.flags = 2))
theorem lst0_ok : LOk lst0 := ⟨by decide, List.Pairwise.nil, (fun c h => by cases h), (fun c h => by cases h), .inl ⟨rfl, rfl, rfl, by decide⟩⟩
/-- The column that is open. -/
def opnC (cols : List Nat) : Nat := cols.getLast?.getD 0
/-- The frames that a column keeps. -/
def keptC (col : Nat) (cols : List Nat) : List Nat := cols.takeWhile fun c => decide (c ≤ col)
def evO (k a : Nat) : LEv := ⟨1, k, a, 0⟩
def evC (k a : Nat) : LEv := ⟨2, k, a, 0⟩
def evL (k a b : Nat) : LEv := ⟨3, k, a, b⟩
def lfE (e : PEv) : LEv := ⟨3, e.kind, e.a, e.b⟩
/-- How many bytes an indentation has, and which column it comes to. -/
def indL : List Nat → Nat → Nat × Nat
  | [], c => (0, c)
  | b :: r, c => if b = 32 then ((indL r (c + 1)).1 + 1, (indL r (c + 1)).2) else if b = 9 then ((indL r ((c / 8 + 1) * 8)).1 + 1, (indL r ((c / 8 + 1) * 8)).2) else (0, c)
/-- What a line's layout tells, and which frames are there behind it. -/
def layL (cols : List Nat) (flags ti col : Nat) : List LEv × List Nat :=
  if opnC cols < col then
    if flags = 1 ∧ cols.length < 16 then ([evO 10 0], cols ++ [col]) else ([evL 2 0 ti], cols)
  else (List.replicate (cols.length - (keptC col cols).length) (evC 0 0) ++ (if flags = 1 ∨ opnC (keptC col cols) ≠ col then [evL 2 0 ti] else []), keptC col cols)
/-- What is told behind the layout. -/
def readL (cols : List Nat) (flags : Nat) (R : List PEv × PSt) (E : Nat) : List LEv × LSt :=
  if (R.2.j || R.2.mark != 0 || decide (0 < R.2.depth)) = true then (R.1.map lfE, ⟨cols, 1, R.2.mark, if (if R.2.s then R.2.c else flags == 2) = true then 2 else 0, R.2.depth.toNat⟩)
  else (R.1.map lfE ++ [evC (if (if R.2.s then R.2.c else flags == 2) = true then 12 else 11) E], ⟨cols, 0, 0, if (if R.2.s then R.2.c else flags == 2) = true then 1 else 0, 0⟩)
/-- What a line tells, from a state on. -/
def scanP (s : LSt) (l : List Nat) : List LEv × LSt :=
  if s.mode = 0 then
    if (indL l 0).1 = endL l then ([], s)
    else if l.getD (indL l 0).1 0 = 35 then ([evL 18 (indL l 0).1 (endL l)], s)
    else ((layL s.cols s.flags (indL l 0).1 (indL l 0).2).1 ++ [evO 11 (indL l 0).1] ++ (readL (layL s.cols s.flags (indL l 0).1 (indL l 0).2).2 s.flags (scanE l (indL l 0).1 s.mark s.count) (endL l)).1,
      (readL (layL s.cols s.flags (indL l 0).1 (indL l 0).2).2 s.flags (scanE l (indL l 0).1 s.mark s.count) (endL l)).2)
  else readL s.cols s.flags (scanE l 0 s.mark s.count) (endL l)
/-- What is told at a text's end. -/
def endP (s : LSt) : List LEv := if s.mode = 1 ∨ s.flags = 1 then [evL 2 0 0] else []

/-! The columns. -/
theorem opn_snoc (l : List Nat) (c : Nat) : opnC (l ++ [c]) = c := by unfold opnC; simp
theorem opn_take {l : List Nat} {k : Nat} (h : k < l.length) : opnC (l.take (k + 1)) = l[k] := by
  rw [List.take_succ_eq_append_getElem h, opn_snoc]
theorem kept_sub (col : Nat) (l : List Nat) : keptC col l <+: l := List.takeWhile_prefix _
theorem kept_len (col : Nat) (l : List Nat) : (keptC col l).length ≤ l.length := (kept_sub col l).length_le
theorem kept_take (col : Nat) (l : List Nat) : keptC col l = l.take (keptC col l).length := List.prefix_iff_eq_take.1 (kept_sub col l)
theorem kept_le {col c : Nat} {l : List Nat} (h : c ∈ keptC col l) : c ≤ col := by
  have := List.all_eq_true.1 (List.all_takeWhile (l := l) (p := fun c => decide (c ≤ col))) c h
  simpa using this
/-- In rising columns those that are kept are those that are no greater. -/
theorem kept_iff {col : Nat} : ∀ {l : List Nat}, l.Pairwise (· < ·) → ∀ {k : Nat} (h : k < l.length), (k < (keptC col l).length ↔ l[k] ≤ col)
  | [], _, k, h => absurd h (Nat.not_lt_zero _)
  | c :: r, hp, k, h => by
    obtain ⟨h1, h2⟩ := List.pairwise_cons.1 hp
    unfold keptC
    rw [List.takeWhile_cons]
    by_cases hc : c ≤ col
    · rw [if_pos (decide_eq_true hc)]
      cases k with
      | zero => simp [hc]
      | succ j =>
        have ih := kept_iff (col := col) h2 (k := j) (by simpa using h)
        unfold keptC at ih
        simpa using ih
    · rw [if_neg (by simpa using hc)]
      cases k with
      | zero => simp; omega
      | succ j =>
        have := h1 (r[j]'(by simpa using h)) (List.getElem_mem _)
        simp
        omega
theorem opn_le {l : List Nat} {M : Nat} (h : ∀ c ∈ l, c ≤ M) : opnC l ≤ M := by
  unfold opnC
  cases hl : l.getLast? with
  | none => exact Nat.zero_le _
  | some c => exact h c (List.mem_of_getLast? hl)
/-- What is kept, while frames go one by one. -/
theorem pop_on {col k : Nat} {l : List Nat} (hp : l.Pairwise (· < ·)) (hk : k ≤ l.length) (hg : (keptC col l).length ≤ k) (h : col < opnC (l.take k)) : 0 < k ∧ (keptC col l).length ≤ k - 1 := by
  cases k with
  | zero => simp [opnC] at h
  | succ j =>
    rw [opn_take hk] at h
    refine ⟨by omega, ?_⟩
    have := kept_iff (col := col) hp hk
    omega
theorem pop_end {col k : Nat} {l : List Nat} (hp : l.Pairwise (· < ·)) (hk : k ≤ l.length) (hg : (keptC col l).length ≤ k) (h : ¬ col < opnC (l.take k)) : k = (keptC col l).length := by
  cases k with
  | zero => omega
  | succ j =>
    rw [opn_take hk] at h
    have := (kept_iff (col := col) hp hk).2 (by omega)
    omega
theorem rise_snoc {l : List Nat} {c : Nat} (hp : l.Pairwise (· < ·)) (h : opnC l < c) : (l ++ [c]).Pairwise (· < ·) := by
  rw [List.pairwise_append]
  refine ⟨hp, List.pairwise_singleton _ _, fun a ha b hb => ?_⟩
  rw [List.mem_singleton] at hb
  subst hb
  have hle : ∀ x ∈ l, x ≤ opnC l := by
    intro x hx
    obtain ⟨i, hi, rfl⟩ := List.getElem_of_mem hx
    unfold opnC
    rw [List.getLast?_eq_getElem?]
    have hn : l.length - 1 < l.length := by omega
    rw [List.getElem?_eq_getElem hn]
    show l[i] ≤ l[l.length - 1]
    by_cases e : i = l.length - 1
    · subst e; exact Nat.le_refl _
    · exact Nat.le_of_lt (List.pairwise_iff_getElem.1 hp i (l.length - 1) hi hn (by omega))
  have := hle a ha
  omega

/-! The indentation. -/
theorem ind_len : ∀ (l : List Nat) (c : Nat), (indL l c).1 ≤ l.length
  | [], _ => Nat.le_refl _
  | b :: r, c => by
    unfold indL
    have h1 := ind_len r (c + 1)
    have h2 := ind_len r ((c / 8 + 1) * 8)
    (repeat' split) <;> simp <;> omega
theorem ind_col : ∀ (l : List Nat) (c : Nat), (indL l c).2 ≤ c + 8 * l.length
  | [], _ => by simp [indL]
  | b :: r, c => by
    unfold indL
    have h1 := ind_col r (c + 1)
    have h2 := ind_col r ((c / 8 + 1) * 8)
    (repeat' split) <;> simp <;> omega
theorem ind_blank : ∀ (l : List Nat) (c k : Nat), k < (indL l c).1 → l[k]? = some 32 ∨ l[k]? = some 9
  | [], _, k, h => absurd h (Nat.not_lt_zero _)
  | b :: r, c, k, h => by
    unfold indL at h
    by_cases h1 : b = 32
    · rw [if_pos h1] at h
      cases k with
      | zero => left; simp [h1]
      | succ j => simpa using ind_blank r (c + 1) j (by simpa using h)
    · rw [if_neg h1] at h
      by_cases h2 : b = 9
      · rw [if_pos h2] at h
        cases k with
        | zero => right; simp [h2]
        | succ j => simpa using ind_blank r _ j (by simpa using h)
      · rw [if_neg h2] at h
        exact absurd h (Nat.not_lt_zero _)
theorem ind_stop : ∀ (l : List Nat) (c : Nat), l[(indL l c).1]? ≠ some 32 ∧ l[(indL l c).1]? ≠ some 9
  | [], _ => by simp [indL]
  | b :: r, c => by
    unfold indL
    by_cases h1 : b = 32
    · rw [if_pos h1]; simpa using ind_stop r (c + 1)
    · rw [if_neg h1]
      by_cases h2 : b = 9
      · rw [if_pos h2]; simpa using ind_stop r _
      · rw [if_neg h2]; simp [h1, h2]
/-- The end's bytes are no blanks. -/
theorem endF_at : ∀ (l : List Nat) (b : Bool) (p : Nat), (b = true → 0 < p) → p ≤ endF b p l → ∀ k, endF b p l ≤ p + k → ∀ c, l[k]? = some c → (endF b p l = p + k → c = 10 ∨ c = 13)
  | [], b, p, _, _, k, _, c, hc, _ => by simp at hc
  | x :: r, b, p, hb, hp, k, hk, c, hc, he => by
    rw [endF] at he hp hk
    by_cases h10 : x = 10
    · rw [if_pos h10] at he hp hk
      cases b with
      | true => have := hb rfl; simp at hp; omega
      | false =>
        simp at he
        subst he
        simp at hc
        left; omega
    · rw [if_neg h10] at he hp hk
      cases k with
      | zero =>
        simp at hc
        subst hc
        cases h13 : (x == 13) with
        | true => right; simpa using h13
        | false =>
          exfalso
          rw [h13] at he
          have : ∀ (q : List Nat) (n : Nat), n ≤ endF false n q := fun q => by
            intro n
            have key : ∀ (q : List Nat) (bb : Bool) (n : Nat), n - (if bb then 1 else 0) ≤ endF bb n q := by
              intro q
              induction q with
              | nil => intro bb n; simp [endF]
              | cons y q ih =>
                intro bb n
                rw [endF]
                have := ih (y == 13) (n + 1)
                by_cases hy : y = 10
                · rw [if_pos hy]
                  cases bb <;> simp
                · rw [if_neg hy]
                  cases bb <;> cases hq : (y == 13) <;> rw [hq] at this <;> simp at this ⊢ <;> omega
            simpa using key q false n
          have := this r (p + 1)
          omega
      | succ j =>
        exact endF_at r (x == 13) (p + 1) (fun _ => by omega) (by omega) j (by omega) c (by simpa using hc) (by omega)
theorem ind_end (l : List Nat) : (indL l 0).1 ≤ endL l := by
  rcases Nat.lt_or_ge (endL l) (indL l 0).1 with h | h
  · exfalso
    have h1 := ind_blank l 0 _ h
    have hlt : endL l < l.length := Nat.lt_of_lt_of_le h (ind_len l 0)
    have h2 := endF_at l false 0 (fun e => by cases e) (Nat.zero_le _) (endL l) (by show endL l ≤ _; omega) _ (List.getElem?_eq_getElem hlt) (by show endL l = _; omega)
    rw [List.getElem?_eq_getElem hlt] at h1
    simp at h1
    omega
  · exact h
theorem ind_go {s : ByteArray} : ∀ (f p c : Nat), p + f = s.size → c + 64 * f ≤ 2199023255552 → goF s 8 farC f p c = (p + (indL ((bl s).drop p) c).1, ((indL ((bl s).drop p) c).2 : Int))
  | 0, p, c, h, _ => by
    rw [bl_end (by omega)]
    rfl
  | f + 1, p, c, h, hc => by
    have hp : p < s.size := by omega
    rw [bl_drop hp]
    unfold goF indL nxC
    by_cases h1 : bt s p = 32
    · rw [if_pos h1, if_pos h1]
      dsimp only
      rw [if_neg (by unfold farC; omega)]
      have ih := ind_go (s := s) f (p + 1) (c + 1) (by omega) (by omega)
      rw [show ((c : Int) + 1) = ((c + 1 : Nat) : Int) from by omega, ih]
      simp
      omega
    · rw [if_neg h1, if_neg h1]
      by_cases h2 : bt s p = 9
      · rw [if_pos h2, if_pos h2]
        dsimp only
        have e : ((c : Int) / 8 + 1) * 8 = (((c / 8 + 1) * 8 : Nat) : Int) := by omega
        rw [e, if_neg (by unfold farC; omega)]
        have ih := ind_go (s := s) f (p + 1) ((c / 8 + 1) * 8) (by omega) (by omega)
        rw [ih]
        simp
        omega
      · rw [if_neg h2, if_neg h2]
        simp
theorem inE_ind (s : ByteArray) (hs : (s.size : Int) ≤ 65536) : inE s 0 0 8 = (((indL (bl s) 0).1 : Int), ((indL (bl s) 0).2 : Int)) := by
  unfold inE
  rw [if_pos ⟨by omega, by omega, by omega, by omega, by omega, by omega⟩]
  have h := ind_go (s := s) s.size 0 0 (by omega) (by omega)
  unfold tkF
  rw [show (0 : Int).toNat = 0 from rfl, Nat.sub_zero]
  rw [show ((0 : Nat) : Int) = 0 from rfl, List.drop_zero, Nat.zero_add] at h
  rw [h]
end Go.Proofs.YtmfcapbllbfjnaaGreatDoor

namespace Go.Proofs.YtmfcapbllbfjnaaGreatDoor

theorem scanE_ok (l : List Nat) (a : Int) (m : Nat) (d : Int) : StOk (scanE l a m d).2 := by
  unfold scanE scanL
  have hlen : ((l.take (endL l)).drop (max a 0).toNat).length ≤ (l.take (endL l)).length := by rw [List.length_drop]; omega
  by_cases h : (max a 0).toNat ≤ (l.take (endL l)).length
  · exact (scan_cov (l.take (endL l)) _ (max a 0).toNat _ _ (st0_ok m d) rfl h hlen).2
  · rw [List.drop_of_length_le (by omega)]
    have : ∀ f p st, (scanF f p [] st) = ([], st) := fun f p st => by cases f <;> rfl
    rw [this]
    exact st0_ok m d
theorem scanE_cov (l : List Nat) (a : Nat) (m : Nat) (d : Int) (h : a ≤ endL l) : Cov (l.take (endL l)) a (scanE l a m d).1 := by
  have hle : (l.take (endL l)).length = endL l := by rw [List.length_take]; have := endL_le l; omega
  unfold scanE scanL
  have e : (max (a : Int) 0).toNat = a := by omega
  rw [e]
  exact (scan_cov (l.take (endL l)) _ a _ _ (st0_ok m d) rfl (by omega) (by rw [List.length_drop]; omega)).1
theorem read_ok {cols : List Nat} {flags E : Nat} {R : List PEv × PSt} (hR : StOk R.2) (h1 : cols.length ≤ 16) (h2 : cols.Pairwise (· < ·)) (h3 : ∀ c ∈ cols, 1 ≤ c) (h4 : ∀ c ∈ cols, c ≤ 8388608) : LOk (readL cols flags R E).2 := by
  have hm := hR.mark
  have hd0 := hR.d0
  have hd1 := hR.d1
  unfold readL
  split
  · refine ⟨h1, h2, h3, h4, .inr ⟨rfl, hm, ?_, ?_⟩⟩
    · show R.2.depth.toNat ≤ _; omega
    · show (if (if R.2.s then R.2.c else flags == 2) = true then 2 else 0) = 0 ∨ (if (if R.2.s then R.2.c else flags == 2) = true then 2 else 0) = 2
      by_cases h : (if R.2.s then R.2.c else flags == 2) = true
      · exact .inr (if_pos h)
      · exact .inl (if_neg h)
  · refine ⟨h1, h2, h3, h4, .inl ⟨rfl, rfl, rfl, ?_⟩⟩
    show (if (if R.2.s then R.2.c else flags == 2) = true then 1 else 0) ≤ 1
    by_cases h : (if R.2.s then R.2.c else flags == 2) = true
    · rw [if_pos h]; exact Nat.le_refl _
    · rw [if_neg h]; exact Nat.zero_le _
theorem lay_ok {cols : List Nat} {flags ti col : Nat} (h1 : cols.length ≤ 16) (h2 : cols.Pairwise (· < ·)) (h3 : ∀ c ∈ cols, 1 ≤ c) (h4 : ∀ c ∈ cols, c ≤ 8388608) (hc : col ≤ 8388608) :
    (layL cols flags ti col).2.length ≤ 16 ∧ (layL cols flags ti col).2.Pairwise (· < ·) ∧ (∀ c ∈ (layL cols flags ti col).2, 1 ≤ c) ∧ (∀ c ∈ (layL cols flags ti col).2, c ≤ 8388608) := by
  unfold layL
  split
  · rename_i hlt
    split
    · rename_i hf
      refine ⟨by rw [List.length_append, List.length_singleton]; omega, rise_snoc h2 hlt, fun c hc' => ?_, fun c hc' => ?_⟩
      · rcases List.mem_append.1 hc' with h | h
        · exact h3 c h
        · rw [List.mem_singleton] at h; omega
      · rcases List.mem_append.1 hc' with h | h
        · exact h4 c h
        · rw [List.mem_singleton] at h; omega
    · exact ⟨h1, h2, h3, h4⟩
  · have hs := (kept_sub col cols).sublist
    exact ⟨Nat.le_trans (kept_len col cols) h1, h2.sublist hs, fun c h => h3 c (hs.subset h), fun c h => h4 c (hs.subset h)⟩
theorem scanP_ok {s : LSt} {l : List Nat} (h : LOk s) (hl : l.length ≤ 1048576) : LOk (scanP s l).2 := by
  unfold scanP
  split
  · split
    · exact h
    · split
      · exact h
      · obtain ⟨k1, k2, k3, k4⟩ := lay_ok (flags := s.flags) (ti := (indL l 0).1) h.len h.up h.lo h.hi (show (indL l 0).2 ≤ 8388608 by have := ind_col l 0; omega)
        exact read_ok (scanE_ok _ _ _ _) k1 k2 k3 k4
  · exact read_ok (scanE_ok _ _ _ _) h.len h.up h.lo h.hi
/-- How many nodes are open. -/
def opnN (s : LSt) : Nat := s.cols.length + s.mode
/-- Events in order, within n bytes: where one stands behind them, and how many nodes are open. -/
def chkL (n : Nat) : List LEv → Nat → Nat → Option (Nat × Nat)
  | [], p, k => some (p, k)
  | e :: r, p, k => if p ≤ e.a ∧ e.a ≤ n then
      (if e.op = 1 then (if e.b = 0 then chkL n r e.a (k + 1) else none)
       else if e.op = 2 then (if e.b = 0 ∧ 0 < k then chkL n r e.a (k - 1) else none)
       else if e.op = 3 then (if e.a ≤ e.b ∧ e.b ≤ n then chkL n r e.b k else none) else none) else none
theorem chk_app (n : Nat) : ∀ (a b : List LEv) (p k : Nat), chkL n (a ++ b) p k = (chkL n a p k).bind fun x => chkL n b x.1 x.2
  | [], _, _, _ => rfl
  | e :: r, b, p, k => by
    rw [List.cons_append, chkL, chkL]
    (repeat' split) <;> first | exact chk_app n r b _ _ | rfl
theorem chk_open {n p k : Nat} {e : LEv} {r : List LEv} (h : e.op = 1) (h1 : p ≤ e.a) (h2 : e.a ≤ n) (h3 : e.b = 0) : chkL n (e :: r) p k = chkL n r e.a (k + 1) := by
  rw [chkL, if_pos ⟨h1, h2⟩, if_pos h, if_pos h3]
theorem chk_close {n p k : Nat} {e : LEv} {r : List LEv} (h : e.op = 2) (h1 : p ≤ e.a) (h2 : e.a ≤ n) (h3 : e.b = 0) (h4 : 0 < k) : chkL n (e :: r) p k = chkL n r e.a (k - 1) := by
  rw [chkL, if_pos ⟨h1, h2⟩, if_neg (by omega), if_pos h, if_pos ⟨h3, h4⟩]
theorem chk_leaf {n p k : Nat} {e : LEv} {r : List LEv} (h : e.op = 3) (h1 : p ≤ e.a) (h2 : e.a ≤ e.b) (h3 : e.b ≤ n) : chkL n (e :: r) p k = chkL n r e.b k := by
  rw [chkL, if_pos ⟨h1, by omega⟩, if_neg (by omega), if_neg (by omega), if_pos h, if_pos ⟨h2, h3⟩]
theorem chk_leaves (n : Nat) (t : List Nat) (k : Nat) (ht : t.length ≤ n) : ∀ (es : List PEv) (p : Nat), Cov t p es → p ≤ n → ∃ q, chkL n (es.map lfE) p k = some (q, k) ∧ p ≤ q ∧ q ≤ t.length
  | [], p, h, _ => ⟨p, rfl, Nat.le_refl _, h.1⟩
  | e :: r, p, h, hp => by
    obtain ⟨h1, h2, h3, h4, h5, h6⟩ := h
    obtain ⟨q, g1, g2, g3⟩ := chk_leaves n t k ht r e.b h6 (by omega)
    refine ⟨q, ?_, by omega, g3⟩
    rw [List.map_cons, chk_leaf (e := lfE e) rfl h1 (show e.a ≤ e.b by omega) (show e.b ≤ n by omega)]
    exact g1
theorem chk_closes (n : Nat) (r : List LEv) : ∀ (m k : Nat), m ≤ k → chkL n (List.replicate m (evC 0 0) ++ r) 0 k = chkL n r 0 (k - m)
  | 0, k, _ => rfl
  | m + 1, k, h => by
    rw [List.replicate_succ, List.cons_append, chk_close (p := 0) (e := evC 0 0) rfl (Nat.le_refl _) (Nat.zero_le _) rfl (by omega)]
    show chkL n (List.replicate m (evC 0 0) ++ r) 0 (k - 1) = _
    rw [chk_closes n r m (k - 1) (by omega)]
    congr 1
    omega
theorem chk_lay {n : Nat} {cols : List Nat} {flags ti col : Nat} (hto : ti ≤ n) : ∃ q, chkL n (layL cols flags ti col).1 0 cols.length = some (q, (layL cols flags ti col).2.length) ∧ q ≤ ti := by
  unfold layL
  split
  · split
    · refine ⟨0, ?_, Nat.zero_le _⟩
      simp [chkL, evO]
    · refine ⟨ti, ?_, Nat.le_refl _⟩
      simp [chkL, evL, hto]
  · have hk := kept_len col cols
    rw [chk_closes n _ _ _ (by omega)]
    have e : cols.length - (cols.length - (keptC col cols).length) = (keptC col cols).length := by omega
    split
    · refine ⟨ti, ?_, Nat.le_refl _⟩
      simp [chkL, evL, hto, e]
    · refine ⟨0, ?_, Nat.zero_le _⟩
      simp [chkL, e]
theorem chk_read {n E p : Nat} {cols : List Nat} {flags : Nat} {R : List PEv × PSt} {t : List Nat} (ht : t.length = E) (hE : E ≤ n) (hc : Cov t p R.1) (hp : p ≤ n) (k : Nat) (hk : cols.length + 1 = k) :
    ∃ q, chkL n (readL cols flags R E).1 p k = some (q, opnN (readL cols flags R E).2) := by
  obtain ⟨q, g1, g2, g3⟩ := chk_leaves n t k (by omega) R.1 p hc hp
  unfold readL
  split
  · exact ⟨q, by rw [g1, ← hk]; rfl⟩
  · refine ⟨E, ?_⟩
    rw [chk_app, g1]
    show chkL n [evC (if (if R.2.s then R.2.c else flags == 2) = true then 12 else 11) E] q k = _
    rw [chk_close rfl (show q ≤ E by omega) hE rfl (by omega), ← hk]
    rfl
/-- P12.5. -/
theorem scanP_sound {s : LSt} {l : List Nat} (h : LOk s) : ∃ q, chkL l.length (scanP s l).1 0 (opnN s) = some (q, opnN (scanP s l).2) := by
  have hE := endL_le l
  have ht : (l.take (endL l)).length = endL l := by rw [List.length_take]; omega
  unfold scanP
  by_cases hm : s.mode = 0
  · rw [if_pos hm]
    have hto := ind_end l
    have ho : opnN s = s.cols.length := by unfold opnN; omega
    split
    · exact ⟨0, rfl⟩
    · split
      · refine ⟨endL l, ?_⟩
        show chkL _ [evL 18 (indL l 0).1 (endL l)] 0 _ = _
        rw [chk_leaf rfl (Nat.zero_le _) hto hE]
        rfl
      · obtain ⟨q, g1, g2⟩ := chk_lay (n := l.length) (cols := s.cols) (flags := s.flags) (ti := (indL l 0).1) (col := (indL l 0).2) (by omega)
        have hc := scanE_cov l (indL l 0).1 s.mark s.count hto
        obtain ⟨q2, g3⟩ := chk_read (n := l.length) (cols := (layL s.cols s.flags (indL l 0).1 (indL l 0).2).2) (flags := s.flags) ht hE hc (by omega) _ rfl
        refine ⟨q2, ?_⟩
        rw [List.append_assoc, chk_app, ho, g1]
        show chkL _ (evO 11 (indL l 0).1 :: _) q _ = _
        rw [chk_open rfl g2 (show (indL l 0).1 ≤ l.length by omega) rfl]
        exact g3
  · rw [if_neg hm]
    have ho : s.cols.length + 1 = opnN s := by
      unfold opnN
      rcases h.line with h | h <;> omega
    have hc := scanE_cov l 0 s.mark s.count (Nat.zero_le _)
    exact chk_read ht hE hc (Nat.zero_le _) _ ho
end Go.Proofs.YtmfcapbllbfjnaaGreatDoor

namespace Go.Proofs.YtmfcapbllbfjnaaGreatDoor
open Go.RowKit

abbrev TS : TypeId := 29
theorem laidOut : laidOutB Tryz.prog = true := by kernel_rfl
theorem sRow : TS < Tryz.prog.types.size := of_decide_eq_true (by kernel_rfl)
theorem sDeep : Tryz.prog.keyTypeAt (Tryz.prog.types.size + 1) TS = true := by kernel_rfl
theorem sDeep4 : Tryz.prog.keyTypeAt 4 TS = true := by kernel_rfl
theorem sWide : (match Tryz.prog.underlying TS with | some (.array _ _) | some (.struct _) => true | _ => false) = true := by kernel_rfl
set_option maxRecDepth 100000 in
theorem sLaw : WideMaps.KeyLaw Tryz.prog TS := deep_law_laid laidOut (m := 4) (by omega) sRow sDeep4 sWide
theorem sCells : Tryz.prog.cellsOf TS = 82 := by kernel_rfl
theorem sInfo : (Tryz.prog.info? TS).map (·.size) = some 82 := by kernel_rfl
theorem sVar : isVar Tryz.prog TS = true := by kernel_rfl
/-- Its texts are no longer than the form's own reach. -/
def shortB (x : Array Value) : Bool := x.toList.all fun v => match v with | .string s => decide (s.size ≤ 140737488355328) | _ => true
theorem short_at {x : Array Value} (h : shortB x = true) {s : ByteArray} (hs : Value.string s ∈ x.toList) : s.size ≤ 140737488355328 := by
  have := List.all_eq_true.1 h _ hs
  simpa using this
/-- The cells of a state. -/
def IsS (x : Array Value) : Prop := (∃ l, keyOf Tryz.prog TS (.agg x) = some l) ∧ shortB x = true
set_option maxRecDepth 100000 in
theorem IsS.lits {x : Array Value} (h : IsS x) : ∃ L : List Lit, Tryz.prog.keyLits (Tryz.prog.types.size + 1) TS x.toList = some L := by
  obtain ⟨⟨l, hl⟩, -⟩ := h
  obtain ⟨xs, L, e, h1, -⟩ := keyOf_top sWide hl
  injection e with e
  subst e
  exact ⟨L, h1⟩
theorem sUnd : ∃ fs, Tryz.prog.underlying TS = some (.struct fs) := ⟨_, Tryz.underlying29⟩
set_option maxRecDepth 100000 in
theorem IsS.size {x : Array Value} (h : IsS x) : x.size = 82 := by
  obtain ⟨L, hL⟩ := h.lits
  obtain ⟨fs, hu⟩ := sUnd
  unfold Program.keyLits at hL
  simp only [hu] at hL
  split at hL
  · rename_i k
    have := k.1
    rw [sCells] at this
    simpa using this
  · cases hL
set_option maxRecDepth 100000 in
theorem IsS.one {x : Array Value} (h : IsS x) : x.all (·.oneCell') = true := by
  obtain ⟨L, hL⟩ := h.lits
  have hc := cells_of_lits (P := Tryz.prog) 4 TS (tiled_of_laidOut laidOut 4 TS sVar sDeep4) _ _ _ hL
  rw [Array.all_eq_true_iff_forall_mem]
  intro v hv
  have hv' : v ∈ L.map Lit.toCell := by rw [← hc]; simpa using hv
  rw [List.mem_map] at hv'
  obtain ⟨l, -, rfl⟩ := hv'
  cases l <;> rfl
noncomputable def eqS (x y : Array Value) : Bool := @decide (x = y) (Classical.propDecidable _)
theorem eqS_true {x y : Array Value} : eqS x y = true ↔ x = y := by unfold eqS; simp
theorem eqS_self (x : Array Value) : eqS x x = true := eqS_true.2 rfl
theorem eqS_comm (x y : Array Value) : eqS x y = eqS y x := by rw [Bool.eq_iff_iff, eqS_true, eqS_true]; exact ⟨Eq.symm, Eq.symm⟩
set_option maxRecDepth 100000 in
theorem run_equal_S {x y : Array Value} (hx : IsS x) (hy : IsS y) (w : World) : (Op.equal TS (.agg x) (.agg y)).run Tryz.prog w = .ok (eqS x y) w := by
  obtain ⟨⟨lx, h1⟩, -⟩ := hx
  obtain ⟨⟨ly, h2⟩, -⟩ := hy
  obtain ⟨r, hr, hi⟩ := run_equal_deep w (m := 4) (by omega) sDeep4 sWide h1 h2
  rw [hr]
  congr 1
  rw [Bool.eq_iff_iff, eqS_true, hi]
  constructor
  · rintro rfl
    have := sLaw.inj h1 h2
    injection this
  · rintro rfl
    rw [h1] at h2
    injection h2
theorem run_eql_S {x y : Array Value} (hx : IsS x) (hy : IsS y) (w : World) : (binOp .eql TS (.agg x) (.agg y)).run Tryz.prog w = .ok (.bool (eqS x y)) w := by
  simp only [binOp]
  simp [run_equal_S hx hy]
theorem run_neq_S {x y : Array Value} (hx : IsS x) (hy : IsS y) (w : World) : (binOp .neq TS (.agg x) (.agg y)).run Tryz.prog w = .ok (.bool (!eqS x y)) w := by
  simp only [binOp]
  simp [run_equal_S hx hy]
/-- The state of zeros. -/
noncomputable def z0 : Array Value := match Tryz.prog.info? TS with
  | some i => match i.zero with
    | some (.agg x) => x
    | _ => #[]
  | none => #[]
set_option maxRecDepth 100000 in
theorem z0_info : (Tryz.prog.info? TS).map (·.zero) = some (some (.agg z0)) := by kernel_rfl
set_option maxRecDepth 100000 in
theorem z0_is : IsS z0 := ⟨⟨((keyOf Tryz.prog TS (.agg z0)).getD (.bool false)), by kernel_rfl⟩, by kernel_rfl⟩
/-- A state in memory. -/
theorem load_S {x : Array Value} (h : IsS x) {w : World} {b o : Nat} (hr : w.rangeAt b o x.toList) : (Instr.loadAt TS (.pointer (some ⟨b, o, none⟩))).run Tryz.prog w = .ok (.agg x) w := by
  have := run_loadAt_mid (P := Tryz.prog) w b o TS x.toList _ hr (show Tryz.prog.underlying TS = some ((Tryz.prog.underlying TS).getD .bool) by kernel_rfl) (by kernel_rfl) (by rw [sInfo]; simp [h.size])
  rwa [Array.toArray_toList] at this
theorem store_S {x : Array Value} (h : IsS x) {w : World} {b o : Nat} (ht : w.there b o 82) : (Instr.storeAt TS (.pointer (some ⟨b, o, none⟩)) (.agg x)).run Tryz.prog w = .ok () (w.setCells b o x.toList) :=
  run_storeAt_mid (P := Tryz.prog) w b o TS x (by rw [h.size]; exact ht) (by rw [sInfo, h.size]) h.one
theorem range_box (w : World) (x : Array Value) (t : TypeId) : (w.alloc (.cells x t)).rangeAt w.heap.size 0 x.toList := fun j v hv => by
  rw [Nat.zero_add]
  exact cellOf (Go.heap_alloc_new _ _) (by simpa using hv)
theorem range_up {w w' : World} (hu : Up w w') {b o : Nat} {l : List Value} (h : w.rangeAt b o l) : w'.rangeAt b o l := fun j v hv => cell_up hu (h j v hv)
end Go.Proofs.YtmfcapbllbfjnaaGreatDoor

namespace Go.Proofs.YtmfcapbllbfjnaaGreatDoor
open Go.RowKit

set_option maxRecDepth 100000 in
theorem range_one {w : World} {b o : Nat} {x y : Array Value} (hx : IsS x) (hy : IsS y) (h : w.rangeAt b o x.toList) (k : w.rangeAt b o y.toList) : x = y := by
  apply Array.ext (by rw [hx.size, hy.size])
  intro i h1 h2
  have e1 := h i x[i] (by simp)
  have e2 := k i y[i] (by simp)
  rw [e1] at e2
  injection e2
open Classical in
/-- What a load of a state gives. -/
noncomputable def ldV (v : Value) (w : World) : Option Value := if h : ∃ x : Array Value, ∃ b o, v = .pointer (some ⟨b, o, none⟩) ∧ IsS x ∧ w.rangeAt b o x.toList then some (.agg (Classical.choose h)) else none
set_option maxRecDepth 100000 in
theorem ldV_of {w : World} {b o : Nat} {x : Array Value} (hx : IsS x) (h : w.rangeAt b o x.toList) : ldV (.pointer (some ⟨b, o, none⟩)) w = some (.agg x) := by
  have he : ∃ x : Array Value, ∃ b' o', (Value.pointer (some ⟨b, o, none⟩)) = .pointer (some ⟨b', o', none⟩) ∧ IsS x ∧ w.rangeAt b' o' x.toList := ⟨x, b, o, rfl, hx, h⟩
  unfold ldV
  rw [dif_pos he]
  obtain ⟨b', o', e, h1, h2⟩ := Classical.choose_spec he
  injection e with e; injection e with e; injection e with e1 e2
  subst e1; subst e2
  rw [range_one h1 hx h2 h]
set_option maxRecDepth 100000 in
theorem ldV_inv {w : World} {v u : Value} (h : ldV v w = some u) : ∃ x b o, v = .pointer (some ⟨b, o, none⟩) ∧ u = .agg x ∧ IsS x ∧ w.rangeAt b o x.toList := by
  unfold ldV at h
  split at h
  · rename_i he
    injection h with h
    obtain ⟨b, o, h1, h2, h3⟩ := Classical.choose_spec he
    exact ⟨_, b, o, h1, h.symm, h2, h3⟩
  · cases h
set_option maxRecDepth 100000 in
theorem ldV_drew (v : Value) (w : World) : ldV v w.drew = ldV v w := rfl
set_option maxRecDepth 100000 in
theorem ldV_drewN (v : Value) (w : World) (n : Nat) : ldV v (w.drewN n) = ldV v w := rfl
set_option maxRecDepth 100000 in
theorem ldV_up {w w' : World} (hu : Up w w') {v u : Value} (h : ldV v w = some u) : ldV v w' = some u := by
  obtain ⟨x, b, o, rfl, rfl, hx, hr⟩ := ldV_inv h
  exact ldV_of hx (range_up hu hr)
/-- A load that is no load of a state. -/
noncomputable def ldBad (v : Value) (w : World) : Result Value := (Instr.loadAt TS v).run Tryz.prog w
set_option maxRecDepth 100000 in
theorem ld_rule (v : Value) (w : World) : (Instr.loadAt TS v).run Tryz.prog w = match ldV v w with | some u => .ok u w | none => ldBad v w := by
  cases h : ldV v w with
  | none => rfl
  | some u =>
    obtain ⟨x, b, o, rfl, rfl, hx, hr⟩ := ldV_inv h
    exact load_S hx hr
open Classical in
/-- What a store of a state leaves. -/
noncomputable def stV (v u : Value) (w : World) : Option World := if h : ∃ x : Array Value, ∃ b o, v = .pointer (some ⟨b, o, none⟩) ∧ u = .agg x ∧ IsS x ∧ w.there b o 82 then
    some (w.setCells (Classical.choose (Classical.choose_spec h)) (Classical.choose (Classical.choose_spec (Classical.choose_spec h))) (Classical.choose h).toList) else none
set_option maxRecDepth 100000 in
theorem stV_of {w : World} {b o : Nat} {x : Array Value} (hx : IsS x) (h : w.there b o 82) : stV (.pointer (some ⟨b, o, none⟩)) (.agg x) w = some (w.setCells b o x.toList) := by
  have he : ∃ y : Array Value, ∃ b' o', (Value.pointer (some ⟨b, o, none⟩)) = .pointer (some ⟨b', o', none⟩) ∧ Value.agg x = .agg y ∧ IsS y ∧ w.there b' o' 82 := ⟨x, b, o, rfl, rfl, hx, h⟩
  unfold stV
  rw [dif_pos he]
  have hs := Classical.choose_spec (Classical.choose_spec (Classical.choose_spec he))
  generalize Classical.choose (Classical.choose_spec (Classical.choose_spec he)) = o' at hs ⊢
  generalize Classical.choose (Classical.choose_spec he) = b' at hs ⊢
  generalize Classical.choose he = y at hs ⊢
  obtain ⟨e, e', -, -⟩ := hs
  injection e with e; injection e with e; injection e with e1 e2
  injection e' with e3
  rw [e1, e2, e3]
set_option maxRecDepth 100000 in
theorem stV_inv {w w' : World} {v u : Value} (h : stV v u w = some w') : ∃ x b o, v = .pointer (some ⟨b, o, none⟩) ∧ u = .agg x ∧ IsS x ∧ w.there b o 82 ∧ w' = w.setCells b o x.toList := by
  unfold stV at h
  split at h
  · rename_i he
    injection h with h
    obtain ⟨h1, h2, h3, h4⟩ := Classical.choose_spec (Classical.choose_spec (Classical.choose_spec he))
    exact ⟨_, _, _, h1, h2, h3, h4, h.symm⟩
  · cases h
noncomputable def stBad (v u : Value) (w : World) : Result Unit := (Instr.storeAt TS v u).run Tryz.prog w
set_option maxRecDepth 100000 in
theorem st_rule (v u : Value) (w : World) : (Instr.storeAt TS v u).run Tryz.prog w = match stV v u w with | some w' => .ok () w' | none => stBad v u w := by
  cases h : stV v u w with
  | none => rfl
  | some w' =>
    obtain ⟨x, b, o, rfl, rfl, hx, ht, rfl⟩ := stV_inv h
    exact store_S hx ht
open Classical in
/-- What a comparison of states gives. -/
noncomputable def eqV (x y : Array Value) : Option Bool := if IsS x ∧ IsS y then some (eqS x y) else none
set_option maxRecDepth 100000 in
theorem eqV_of {x y : Array Value} (hx : IsS x) (hy : IsS y) : eqV x y = some (eqS x y) := by unfold eqV; rw [if_pos ⟨hx, hy⟩]
set_option maxRecDepth 100000 in
theorem eqV_inv {x y : Array Value} {b : Bool} (h : eqV x y = some b) : IsS x ∧ IsS y ∧ eqS x y = b := by
  unfold eqV at h
  split at h
  · rename_i k
    injection h with h
    exact ⟨k.1, k.2, h⟩
  · cases h
noncomputable def eqlBad (x y : Array Value) (w : World) : Result Value := (binOp .eql TS (.agg x) (.agg y)).run Tryz.prog w
noncomputable def neqBad (x y : Array Value) (w : World) : Result Value := (binOp .neq TS (.agg x) (.agg y)).run Tryz.prog w
set_option maxRecDepth 100000 in
theorem eql_rule (x y : Array Value) (w : World) : (binOp .eql TS (.agg x) (.agg y)).run Tryz.prog w = match eqV x y with | some b => .ok (.bool b) w | none => eqlBad x y w := by
  cases h : eqV x y with
  | none => rfl
  | some b =>
    obtain ⟨hx, hy, rfl⟩ := eqV_inv h
    exact run_eql_S hx hy w
set_option maxRecDepth 100000 in
theorem neq_rule (x y : Array Value) (w : World) : (binOp .neq TS (.agg x) (.agg y)).run Tryz.prog w = match eqV x y with | some b => .ok (.bool (!b)) w | none => neqBad x y w := by
  cases h : eqV x y with
  | none => rfl
  | some b =>
    obtain ⟨hx, hy, rfl⟩ := eqV_inv h
    exact run_neq_S hx hy w
/-- The four steps, shut. -/
@[irreducible] def ldS (v : Value) : Sem Value := Instr.loadAt TS v
@[irreducible] def stS (v u : Value) : Sem Unit := Instr.storeAt TS v u
@[irreducible] def elS (x y : Value) : Sem Value := binOp .eql TS x y
@[irreducible] def neS (x y : Value) : Sem Value := binOp .neq TS x y
@[irreducible] def zrS : Sem Value := zeroValue TS
set_option maxRecDepth 100000 in
theorem ldS_eq (v : Value) : Instr.loadAt TS v = ldS v := by unfold ldS; rfl
set_option maxRecDepth 100000 in
theorem stS_eq (v u : Value) : Instr.storeAt TS v u = stS v u := by unfold stS; rfl
set_option maxRecDepth 100000 in
theorem elS_eq (x y : Value) : binOp .eql TS x y = elS x y := by unfold elS; rfl
set_option maxRecDepth 100000 in
theorem neS_eq (x y : Value) : binOp .neq TS x y = neS x y := by unfold neS; rfl
set_option maxRecDepth 100000 in
theorem zrS_eq : zeroValue TS = zrS := by unfold zrS; rfl
set_option maxRecDepth 100000 in
theorem ldS_run (v : Value) (w : World) : (ldS v).run Tryz.prog w = match ldV v w with | some u => .ok u w | none => ldBad v w := by rw [← ldS_eq]; exact ld_rule v w
set_option maxRecDepth 100000 in
theorem stS_run (v u : Value) (w : World) : (stS v u).run Tryz.prog w = match stV v u w with | some w' => .ok () w' | none => stBad v u w := by rw [← stS_eq]; exact st_rule v u w
set_option maxRecDepth 100000 in
theorem elS_run (x y : Array Value) (w : World) : (elS (.agg x) (.agg y)).run Tryz.prog w = match eqV x y with | some b => .ok (.bool b) w | none => eqlBad x y w := by rw [← elS_eq]; exact eql_rule x y w
set_option maxRecDepth 100000 in
theorem neS_run (x y : Array Value) (w : World) : (neS (.agg x) (.agg y)).run Tryz.prog w = match eqV x y with | some b => .ok (.bool (!b)) w | none => neqBad x y w := by rw [← neS_eq]; exact neq_rule x y w
set_option maxRecDepth 100000 in
theorem zrS_run (w : World) : zrS.run Tryz.prog w = .ok (.agg z0) w := by
  rw [← zrS_eq]
  kernel_rfl
set_option maxRecDepth 100000 in
theorem sInfo' : ∃ i, Tryz.prog.info? TS = some i ∧ i.zero = some (.agg z0) ∧ i.size = 82 := by
  have h1 := z0_info
  have h2 := sInfo
  cases h : Tryz.prog.info? TS with
  | none => rw [h] at h1; cases h1
  | some i =>
    rw [h] at h1 h2
    exact ⟨i, rfl, by simpa using h1, by simpa using h2⟩
noncomputable def okS (x : Array Value) : Bool := @decide (IsS x) (Classical.propDecidable _)
set_option maxRecDepth 100000 in
theorem okS_of {x : Array Value} (h : IsS x) : okS x = true := by unfold okS; simp [h]
@[irreducible] def bdS (ps : Array (Nat × Value)) : Sem Value := Instr.build TS ps
set_option maxRecDepth 100000 in
theorem bdS_eq (ps : Array (Nat × Value)) : Instr.build TS ps = bdS ps := by unfold bdS; rfl
noncomputable def z1 : Array Value := ((Tryz.prog.built TS [(2, .int .u8 1)])).getD #[]
set_option maxRecDepth 100000 in
theorem bdS_run0 (w : World) : (bdS #[]).run Tryz.prog w = .ok (.agg z0) w := by rw [← bdS_eq]; kernel_rfl
set_option maxRecDepth 100000 in
theorem bdS_run1 (w : World) : (bdS #[(2, .int .u8 1)]).run Tryz.prog w = .ok (.agg z1) w := by rw [← bdS_eq]; kernel_rfl
set_option maxRecDepth 100000 in
theorem z1_is : IsS z1 := ⟨⟨((keyOf Tryz.prog TS (.agg z1)).getD (.bool false)), by kernel_rfl⟩, by kernel_rfl⟩
set_option maxRecDepth 100000 in
theorem z01 : z0 ≠ z1 := fun h => by
  have e0 : z0[65]? = some (.int .u8 0) := by kernel_rfl
  have e1 : z1[65]? = some (.int .u8 1) := by kernel_rfl
  rw [h, e1] at e0
  cases e0
set_option maxRecDepth 100000 in
theorem there_box (w : World) {x : Array Value} (hx : IsS x) (t : TypeId) : (w.alloc (.cells x t)).there w.heap.size 0 82 := fun j hj => by
  rw [Nat.zero_add]
  have hj' : j < x.size := by rw [hx.size]; exact hj
  exact ⟨by rw [cellOf (Go.heap_alloc_new w _) (Array.getElem?_eq_getElem hj')]; rfl, frozenOf (Go.heap_alloc_new w _)⟩
set_option maxRecDepth 100000 in
theorem set_ld {w : World} {b o : Nat} {y : Array Value} (hy : IsS y) (ht : w.there b o 82) : ldV (.pointer (some ⟨b, o, none⟩)) (w.setCells b o y.toList) = some (.agg y) :=
  ldV_of hy (World.rangeAt_setCells_same w b o y.toList (by rw [Array.length_toList, hy.size]; exact ht))
set_option maxRecDepth 100000 in
theorem set_below (B b : Nat) (hb : B ≤ b) : ∀ (l : List Value) (o : Nat) (w w0 : World), Below B w0 w → Below B w0 (w.setCells b o l)
  | [], _, _, _, h => h
  | v :: r, o, _, w0, h => set_below B b hb r (o + 1) _ w0 (Below.setCell h (p := ⟨b, o, none⟩) hb v)
set_option maxRecDepth 100000 in
theorem set_upS {w W : World} {b o : Nat} {l : List Value} (h : Up w W) (hb : w.heap.size ≤ b) : Up w (W.setCells b o l) := set_below w.heap.size b hb l o W w h
set_option maxRecDepth 100000 in
theorem ldVar_of {v u : Value} {w : World} (h : ldV v w = some u) : ∃ a, v = .pointer (some a) ∧ (loadVar TS a).run Tryz.prog w = .ok u w := by
  obtain ⟨x, b, o, rfl, rfl, hx, hr⟩ := ldV_inv h
  refine ⟨_, rfl, ?_⟩
  have := run_loadVar_mid (P := Tryz.prog) w b o TS x.toList _ hr (show Tryz.prog.underlying TS = some ((Tryz.prog.underlying TS).getD .bool) by kernel_rfl) (by kernel_rfl) (by rw [sInfo]; simp [hx.size])
  rwa [Array.toArray_toList] at this
set_option maxRecDepth 100000 in
theorem res_S {fn : Func} {p u : Tmp} (h : fn.results = #[.cell p TS, .tmp u]) (tmps : Array Value) (w : World) (a : Addr) (v : Value) (hp : tmps.getD p undef = .pointer (some a)) (hv : ldV (.pointer (some a)) w = some v) :
    (results fn tmps).run Tryz.prog w = .ok (.tuple #[v, tmps.getD u undef]) w := by
  obtain ⟨a', e, h2⟩ := ldVar_of hv
  injection e with e; injection e with e
  subst e
  rw [results_cell_tmp h, hp]
  simp only [asAddr, Sem.run_pure, Result.andThen_ok, h2]
set_option maxRecDepth 100000 in
theorem g0_rule : Tryz.prog.eqGuardType Tryz.prog.depth TS = false := by kernel_rfl
end Go.Proofs.YtmfcapbllbfjnaaGreatDoor

namespace Go.Proofs.YtmfcapbllbfjnaaGreatDoor
open Go.RowKit

abbrev DS : TypeId := 27
abbrev ES : TypeId := 26
set_option maxRecDepth 100000 in
theorem mapM_each {α β : Type} {f : α → Option β} : ∀ {l : List α} {ys : List β}, l.mapM f = some ys → ∀ x ∈ l, ∃ y, f x = some y
  | [], _, _, _, h => by cases h
  | x :: l, ys, h, z, hz => by
    rw [List.mapM_cons] at h
    simp only [bind, Option.bind_eq_some_iff, pure, Option.some.injEq] at h
    obtain ⟨y, hy, ys', hys, rfl⟩ := h
    rcases List.mem_cons.1 hz with hz | hz
    · subst hz; exact ⟨y, hy⟩
    · exact mapM_each hys z hz
set_option maxRecDepth 100000 in
theorem lits_struct {m : Nat} {t : TypeId} {cs : List Value} {L : List Lit} {fs : Array Field} (hu : Tryz.prog.underlying t = some (.struct fs)) (h : Tryz.prog.keyLits m t cs = some L) {i : Nat} {f : Field} (hf : fs[i]? = some f) :
    ∃ m' L', Tryz.prog.keyLits m' f.type ((cs.drop f.offset).take (Tryz.prog.cellsOf f.type)) = some L' := by
  cases m with
  | zero => simp [Program.keyLits] at h
  | succ m =>
    unfold Program.keyLits at h
    simp only [hu] at h
    split at h
    · obtain ⟨xs, hx, -⟩ := Option.map_eq_some_iff.1 h
      obtain ⟨y, hy⟩ := mapM_each hx f (Array.mem_toList_iff.2 (Array.mem_of_getElem? hf))
      exact ⟨m, y, hy⟩
    · cases h
set_option maxRecDepth 100000 in
theorem lits_array {m n : Nat} {t e : TypeId} {cs : List Value} {L : List Lit} (hu : Tryz.prog.underlying t = some (.array n e)) (h : Tryz.prog.keyLits m t cs = some L) {i : Nat} (hi : i < n) :
    ∃ m' L', Tryz.prog.keyLits m' e ((cs.drop (i * Tryz.prog.cellsOf e)).take (Tryz.prog.cellsOf e)) = some L' := by
  cases m with
  | zero => simp [Program.keyLits] at h
  | succ m =>
    unfold Program.keyLits at h
    simp only [hu] at h
    split at h
    · obtain ⟨xs, hx, -⟩ := Option.map_eq_some_iff.1 h
      obtain ⟨y, hy⟩ := mapM_each hx i (List.mem_range.2 hi)
      exact ⟨m, y, hy⟩
    · cases h
set_option maxRecDepth 100000 in
theorem lits_string {m : Nat} {t : TypeId} {cs : List Value} {L : List Lit} (hu : Tryz.prog.underlying t = some .string) (h : Tryz.prog.keyLits m t cs = some L) : ∃ s, cs = [.string s] := by
  cases m with
  | zero => simp [Program.keyLits] at h
  | succ m =>
    unfold Program.keyLits at h
    simp only [hu] at h
    split at h <;> first | cases h | skip
    all_goals simp_all
set_option maxRecDepth 100000 in
theorem lits_bool {m : Nat} {t : TypeId} {cs : List Value} {L : List Lit} (hu : Tryz.prog.underlying t = some .bool) (h : Tryz.prog.keyLits m t cs = some L) : ∃ s, cs = [.bool s] := by
  cases m with
  | zero => simp [Program.keyLits] at h
  | succ m =>
    unfold Program.keyLits at h
    simp only [hu] at h
    split at h <;> first | cases h | skip
    all_goals simp_all
set_option maxRecDepth 100000 in
theorem take_one {l : List Value} {k : Nat} {v : Value} (h : (l.drop k).take 1 = [v]) : l[k]? = some v := by
  have h1 : ((l.drop k).take 1)[0]? = some v := by rw [h]; rfl
  rw [List.getElem?_take_of_lt (by omega), List.getElem?_drop] at h1
  exact h1
set_option maxRecDepth 100000 in
theorem docs_of {x : Array Value} (hx : IsS x) : ∃ (S : Nat → ByteArray) (P Q : Nat → Bool), ∀ k, k < 4 → x.toList[69 + k * 3]? = some (.string (S k)) ∧ x.toList[69 + k * 3 + 1]? = some (.bool (P k)) ∧ x.toList[69 + k * 3 + 2]? = some (.bool (Q k)) ∧ (S k).size ≤ 140737488355328 := by
  obtain ⟨L, hL⟩ := hx.lits
  obtain ⟨m1, L1, h1⟩ := lits_struct Tryz.underlying29 hL (i := 6) rfl
  have c1 : Tryz.prog.cellsOf 27 = 12 := by kernel_rfl
  have c2 : Tryz.prog.cellsOf 26 = 3 := by kernel_rfl
  have c3 : Tryz.prog.cellsOf 9 = 1 := by kernel_rfl
  have c4 : Tryz.prog.cellsOf 4 = 1 := by kernel_rfl
  change Tryz.prog.keyLits m1 DS ((x.toList.drop 69).take (Tryz.prog.cellsOf DS)) = some L1 at h1
  rw [c1] at h1
  have key : ∀ k, k < 4 → ∃ (s : ByteArray) (p q : Bool), x.toList[69 + k * 3]? = some (.string s) ∧ x.toList[69 + k * 3 + 1]? = some (.bool p) ∧ x.toList[69 + k * 3 + 2]? = some (.bool q) ∧ s.size ≤ 140737488355328 := fun k hk => by
    obtain ⟨m2, L2, h2⟩ := lits_array Tryz.underlying27 h1 hk
    rw [c2] at h2
    obtain ⟨m3, L3, h3⟩ := lits_struct Tryz.underlying26 h2 (i := 0) rfl
    obtain ⟨m4, L4, h4⟩ := lits_struct Tryz.underlying26 h2 (i := 1) rfl
    obtain ⟨m5, L5, h5⟩ := lits_struct Tryz.underlying26 h2 (i := 2) rfl
    obtain ⟨s, hs⟩ := lits_string Tryz.underlying9 h3
    obtain ⟨p, hp⟩ := lits_bool Tryz.underlying4 h4
    obtain ⟨q, hq⟩ := lits_bool Tryz.underlying4 h5
    change (List.drop 0 _).take (Tryz.prog.cellsOf 9) = _ at hs
    change (List.drop 1 _).take (Tryz.prog.cellsOf 4) = _ at hp
    change (List.drop 2 _).take (Tryz.prog.cellsOf 4) = _ at hq
    rw [c3] at hs
    rw [c4] at hp hq
    have g : ∀ (j : Nat), j < 3 → ∀ v, (((((x.toList.drop 69).take 12).drop (k * 3)).take 3))[j]? = some v → x.toList[69 + k * 3 + j]? = some v := fun j hj v hv => by
      rw [List.getElem?_take_of_lt hj, List.getElem?_drop, List.getElem?_take_of_lt (by omega), List.getElem?_drop] at hv
      rw [← hv]
      congr 1
      omega
    have e0 := g 0 (by omega) _ (take_one hs)
    have e1 := g 1 (by omega) _ (take_one hp)
    have e2 := g 2 (by omega) _ (take_one hq)
    exact ⟨s, p, q, e0, e1, e2, short_at hx.2 (List.mem_of_getElem? e0)⟩
  refine ⟨fun k => if h : k < 4 then (key k h).choose else ByteArray.empty, fun k => if h : k < 4 then (key k h).choose_spec.choose else false, fun k => if h : k < 4 then (key k h).choose_spec.choose_spec.choose else false, fun k hk => ?_⟩
  simp only [dif_pos hk]
  exact (key k hk).choose_spec.choose_spec.choose_spec
/-- The documents, loaded. -/
@[irreducible] def ldD (v : Value) : Sem Value := Instr.loadAt DS v
set_option maxRecDepth 100000 in
theorem ldD_eq (v : Value) : Instr.loadAt DS v = ldD v := by unfold ldD; rfl
def docA (S : Nat → ByteArray) (P Q : Nat → Bool) : Array Value := #[.string (S 0), .bool (P 0), .bool (Q 0), .string (S 1), .bool (P 1), .bool (Q 1), .string (S 2), .bool (P 2), .bool (Q 2), .string (S 3), .bool (P 3), .bool (Q 3)]
set_option maxRecDepth 100000 in
theorem ldD_run {S : Nat → ByteArray} {P Q : Nat → Bool} {w : World} {b : Nat} {x : Array Value} (hr : w.rangeAt b 0 x.toList) (hd : ∀ k, k < 4 → x.toList[69 + k * 3]? = some (.string (S k)) ∧ x.toList[69 + k * 3 + 1]? = some (.bool (P k)) ∧ x.toList[69 + k * 3 + 2]? = some (.bool (Q k)) ∧ (S k).size ≤ 140737488355328) :
    (ldD (.pointer (some ⟨b, 69, none⟩))).run Tryz.prog w = .ok (.agg (docA S P Q)) w := by
  rw [← ldD_eq]
  have hr' : w.rangeAt b 69 (docA S P Q).toList := fun j v hv => by
    have h0 := hd 0 (by omega); have h1 := hd 1 (by omega); have h2 := hd 2 (by omega); have h3 := hd 3 (by omega)
    have hj : j < 12 := (List.getElem?_eq_some_iff.1 hv).1
    have e : x.toList[69 + j]? = some v := by
      rw [← hv]
      match j, hj with
      | 0, _ => exact h0.1
      | 1, _ => exact h0.2.1
      | 2, _ => exact h0.2.2.1
      | 3, _ => exact h1.1
      | 4, _ => exact h1.2.1
      | 5, _ => exact h1.2.2.1
      | 6, _ => exact h2.1
      | 7, _ => exact h2.2.1
      | 8, _ => exact h2.2.2.1
      | 9, _ => exact h3.1
      | 10, _ => exact h3.2.1
      | 11, _ => exact h3.2.2.1
    have := hr (69 + j) v e
    rwa [Nat.zero_add] at this
  have := run_loadAt_mid (P := Tryz.prog) w b 69 DS (docA S P Q).toList _ hr' (show Tryz.prog.underlying DS = some ((Tryz.prog.underlying DS).getD .bool) by kernel_rfl) (by kernel_rfl) (by kernel_rfl)
  rwa [Array.toArray_toList] at this
set_option maxRecDepth 100000 in
theorem ixD {S : Nat → ByteArray} {P Q : Nat → Bool} (k : Nat) (hk : k < 4) (W : World) : (Instr.index DS (.agg (docA S P Q)) (.int .i64 (k : Nat))).run Tryz.prog W = .ok (.agg #[.string (S k), .bool (P k), .bool (Q k)]) W := by
  match k, hk with
  | 0, _ => first | rfl | simp [Instr.index, go_sem, docA]
  | 1, _ => first | rfl | simp [Instr.index, go_sem, docA]
  | 2, _ => first | rfl | simp [Instr.index, go_sem, docA]
  | 3, _ => first | rfl | simp [Instr.index, go_sem, docA]
set_option maxRecDepth 100000 in
theorem set_range {w : World} {b j : Nat} {l : List Value} {v : Value} (h : w.rangeAt b 0 l) (hv : l[j]? = some v) : (w.setCell ⟨b, j, none⟩ v).rangeAt b 0 l := fun i u hu => by
  rw [Nat.zero_add]
  by_cases e : i = j
  · subst e
    rw [hv] at hu
    injection hu with hu
    subst hu
    have := h i v hv
    rw [Nat.zero_add] at this
    exact World.cell?_setCell_same' w ⟨b, i, none⟩ v (by rw [this]; rfl)
  · rw [World.cell?_setCell_other w ⟨b, j, none⟩ ⟨b, i, none⟩ v (fun k => e (by injection k with _ k; exact k.symm))]
    have := h i u hu
    rwa [Nat.zero_add] at this
set_option maxRecDepth 100000 in
theorem there_up {w w' : World} {b o n : Nat} (hu : Up w w') (h : w.there b o n) : w'.there b o n := fun j hj => by
  obtain ⟨h1, h2⟩ := h j hj
  obtain ⟨v, hv⟩ := Option.isSome_iff_exists.1 h1
  exact ⟨by rw [cell_up hu hv]; rfl, by rw [← h2]; exact World.frozen?_of_block (Below.block hu b (World.block_lt_of_cell? w _ hv))⟩
set_option maxRecDepth 100000 in
theorem there_set {w : World} {b o n : Nat} (h : w.there b o n) (b' j : Nat) (v : Value) : (w.setCell ⟨b', j, none⟩ v).there b o n := World.there_setCells h b' j [v]
end Go.Proofs.YtmfcapbllbfjnaaGreatDoor

namespace Go.Proofs.YtmfcapbllbfjnaaGreatDoor
open Go.RowKit

theorem wf64 {a : Int} (h : (Lit.int .i64 a).wf = true) : -9223372036854775808 ≤ a ∧ a ≤ 9223372036854775807 := by
  simpa [Lit.wf, IntKind.min, IntKind.max, IntKind.signed, IntKind.bits] using h
theorem wf8 {a : Int} (h : (Lit.int .u8 a).wf = true) : 0 ≤ a ∧ a ≤ 255 := by
  simpa [Lit.wf, IntKind.min, IntKind.max, IntKind.signed, IntKind.bits] using h
theorem mk64 {a : Int} (h : -9223372036854775808 ≤ a ∧ a ≤ 9223372036854775807) : (Lit.int .i64 a).wf = true := by
  simpa [Lit.wf, IntKind.min, IntKind.max, IntKind.signed, IntKind.bits] using h
theorem mk8 {a : Nat} (h : a < 256) : (Lit.int .u8 (a : Int)).wf = true := by
  have : (0 : Int) ≤ (a : Int) ∧ (a : Int) ≤ 255 := by omega
  simpa [Lit.wf, IntKind.min, IntKind.max, IntKind.signed, IntKind.bits] using this
theorem lits_int {m : Nat} {t : TypeId} {q : IntKind} {cs : List Value} {L : List Lit} (hu : Tryz.prog.underlying t = some (.int q)) (h : Tryz.prog.keyLits m t cs = some L) : ∃ n, cs = [.int q n] ∧ (Lit.int q n).wf = true := by
  cases m with
  | zero => simp [Program.keyLits] at h
  | succ m =>
    unfold Program.keyLits at h
    simp only [hu] at h
    split at h <;> first | cases h | skip
    all_goals simp_all
    all_goals (obtain ⟨⟨h1, h2⟩, h3⟩ := h; first | exact ⟨_, ⟨h1, rfl⟩, h2⟩ | exact ⟨_, rfl, h2⟩)
theorem mapM_all {α β : Type} {f : α → Option β} : ∀ {l : List α}, (∀ x ∈ l, ∃ y, f x = some y) → ∃ ys, l.mapM f = some ys
  | [], _ => ⟨[], rfl⟩
  | x :: l, h => by
    obtain ⟨y, hy⟩ := h x (by simp)
    obtain ⟨ys, hys⟩ := mapM_all (l := l) (f := f) (fun z hz => h z (by simp [hz]))
    exact ⟨y :: ys, by rw [List.mapM_cons, hy, hys]; rfl⟩
theorem mk_int {m : Nat} {t : TypeId} {q : IntKind} {n : Int} (hu : Tryz.prog.underlying t = some (.int q)) (hw : (Lit.int q n).wf = true) : ∃ L, Tryz.prog.keyLits (m + 1) t [.int q n] = some L :=
  ⟨[.int q n], by unfold Program.keyLits; simp [hu, hw]⟩
theorem mk_bool {m : Nat} {t : TypeId} {b : Bool} (hu : Tryz.prog.underlying t = some .bool) : ∃ L, Tryz.prog.keyLits (m + 1) t [.bool b] = some L :=
  ⟨[.bool b], by unfold Program.keyLits; simp [hu]⟩
theorem mk_string {m : Nat} {t : TypeId} {s : ByteArray} (hu : Tryz.prog.underlying t = some .string) (hs : s.size ≤ maxLen) : ∃ L, Tryz.prog.keyLits (m + 1) t [.string s] = some L :=
  ⟨_, by unfold Program.keyLits; simp only [hu]; rw [if_pos hs]⟩
theorem mk_array {m n : Nat} {t e : TypeId} {cs : List Value} (hu : Tryz.prog.underlying t = some (.array n e)) (hl : cs.length = Tryz.prog.cellsOf t) (h : ∀ i, i < n → ∃ L, Tryz.prog.keyLits m e ((cs.drop (i * Tryz.prog.cellsOf e)).take (Tryz.prog.cellsOf e)) = some L) : ∃ L, Tryz.prog.keyLits (m + 1) t cs = some L := by
  obtain ⟨ys, hy⟩ := mapM_all (l := List.range n) (f := fun i => Tryz.prog.keyLits m e ((cs.drop (i * Tryz.prog.cellsOf e)).take (Tryz.prog.cellsOf e))) (fun i hi => h i (List.mem_range.1 hi))
  exact ⟨ys.flatten, by unfold Program.keyLits; simp only [hu]; rw [if_pos hl, hy]; rfl⟩
theorem mk_struct {m : Nat} {t : TypeId} {fs : Array Field} {cs : List Value} (hu : Tryz.prog.underlying t = some (.struct fs)) (hl : cs.length = Tryz.prog.cellsOf t) (hn : fs.all (·.name != "_") = true) (h : ∀ f ∈ fs.toList, ∃ L, Tryz.prog.keyLits m f.type ((cs.drop f.offset).take (Tryz.prog.cellsOf f.type)) = some L) : ∃ L, Tryz.prog.keyLits (m + 1) t cs = some L := by
  obtain ⟨ys, hy⟩ := mapM_all (l := fs.toList) (f := fun f => Tryz.prog.keyLits m f.type ((cs.drop f.offset).take (Tryz.prog.cellsOf f.type))) h
  exact ⟨ys.flatten, by unfold Program.keyLits; simp only [hu]; rw [if_pos ⟨hl, hn⟩, hy]; rfl⟩
/-- What a state's cells hold. -/
structure SV where
  u : Nat → Nat
  c : Nat → Int
  d : Int
  mo : Nat
  ma : Nat
  fl : Nat
  co : Int
  S : Nat → ByteArray
  P : Nat → Bool
  Q : Nat → Bool
  wa : Int
def frV (u : Nat → Nat) (c : Nat → Int) (j : Nat) : Value := if j % 4 = 3 then .int .i64 (c (j / 4)) else .int .u8 (u j : Nat)
def tlV (d : Int) (mo ma fl : Nat) (co : Int) (S : Nat → ByteArray) (P Q : Nat → Bool) (wa : Int) : List Value := [.int .i64 d, .int .u8 (mo : Nat), .int .u8 (ma : Nat), .int .u8 (fl : Nat), .int .i64 co, .string (S 0), .bool (P 0), .bool (Q 0), .string (S 1), .bool (P 1), .bool (Q 1), .string (S 2), .bool (P 2), .bool (Q 2), .string (S 3), .bool (P 3), .bool (Q 3), .int .i64 wa]
def svL (V : SV) : List Value := (List.range 64).map (frV V.u V.c) ++ tlV V.d V.mo V.ma V.fl V.co V.S V.P V.Q V.wa
structure SvOk (V : SV) : Prop where
  u : ∀ j, V.u j < 256
  c : ∀ i, (Lit.int .i64 (V.c i)).wf = true
  d : (Lit.int .i64 V.d).wf = true
  mo : V.mo < 256
  ma : V.ma < 256
  fl : V.fl < 256
  co : (Lit.int .i64 V.co).wf = true
  S : ∀ k, (V.S k).size ≤ 140737488355328
  wa : (Lit.int .i64 V.wa).wf = true
theorem svL_len (V : SV) : (svL V).length = 82 := by simp [svL, tlV]
theorem svL_fr (V : SV) {j : Nat} (h : j < 64) : (svL V)[j]? = some (frV V.u V.c j) := by
  unfold svL
  rw [List.getElem?_append_left (by simp; exact h)]
  simp [h]
theorem svL_tl (V : SV) (j : Nat) : (svL V)[64 + j]? = (tlV V.d V.mo V.ma V.fl V.co V.S V.P V.Q V.wa)[j]? := by
  unfold svL
  rw [List.getElem?_append_right (by simp)]
  congr 1
  simp
theorem take4 {l : List Value} {k : Nat} {a b c d : Value} (h0 : l[k]? = some a) (h1 : l[k + 1]? = some b) (h2 : l[k + 2]? = some c) (h3 : l[k + 3]? = some d) : (l.drop k).take 4 = [a, b, c, d] := by
  apply List.ext_getElem?
  intro i
  match i with
  | 0 => rw [List.getElem?_take_of_lt (by omega), List.getElem?_drop]; exact h0
  | 1 => rw [List.getElem?_take_of_lt (by omega), List.getElem?_drop]; exact h1
  | 2 => rw [List.getElem?_take_of_lt (by omega), List.getElem?_drop]; exact h2
  | 3 => rw [List.getElem?_take_of_lt (by omega), List.getElem?_drop]; exact h3
  | n + 4 => rw [List.getElem?_eq_none (by rw [List.length_take]; omega)]; rfl
theorem take_at {l : List Value} {k : Nat} {v : Value} (h : l[k]? = some v) : (l.drop k).take 1 = [v] := by
  apply List.ext_getElem?
  intro i
  match i with
  | 0 => rw [List.getElem?_take_of_lt (by omega), List.getElem?_drop]; exact h
  | n + 1 => rw [List.getElem?_eq_none (by rw [List.length_take]; omega)]; rfl
theorem take3 {l : List Value} {k : Nat} {a b c : Value} (h0 : l[k]? = some a) (h1 : l[k + 1]? = some b) (h2 : l[k + 2]? = some c) : (l.drop k).take 3 = [a, b, c] := by
  apply List.ext_getElem?
  intro i
  match i with
  | 0 => rw [List.getElem?_take_of_lt (by omega), List.getElem?_drop]; exact h0
  | 1 => rw [List.getElem?_take_of_lt (by omega), List.getElem?_drop]; exact h1
  | 2 => rw [List.getElem?_take_of_lt (by omega), List.getElem?_drop]; exact h2
  | n + 3 => rw [List.getElem?_eq_none (by rw [List.length_take]; omega)]; rfl
theorem formed_S' {x : Array Value} (h : x.size = 82) : (Value.agg x).formed Tryz.prog TS = true := by
  obtain ⟨fs, hu⟩ := sUnd
  simp only [Value.formed, hu, sCells, h]
  rfl
theorem cFrames : Tryz.prog.cellsOf 24 = 64 := by kernel_rfl
theorem cFrame : Tryz.prog.cellsOf 23 = 4 := by kernel_rfl
theorem cInt : Tryz.prog.cellsOf 3 = 1 := by kernel_rfl
theorem cU8 : Tryz.prog.cellsOf 5 = 1 := by kernel_rfl
theorem cDocs : Tryz.prog.cellsOf 27 = 12 := by kernel_rfl
theorem cDoc : Tryz.prog.cellsOf 26 = 3 := by kernel_rfl
theorem cStr : Tryz.prog.cellsOf 9 = 1 := by kernel_rfl
theorem cBool : Tryz.prog.cellsOf 4 = 1 := by kernel_rfl
/-- Every state whose cells are within their kinds is one that may be compared. -/
theorem sv_is {V : SV} (h : SvOk V) : IsS (svL V).toArray := by
  have hu8 : ∀ {m : Nat} {j : Nat}, j < 64 → j % 4 ≠ 3 → ∃ L, Tryz.prog.keyLits (m + 1) 5 [frV V.u V.c j] = some L := fun {m j} hj hj4 => by
    unfold frV
    rw [if_neg hj4]
    exact mk_int Tryz.underlying5 (mk8 (h.u j))
  have h64 : ∀ {m : Nat} {j : Nat}, j < 64 → j % 4 = 3 → ∃ L, Tryz.prog.keyLits (m + 1) 3 [frV V.u V.c j] = some L := fun {m j} hj hj4 => by
    unfold frV
    rw [if_pos hj4]
    exact mk_int Tryz.underlying3 (h.c (j / 4))
  have key : ∀ m, ∃ L, Tryz.prog.keyLits (m + 4) TS (svL V) = some L := fun m => by
    refine mk_struct Tryz.underlying29 (by rw [svL_len, sCells]) (by kernel_rfl) ?_
    intro f hf
    simp only [List.mem_cons, List.not_mem_nil, or_false] at hf
    rcases hf with rfl | rfl | rfl | rfl | rfl | rfl | rfl | rfl
    · show ∃ L, Tryz.prog.keyLits (m + 3) 24 (((svL V).drop 0).take (Tryz.prog.cellsOf 24)) = some L
      rw [cFrames, List.drop_zero]
      refine mk_array Tryz.underlying24 (by rw [cFrames, List.length_take, svL_len]; rfl) ?_
      intro i hi
      rw [cFrame]
      have e : ((((svL V).take 64).drop (i * 4)).take 4) = [frV V.u V.c (i * 4), frV V.u V.c (i * 4 + 1), frV V.u V.c (i * 4 + 2), frV V.u V.c (i * 4 + 3)] := by
        refine take4 ?_ ?_ ?_ ?_ <;> (rw [List.getElem?_take_of_lt (by omega)]; exact svL_fr V (by omega))
      rw [e]
      refine mk_struct Tryz.underlying23 (by rw [cFrame]; rfl) (by kernel_rfl) ?_
      intro f hf
      simp only [List.mem_cons, List.not_mem_nil, or_false] at hf
      rcases hf with rfl | rfl | rfl | rfl
      · show ∃ L, Tryz.prog.keyLits (m + 1) 5 ((List.drop 0 _).take (Tryz.prog.cellsOf 5)) = some L
        rw [cU8]; exact hu8 (by omega) (by omega)
      · show ∃ L, Tryz.prog.keyLits (m + 1) 5 ((List.drop 1 _).take (Tryz.prog.cellsOf 5)) = some L
        rw [cU8]; exact hu8 (by omega) (by omega)
      · show ∃ L, Tryz.prog.keyLits (m + 1) 5 ((List.drop 2 _).take (Tryz.prog.cellsOf 5)) = some L
        rw [cU8]; exact hu8 (by omega) (by omega)
      · show ∃ L, Tryz.prog.keyLits (m + 1) 3 ((List.drop 3 _).take (Tryz.prog.cellsOf 3)) = some L
        rw [cInt]; exact h64 (by omega) (by omega)
    · show ∃ L, Tryz.prog.keyLits (m + 2 + 1) 3 ((List.drop 64 _).take (Tryz.prog.cellsOf 3)) = some L
      rw [cInt, take_at (svL_tl V 0)]; exact mk_int Tryz.underlying3 h.d
    · show ∃ L, Tryz.prog.keyLits (m + 2 + 1) 5 ((List.drop 65 _).take (Tryz.prog.cellsOf 5)) = some L
      rw [cU8, take_at (svL_tl V 1)]; exact mk_int Tryz.underlying5 (mk8 h.mo)
    · show ∃ L, Tryz.prog.keyLits (m + 2 + 1) 5 ((List.drop 66 _).take (Tryz.prog.cellsOf 5)) = some L
      rw [cU8, take_at (svL_tl V 2)]; exact mk_int Tryz.underlying5 (mk8 h.ma)
    · show ∃ L, Tryz.prog.keyLits (m + 2 + 1) 5 ((List.drop 67 _).take (Tryz.prog.cellsOf 5)) = some L
      rw [cU8, take_at (svL_tl V 3)]; exact mk_int Tryz.underlying5 (mk8 h.fl)
    · show ∃ L, Tryz.prog.keyLits (m + 2 + 1) 3 ((List.drop 68 _).take (Tryz.prog.cellsOf 3)) = some L
      rw [cInt, take_at (svL_tl V 4)]; exact mk_int Tryz.underlying3 h.co
    · show ∃ L, Tryz.prog.keyLits (m + 3) 27 ((List.drop 69 _).take (Tryz.prog.cellsOf 27)) = some L
      rw [cDocs]
      refine mk_array Tryz.underlying27 (by rw [cDocs, List.length_take, List.length_drop, svL_len]; rfl) ?_
      intro i hi
      rw [cDoc]
      have e : ((((svL V).drop 69).take 12).drop (i * 3)).take 3 = [.string (V.S i), .bool (V.P i), .bool (V.Q i)] := by
        have g : ∀ j, j < 12 → (((svL V).drop 69).take 12)[j]? = (tlV V.d V.mo V.ma V.fl V.co V.S V.P V.Q V.wa)[5 + j]? := fun j hj => by
          rw [List.getElem?_take_of_lt hj, List.getElem?_drop, show 69 + j = 64 + (5 + j) from by omega, svL_tl]
        match i, hi with
        | 0, _ => exact take3 (g 0 (by omega)) (g 1 (by omega)) (g 2 (by omega))
        | 1, _ => exact take3 (g 3 (by omega)) (g 4 (by omega)) (g 5 (by omega))
        | 2, _ => exact take3 (g 6 (by omega)) (g 7 (by omega)) (g 8 (by omega))
        | 3, _ => exact take3 (g 9 (by omega)) (g 10 (by omega)) (g 11 (by omega))
      rw [e]
      refine mk_struct Tryz.underlying26 (by rw [cDoc]; rfl) (by kernel_rfl) ?_
      intro f hf
      simp only [List.mem_cons, List.not_mem_nil, or_false] at hf
      rcases hf with rfl | rfl | rfl
      · show ∃ L, Tryz.prog.keyLits (m + 1) 9 ((List.drop 0 _).take (Tryz.prog.cellsOf 9)) = some L
        rw [cStr]; exact mk_string Tryz.underlying9 (by have := h.S i; unfold maxLen; omega)
      · show ∃ L, Tryz.prog.keyLits (m + 1) 4 ((List.drop 1 _).take (Tryz.prog.cellsOf 4)) = some L
        rw [cBool]; exact mk_bool Tryz.underlying4
      · show ∃ L, Tryz.prog.keyLits (m + 1) 4 ((List.drop 2 _).take (Tryz.prog.cellsOf 4)) = some L
        rw [cBool]; exact mk_bool Tryz.underlying4
    · show ∃ L, Tryz.prog.keyLits (m + 2 + 1) 3 ((List.drop 81 _).take (Tryz.prog.cellsOf 3)) = some L
      rw [cInt, take_at (svL_tl V 17)]; exact mk_int Tryz.underlying3 h.wa
  obtain ⟨k, hk⟩ : ∃ k, Tryz.prog.types.size + 1 = k + 4 := ⟨Tryz.prog.types.size + 1 - 4, by
    have : 10 ≤ Tryz.prog.types.size := of_decide_eq_true (by kernel_rfl)
    omega⟩
  obtain ⟨L, hL⟩ := key k
  refine ⟨⟨.string (keyBytes L), ?_⟩, ?_⟩
  · obtain ⟨fs, hu⟩ := sUnd
    unfold keyOf
    simp only [hu]
    rw [if_pos (by rw [show Tryz.prog.keyType TS = true from sDeep, formed_S' (by simp [svL_len])]; rfl)]
    show (Tryz.prog.keyLits (Tryz.prog.types.size + 1) TS (svL V)).map _ = _
    rw [hk, hL]
    rfl
  · refine List.all_eq_true.2 fun v hv => ?_
    have hv' : v ∈ svL V := by simpa using hv
    unfold svL at hv'
    rcases List.mem_append.1 hv' with hm | hm
    · obtain ⟨j, -, rfl⟩ := List.mem_map.1 hm
      unfold frV
      by_cases hj : j % 4 = 3
      · rw [if_pos hj]
      · rw [if_neg hj]
    · unfold tlV at hm
      simp only [List.mem_cons, List.not_mem_nil, or_false] at hm
      rcases hm with rfl | rfl | rfl | rfl | rfl | rfl | rfl | rfl | rfl | rfl | rfl | rfl | rfl | rfl | rfl | rfl | rfl | rfl
      all_goals first
        | rfl
        | exact decide_eq_true (h.S _)
end Go.Proofs.YtmfcapbllbfjnaaGreatDoor

namespace Go.Proofs.YtmfcapbllbfjnaaGreatDoor
open Go.RowKit

def vNat (l : List Value) (j : Nat) : Nat := match l[j]? with | some (.int _ n) => n.toNat | _ => 0
def vInt (l : List Value) (j : Nat) : Int := match l[j]? with | some (.int _ n) => n | _ => 0
def vStr (l : List Value) (j : Nat) : ByteArray := match l[j]? with | some (.string s) => s | _ => ByteArray.empty
def vBool (l : List Value) (j : Nat) : Bool := match l[j]? with | some (.bool s) => s | _ => false
/-- What a state's cells hold. -/
def svOf (l : List Value) : SV := ⟨fun j => vNat l j % 256, fun i => if i < 16 then vInt l (i * 4 + 3) else 0, vInt l 64, vNat l 65, vNat l 66, vNat l 67, vInt l 68, fun k => if k < 4 then vStr l (69 + k * 3) else ByteArray.empty, fun k => vBool l (69 + k * 3 + 1), fun k => vBool l (69 + k * 3 + 2), vInt l 81⟩
theorem take_take_at {l : List Value} {a n k : Nat} {v : Value} (h : ((((l.drop a).take n).drop k).take 1) = [v]) (hk : k < n) : l[a + k]? = some v := by
  have := take_one h
  rw [List.getElem?_take_of_lt hk, List.getElem?_drop] at this
  exact this
set_option maxRecDepth 100000 in
theorem sv_cells {x : Array Value} (hx : IsS x) : (∀ j, j < 64 → j % 4 ≠ 3 → ∃ n, x.toList[j]? = some (.int .u8 n) ∧ (Lit.int .u8 n).wf = true) ∧ (∀ i, i < 16 → ∃ n, x.toList[i * 4 + 3]? = some (.int .i64 n) ∧ (Lit.int .i64 n).wf = true) ∧
    (∃ n, x.toList[64]? = some (.int .i64 n) ∧ (Lit.int .i64 n).wf = true) ∧ (∃ n, x.toList[65]? = some (.int .u8 n) ∧ (Lit.int .u8 n).wf = true) ∧ (∃ n, x.toList[66]? = some (.int .u8 n) ∧ (Lit.int .u8 n).wf = true) ∧ (∃ n, x.toList[67]? = some (.int .u8 n) ∧ (Lit.int .u8 n).wf = true) ∧
    (∃ n, x.toList[68]? = some (.int .i64 n) ∧ (Lit.int .i64 n).wf = true) ∧ (∃ n, x.toList[81]? = some (.int .i64 n) ∧ (Lit.int .i64 n).wf = true) := by
  obtain ⟨L, hL⟩ := hx.lits
  have hf : ∀ i, i < 16 → (∀ j, j < 3 → ∃ n, x.toList[i * 4 + j]? = some (.int .u8 n) ∧ (Lit.int .u8 n).wf = true) ∧ ∃ n, x.toList[i * 4 + 3]? = some (.int .i64 n) ∧ (Lit.int .i64 n).wf = true := by
    obtain ⟨m1, L1, h1⟩ := lits_struct Tryz.underlying29 hL (i := 0) rfl
    change Tryz.prog.keyLits m1 24 ((x.toList.drop 0).take (Tryz.prog.cellsOf 24)) = some L1 at h1
    rw [cFrames] at h1
    intro i hi
    obtain ⟨m2, L2, h2⟩ := lits_array Tryz.underlying24 h1 hi
    rw [cFrame] at h2
    have g : ∀ (j : Nat), j < 4 → ∀ v, (((((((x.toList.drop 0).take 64).drop (i * 4)).take 4).drop j).take 1)) = [v] → x.toList[i * 4 + j]? = some v := fun j hj v hv => by
      have e := take_one hv
      rw [List.getElem?_take_of_lt hj, List.getElem?_drop, List.getElem?_take_of_lt (by omega), List.getElem?_drop] at e
      rw [← e]
      congr 1
      omega
    obtain ⟨m3, L3, h3⟩ := lits_struct Tryz.underlying23 h2 (i := 0) rfl
    obtain ⟨m4, L4, h4⟩ := lits_struct Tryz.underlying23 h2 (i := 1) rfl
    obtain ⟨m5, L5, h5⟩ := lits_struct Tryz.underlying23 h2 (i := 2) rfl
    obtain ⟨m6, L6, h6⟩ := lits_struct Tryz.underlying23 h2 (i := 3) rfl
    obtain ⟨a, ha, wa⟩ := lits_int Tryz.underlying5 h3
    obtain ⟨b, hb, wb⟩ := lits_int Tryz.underlying5 h4
    obtain ⟨c, hc, wc⟩ := lits_int Tryz.underlying5 h5
    obtain ⟨d, hd, wd⟩ := lits_int Tryz.underlying3 h6
    change (List.drop 0 _).take (Tryz.prog.cellsOf 5) = _ at ha
    change (List.drop 1 _).take (Tryz.prog.cellsOf 5) = _ at hb
    change (List.drop 2 _).take (Tryz.prog.cellsOf 5) = _ at hc
    change (List.drop 3 _).take (Tryz.prog.cellsOf 3) = _ at hd
    rw [cU8] at ha hb hc
    rw [cInt] at hd
    have ga := g 0 (by omega) _ ha
    have gb := g 1 (by omega) _ hb
    have gc := g 2 (by omega) _ hc
    refine ⟨fun j hj => ?_, d, g 3 (by omega) _ hd, wd⟩
    match j, hj with
    | 0, _ => exact ⟨a, ga, wa⟩
    | 1, _ => exact ⟨b, gb, wb⟩
    | 2, _ => exact ⟨c, gc, wc⟩
  refine ⟨fun j hj hj4 => ?_, fun i hi => (hf i hi).2, ?_, ?_, ?_, ?_, ?_, ?_⟩
  · obtain ⟨n, h1, h2⟩ := (hf (j / 4) (by omega)).1 (j % 4) (by omega)
    exact ⟨n, by rw [← h1]; congr 1; omega, h2⟩
  · obtain ⟨m1, L1, h1⟩ := lits_struct Tryz.underlying29 hL (i := 1) rfl
    obtain ⟨n, hn, wn⟩ := lits_int Tryz.underlying3 h1
    change (List.drop 64 _).take (Tryz.prog.cellsOf 3) = _ at hn
    rw [cInt] at hn
    exact ⟨n, take_one hn, wn⟩
  · obtain ⟨m1, L1, h1⟩ := lits_struct Tryz.underlying29 hL (i := 2) rfl
    obtain ⟨n, hn, wn⟩ := lits_int Tryz.underlying5 h1
    change (List.drop 65 _).take (Tryz.prog.cellsOf 5) = _ at hn
    rw [cU8] at hn
    exact ⟨n, take_one hn, wn⟩
  · obtain ⟨m1, L1, h1⟩ := lits_struct Tryz.underlying29 hL (i := 3) rfl
    obtain ⟨n, hn, wn⟩ := lits_int Tryz.underlying5 h1
    change (List.drop 66 _).take (Tryz.prog.cellsOf 5) = _ at hn
    rw [cU8] at hn
    exact ⟨n, take_one hn, wn⟩
  · obtain ⟨m1, L1, h1⟩ := lits_struct Tryz.underlying29 hL (i := 4) rfl
    obtain ⟨n, hn, wn⟩ := lits_int Tryz.underlying5 h1
    change (List.drop 67 _).take (Tryz.prog.cellsOf 5) = _ at hn
    rw [cU8] at hn
    exact ⟨n, take_one hn, wn⟩
  · obtain ⟨m1, L1, h1⟩ := lits_struct Tryz.underlying29 hL (i := 5) rfl
    obtain ⟨n, hn, wn⟩ := lits_int Tryz.underlying3 h1
    change (List.drop 68 _).take (Tryz.prog.cellsOf 3) = _ at hn
    rw [cInt] at hn
    exact ⟨n, take_one hn, wn⟩
  · obtain ⟨m1, L1, h1⟩ := lits_struct Tryz.underlying29 hL (i := 7) rfl
    obtain ⟨n, hn, wn⟩ := lits_int Tryz.underlying3 h1
    change (List.drop 81 _).take (Tryz.prog.cellsOf 3) = _ at hn
    rw [cInt] at hn
    exact ⟨n, take_one hn, wn⟩
theorem vInt_of {l : List Value} {j : Nat} {q : IntKind} {n : Int} (h : l[j]? = some (.int q n)) : vInt l j = n := by unfold vInt; rw [h]
theorem vNat_of {l : List Value} {j : Nat} {n : Int} (h : l[j]? = some (.int .u8 n)) (hw : (Lit.int .u8 n).wf = true) : ((vNat l j : Nat) : Int) = n ∧ vNat l j < 256 := by
  have := wf8 hw
  unfold vNat
  rw [h]
  show ((n.toNat : Nat) : Int) = n ∧ n.toNat < 256
  omega
theorem vStr_of {l : List Value} {j : Nat} {s : ByteArray} (h : l[j]? = some (.string s)) : vStr l j = s := by unfold vStr; rw [h]
theorem vBool_of {l : List Value} {j : Nat} {s : Bool} (h : l[j]? = some (.bool s)) : vBool l j = s := by unfold vBool; rw [h]
set_option maxRecDepth 100000 in
/-- A state is what its cells hold. -/
theorem sv_of {x : Array Value} (hx : IsS x) : ∃ V, SvOk V ∧ x = (svL V).toArray := by
  obtain ⟨h1, h2, ⟨n64, e64, w64⟩, ⟨n65, e65, w65⟩, ⟨n66, e66, w66⟩, ⟨n67, e67, w67⟩, ⟨n68, e68, w68⟩, ⟨n81, e81, w81⟩⟩ := sv_cells hx
  obtain ⟨S, P, Q, hd⟩ := docs_of hx
  have hz := hx.size
  refine ⟨svOf x.toList, ⟨fun j => ?_, fun i => ?_, ?_, ?_, ?_, ?_, ?_, fun k => ?_, ?_⟩, ?_⟩
  · show vNat _ _ % 256 < 256; omega
  · show (Lit.int .i64 (if i < 16 then _ else 0)).wf = true
    by_cases hi : i < 16
    · rw [if_pos hi]
      obtain ⟨n, e, w⟩ := h2 i hi
      rw [vInt_of e]; exact w
    · rw [if_neg hi]; rfl
  · show (Lit.int .i64 (vInt _ _)).wf = true; rw [vInt_of e64]; exact w64
  · exact (vNat_of e65 w65).2
  · exact (vNat_of e66 w66).2
  · exact (vNat_of e67 w67).2
  · show (Lit.int .i64 (vInt _ _)).wf = true; rw [vInt_of e68]; exact w68
  · show (if k < 4 then _ else ByteArray.empty).size ≤ _
    by_cases hk : k < 4
    · rw [if_pos hk, vStr_of (hd k hk).1]; exact (hd k hk).2.2.2
    · rw [if_neg hk]; exact Nat.zero_le _
  · show (Lit.int .i64 (vInt _ _)).wf = true; rw [vInt_of e81]; exact w81
  · have hl : x.toList = svL (svOf x.toList) := by
      apply List.ext_getElem?
      intro j
      by_cases hj : j < 64
      · rw [svL_fr _ hj]
        unfold frV
        by_cases h4 : j % 4 = 3
        · rw [if_pos h4]
          obtain ⟨n, e, -⟩ := h2 (j / 4) (by omega)
          have ej : j / 4 * 4 + 3 = j := by omega
          show _ = some (Value.int .i64 (if j / 4 < 16 then vInt x.toList (j / 4 * 4 + 3) else 0))
          rw [if_pos (by omega), vInt_of e, ← e, ej]
        · rw [if_neg h4]
          obtain ⟨n, e, w⟩ := h1 j hj h4
          obtain ⟨g1, g2⟩ := vNat_of e w
          show _ = some (Value.int .u8 ((vNat x.toList j % 256 : Nat) : Int))
          rw [Nat.mod_eq_of_lt g2, g1, e]
      · obtain ⟨k, rfl⟩ : ∃ k, j = 64 + k := ⟨j - 64, by omega⟩
        rw [svL_tl]
        match k with
        | 0 => show _ = some (Value.int .i64 (vInt x.toList 64)); rw [vInt_of e64]; exact e64
        | 1 => show _ = some (Value.int .u8 ((vNat x.toList 65 : Nat) : Int)); rw [(vNat_of e65 w65).1]; exact e65
        | 2 => show _ = some (Value.int .u8 ((vNat x.toList 66 : Nat) : Int)); rw [(vNat_of e66 w66).1]; exact e66
        | 3 => show _ = some (Value.int .u8 ((vNat x.toList 67 : Nat) : Int)); rw [(vNat_of e67 w67).1]; exact e67
        | 4 => show _ = some (Value.int .i64 (vInt x.toList 68)); rw [vInt_of e68]; exact e68
        | 5 => show _ = some (Value.string (vStr x.toList 69)); rw [vStr_of (hd 0 (by omega)).1]; exact (hd 0 (by omega)).1
        | 6 => show _ = some (Value.bool (vBool x.toList 70)); rw [vBool_of (hd 0 (by omega)).2.1]; exact (hd 0 (by omega)).2.1
        | 7 => show _ = some (Value.bool (vBool x.toList 71)); rw [vBool_of (hd 0 (by omega)).2.2.1]; exact (hd 0 (by omega)).2.2.1
        | 8 => show _ = some (Value.string (vStr x.toList 72)); rw [vStr_of (hd 1 (by omega)).1]; exact (hd 1 (by omega)).1
        | 9 => show _ = some (Value.bool (vBool x.toList 73)); rw [vBool_of (hd 1 (by omega)).2.1]; exact (hd 1 (by omega)).2.1
        | 10 => show _ = some (Value.bool (vBool x.toList 74)); rw [vBool_of (hd 1 (by omega)).2.2.1]; exact (hd 1 (by omega)).2.2.1
        | 11 => show _ = some (Value.string (vStr x.toList 75)); rw [vStr_of (hd 2 (by omega)).1]; exact (hd 2 (by omega)).1
        | 12 => show _ = some (Value.bool (vBool x.toList 76)); rw [vBool_of (hd 2 (by omega)).2.1]; exact (hd 2 (by omega)).2.1
        | 13 => show _ = some (Value.bool (vBool x.toList 77)); rw [vBool_of (hd 2 (by omega)).2.2.1]; exact (hd 2 (by omega)).2.2.1
        | 14 => show _ = some (Value.string (vStr x.toList 78)); rw [vStr_of (hd 3 (by omega)).1]; exact (hd 3 (by omega)).1
        | 15 => show _ = some (Value.bool (vBool x.toList 79)); rw [vBool_of (hd 3 (by omega)).2.1]; exact (hd 3 (by omega)).2.1
        | 16 => show _ = some (Value.bool (vBool x.toList 80)); rw [vBool_of (hd 3 (by omega)).2.2.1]; exact (hd 3 (by omega)).2.2.1
        | 17 => show _ = some (Value.int .i64 (vInt x.toList 81)); rw [vInt_of e81]; exact e81
        | n + 18 =>
          rw [List.getElem?_eq_none (by rw [Array.length_toList]; omega)]
          rfl
    rw [← hl, Array.toArray_toList]
end Go.Proofs.YtmfcapbllbfjnaaGreatDoor

namespace Go.Proofs.YtmfcapbllbfjnaaGreatDoor
open Go.RowKit

def svA (V : SV) : Array Value := (svL V).toArray
/-- The cells of a state of Python's. -/
def svP (s : LSt) : SV := ⟨fun j => if j / 4 < s.cols.length ∧ j % 4 = 0 then 10 else 0, fun i => ((s.cols.getD i 0 : Nat) : Int), (s.cols.length : Nat), s.mode, s.mark, s.flags, (s.count : Nat), fun _ => ByteArray.empty, fun _ => false, fun _ => false, 0⟩
def stA (s : LSt) : Array Value := svA (svP s)
def PyS (x : Array Value) : Prop := ∃ s, LOk s ∧ x = stA s
theorem getD_le {l : List Nat} {M : Nat} (h : ∀ c ∈ l, c ≤ M) (i : Nat) : l.getD i 0 ≤ M := by
  rw [List.getD_eq_getElem?_getD]
  cases hi : l[i]? with
  | none => exact Nat.zero_le _
  | some c => exact h c (List.mem_of_getElem? hi)
theorem svP_ok {s : LSt} (h : LOk s) : SvOk (svP s) := by
  have hl := h.len
  have hline := h.line
  refine ⟨fun j => ?_, fun i => ?_, ?_, ?_, ?_, ?_, ?_, fun _ => Nat.zero_le _, by rfl⟩
  · show (if _ then 10 else 0) < 256; split <;> omega
  · exact mk64 (by have := getD_le h.hi i; show _ ≤ ((s.cols.getD i 0 : Nat) : Int) ∧ ((s.cols.getD i 0 : Nat) : Int) ≤ _; omega)
  · exact mk64 (by show _ ≤ ((s.cols.length : Nat) : Int) ∧ ((s.cols.length : Nat) : Int) ≤ _; omega)
  · show s.mode < 256; omega
  · show s.mark < 256; omega
  · show s.flags < 256; omega
  · exact mk64 (by show _ ≤ ((s.count : Nat) : Int) ∧ ((s.count : Nat) : Int) ≤ _; omega)
theorem stA_is {s : LSt} (h : LOk s) : IsS (stA s) := sv_is (svP_ok h)
/-- What is asked of a state's line. -/
def lineV (V : SV) : Prop := (V.mo = 0 ∧ V.ma = 0 ∧ V.co = 0 ∧ (V.fl = 0 ∨ V.fl = 1)) ∨ (V.mo = 1 ∧ V.ma ≤ 4 ∧ 0 ≤ V.co ∧ V.co ≤ 1048576 ∧ (V.fl = 0 ∨ V.fl = 2))
instance (V : SV) : Decidable (lineV V) := by unfold lineV; infer_instance
/-- The column ahead of a frame's. -/
def preC (V : SV) (i : Nat) : Int := if i = 0 then 0 else V.c (i - 1)
def riseV (V : SV) (k : Nat) : Prop := ∀ i, i < k → preC V i < V.c i ∧ V.c i ≤ 8388608
/-- The state that is laid anew, behind k frames. -/
def svO (V : SV) (k : Nat) : SV := ⟨fun j => if j / 4 < k ∧ j % 4 = 0 then 10 else 0, fun i => if i < k then V.c i else 0, V.d, V.mo, V.ma, V.fl, V.co, fun _ => ByteArray.empty, fun _ => false, fun _ => false, 0⟩
def condV (V : SV) : Prop := 0 ≤ V.d ∧ V.d ≤ 16 ∧ lineV V ∧ riseV V V.d.toNat
theorem svO_ok {V : SV} (h : SvOk V) (k : Nat) : SvOk (svO V k) := by
  refine ⟨fun j => ?_, fun i => ?_, h.d, h.mo, h.ma, h.fl, h.co, fun _ => Nat.zero_le _, by rfl⟩
  · show (if _ then 10 else 0) < 256; split <;> omega
  · show (Lit.int .i64 (if i < k then V.c i else 0)).wf = true
    split
    · exact h.c i
    · rfl
theorem svL_inj_c {V W : SV} (h : svL V = svL W) {i : Nat} (hi : i < 16) : V.c i = W.c i := by
  have h1 := svL_fr V (j := i * 4 + 3) (by omega)
  have h2 := svL_fr W (j := i * 4 + 3) (by omega)
  rw [h, h2] at h1
  unfold frV at h1
  rw [if_pos (by omega), if_pos (by omega), show (i * 4 + 3) / 4 = i from by omega] at h1
  injection h1 with h1
  injection h1 with _ h1
  exact h1.symm
theorem svL_inj_u {V W : SV} (h : svL V = svL W) {j : Nat} (hj : j < 64) (h4 : j % 4 ≠ 3) : V.u j = W.u j := by
  have h1 := svL_fr V (j := j) hj
  have h2 := svL_fr W (j := j) hj
  rw [h, h2] at h1
  unfold frV at h1
  rw [if_neg h4, if_neg h4] at h1
  injection h1 with h1
  injection h1 with _ h1
  omega
theorem svL_inj_t {V W : SV} (h : svL V = svL W) : tlV V.d V.mo V.ma V.fl V.co V.S V.P V.Q V.wa = tlV W.d W.mo W.ma W.fl W.co W.S W.P W.Q W.wa := by
  apply List.ext_getElem?
  intro j
  rw [← svL_tl, ← svL_tl, h]
theorem svL_ext {V W : SV} (hu : ∀ j, j < 64 → j % 4 ≠ 3 → V.u j = W.u j) (hc : ∀ i, i < 16 → V.c i = W.c i) (ht : tlV V.d V.mo V.ma V.fl V.co V.S V.P V.Q V.wa = tlV W.d W.mo W.ma W.fl W.co W.S W.P W.Q W.wa) : svL V = svL W := by
  unfold svL
  rw [ht]
  congr 1
  apply List.map_congr_left
  intro j hj
  rw [List.mem_range] at hj
  unfold frV
  by_cases h4 : j % 4 = 3
  · rw [if_pos h4, if_pos h4, hc _ (by omega)]
  · rw [if_neg h4, if_neg h4, hu j hj h4]
theorem rise_mono {V : SV} {k : Nat} (h : riseV V k) : ∀ i j, i < j → j < k → V.c i < V.c j := by
  intro i j hij hj
  induction j with
  | zero => omega
  | succ j ih =>
    have h1 := (h (j + 1) hj).1
    unfold preC at h1
    rw [if_neg (by omega), show j + 1 - 1 = j from by omega] at h1
    by_cases e : i = j
    · subst e; exact h1
    · have := ih (by omega) (by omega)
      omega
theorem rise_pos {V : SV} {k : Nat} (h : riseV V k) : ∀ i, i < k → 1 ≤ V.c i := by
  intro i hi
  have h0 := (h 0 (by omega)).1
  unfold preC at h0
  rw [if_pos rfl] at h0
  by_cases e : i = 0
  · subst e; omega
  · have := rise_mono h 0 i (by omega) hi
    omega
/-- A state that is as one laid anew is Python's. -/
theorem py_of {V : SV} (hc : condV V) (he : svL V = svL (svO V V.d.toNat)) : PyS (svA V) := by
  obtain ⟨h1, h2, h3, h4⟩ := hc
  obtain ⟨k, hk⟩ : ∃ k : Nat, V.d = (k : Int) := ⟨V.d.toNat, by omega⟩
  rw [hk, Int.toNat_natCast] at h4 he
  have hp := rise_pos h4
  have hm := rise_mono h4
  refine ⟨⟨(List.range k).map fun i => (V.c i).toNat, V.mo, V.ma, V.fl, V.co.toNat⟩, ⟨by simp; omega, ?_, ?_, ?_, ?_⟩, ?_⟩
  · rw [List.pairwise_map]
    refine List.Pairwise.imp_of_mem ?_ (List.pairwise_lt_range (n := k))
    intro a b ha hb hab
    rw [List.mem_range] at ha hb
    have := hm a b hab hb
    have := hp a ha
    omega
  · intro c hc
    obtain ⟨i, hi, rfl⟩ := List.mem_map.1 hc
    rw [List.mem_range] at hi
    have := hp i hi
    show 1 ≤ (V.c i).toNat
    omega
  · intro c hc
    obtain ⟨i, hi, rfl⟩ := List.mem_map.1 hc
    rw [List.mem_range] at hi
    have := (h4 i hi).2
    show (V.c i).toNat ≤ 8388608
    omega
  · show (V.mo = 0 ∧ V.ma = 0 ∧ V.co.toNat = 0 ∧ V.fl ≤ 1) ∨ (V.mo = 1 ∧ V.ma ≤ 4 ∧ V.co.toNat ≤ 1048576 ∧ (V.fl = 0 ∨ V.fl = 2))
    unfold lineV at h3
    omega
  · unfold svA stA svA
    rw [he]
    congr 1
    have hco : ((V.co.toNat : Nat) : Int) = V.co := by unfold lineV at h3; omega
    refine svL_ext (fun j hj h4 => ?_) (fun i hi => ?_) ?_
    · simp [svO, svP]
    · show (if i < k then V.c i else 0) = ((((List.range k).map fun i => (V.c i).toNat).getD i 0 : Nat) : Int)
      by_cases hik : i < k
      · rw [if_pos hik]
        have := hp i hik
        simp [hik]
        omega
      · rw [if_neg hik]
        simp [hik]
    · show tlV V.d V.mo V.ma V.fl V.co _ _ _ 0 = tlV ((((List.range k).map fun i => (V.c i).toNat).length : Nat) : Int) V.mo V.ma V.fl ((V.co.toNat : Nat) : Int) _ _ _ 0
      rw [hco, List.length_map, List.length_range, ← hk]
      rfl
theorem py_svP {s : LSt} (h : LOk s) : condV (svP s) ∧ svL (svP s) = svL (svO (svP s) (svP s).d.toNat) := by
  have hl := h.len
  have hn : (svP s).d.toNat = s.cols.length := by show ((s.cols.length : Nat) : Int).toNat = _; omega
  refine ⟨⟨?_, ?_, ?_, ?_⟩, ?_⟩
  · show (0 : Int) ≤ ((s.cols.length : Nat) : Int); omega
  · show ((s.cols.length : Nat) : Int) ≤ 16; omega
  · have := h.line
    show (s.mode = 0 ∧ s.mark = 0 ∧ ((s.count : Nat) : Int) = 0 ∧ (s.flags = 0 ∨ s.flags = 1)) ∨ (s.mode = 1 ∧ s.mark ≤ 4 ∧ 0 ≤ ((s.count : Nat) : Int) ∧ ((s.count : Nat) : Int) ≤ 1048576 ∧ (s.flags = 0 ∨ s.flags = 2))
    omega
  · rw [hn]
    intro i hi
    have e : ∀ k (hk : k < s.cols.length), (svP s).c k = ((s.cols[k] : Nat) : Int) := fun k hk => by
      show ((s.cols.getD k 0 : Nat) : Int) = _
      rw [List.getD_eq_getElem?_getD, List.getElem?_eq_getElem hk]
      rfl
    have h1 := h.lo _ (List.getElem_mem hi)
    have h2 := h.hi _ (List.getElem_mem hi)
    rw [e i hi]
    refine ⟨?_, by omega⟩
    unfold preC
    by_cases h0 : i = 0
    · rw [if_pos h0]; omega
    · rw [if_neg h0, e (i - 1) (by omega)]
      have := List.pairwise_iff_getElem.1 h.up (i - 1) i (by omega) hi (by omega)
      omega
  · rw [hn]
    refine svL_ext (fun j hj h4 => rfl) (fun i hi => ?_) rfl
    show ((s.cols.getD i 0 : Nat) : Int) = if i < s.cols.length then ((s.cols.getD i 0 : Nat) : Int) else 0
    split
    · rfl
    · rename_i hh
      rw [List.getD_eq_getElem?_getD, List.getElem?_eq_none (by omega)]
      rfl
/-- Is a state with these cells Python's? -/
noncomputable def pyB (V : SV) : Bool := @decide (PyS (svA V)) (Classical.propDecidable _)
theorem pyB_true {V : SV} : pyB V = true ↔ PyS (svA V) := by unfold pyB; simp
theorem pyB_false {V : SV} (h : ¬ (condV V ∧ svL V = svL (svO V V.d.toNat))) : pyB V = false := by
  have hn : ¬ PyS (svA V) := fun hp => by
   obtain ⟨s, hs, he⟩ := hp
   apply h
   have e : svL V = svL (svP s) := by
     unfold stA svA at he
     simpa using he
   obtain ⟨k1, k2⟩ := py_svP hs
   have ht := svL_inj_t e
   unfold tlV at ht
   simp only [List.cons.injEq, Value.int.injEq, true_and, and_true] at ht
   obtain ⟨t1, t2, t3, t4, t5, -⟩ := ht
   have t2' : V.mo = (svP s).mo := by omega
   have t3' : V.ma = (svP s).ma := by omega
   have t4' : V.fl = (svP s).fl := by omega
   have hc : ∀ i, i < 16 → V.c i = (svP s).c i := fun i hi => svL_inj_c e hi
   obtain ⟨c1, c2, c3, c4⟩ := k1
   refine ⟨⟨by omega, by omega, ?_, ?_⟩, ?_⟩
   · unfold lineV at c3 ⊢
     rw [t2', t3', t4', t5]
     exact c3
   · intro i hi
     have hi' : i < (svP s).d.toNat := by rw [← t1]; exact hi
     have hi16 : i < 16 := by omega
     have := c4 i hi'
     rw [hc i hi16]
     refine ⟨?_, this.2⟩
     have h0 := this.1
     unfold preC at h0 ⊢
     by_cases hz : i = 0
     · rw [if_pos hz] at h0 ⊢; exact h0
     · rw [if_neg hz] at h0 ⊢; rw [hc (i - 1) (by omega)]; exact h0
   · rw [e, k2]
     refine svL_ext (fun j hj h4 => ?_) (fun i hi => ?_) ?_
     · show (if _ then 10 else 0) = (if _ then 10 else 0)
       rw [t1]
     · show (if i < (svP s).d.toNat then (svP s).c i else 0) = (if i < V.d.toNat then V.c i else 0)
       rw [t1, hc i hi]
     · show tlV (svP s).d (svP s).mo (svP s).ma (svP s).fl (svP s).co _ _ _ 0 = tlV V.d V.mo V.ma V.fl V.co _ _ _ 0
       rw [t1, t2', t3', t4', t5]
       rfl
  unfold pyB
  simp [hn]
theorem pyB_of {V : SV} (hc : condV V) (he : svL V = svL (svO V V.d.toNat)) : pyB V = true := pyB_true.2 (py_of hc he)
/-- What a state counts as. -/
def Cnt (x : Array Value) (s : LSt) : Prop := LOk s ∧ (x = stA s ∨ (¬ PyS x ∧ s = lst0))
theorem cnt_any (x : Array Value) : ∃ s, Cnt x s := by
  by_cases h : PyS x
  · obtain ⟨s, hs, e⟩ := h
    exact ⟨s, hs, .inl e⟩
  · exact ⟨lst0, lst0_ok, .inr ⟨h, rfl⟩⟩
theorem cnt_self {s : LSt} (h : LOk s) : Cnt (stA s) s := ⟨h, .inl rfl⟩
end Go.Proofs.YtmfcapbllbfjnaaGreatDoor

namespace Go.Proofs.YtmfcapbllbfjnaaGreatDoor
open Go.Joins Go.ChangeShapes Go.WideShapes Go.RowKit Go.Deep

section
variable {H : Type} {enc : TypeId × Value → H} {w : World} {base : Nat} {spare : Nat → Bool} {held : Bool}
set_option maxRecDepth 100000 in
theorem formed_S {x : Array Value} (h : x.size = 82) : (Value.agg x).formed Tryz.prog TS = true := by
  obtain ⟨fs, hu⟩ := sUnd
  simp only [Value.formed, hu, sCells, h]
  rfl
set_option maxRecDepth 100000 in
theorem mem_flatAll {l : Lit} : ∀ {ds : List (DataW H)}, l ∈ DataW.flatAll ds → ∃ d ∈ ds, l ∈ d.flat
  | [], h => by simp [DataW.flatAll] at h
  | d :: r, h => by
    simp only [DataW.flatAll, List.mem_append] at h
    rcases h with h | h
    · exact ⟨d, by simp, h⟩
    · obtain ⟨e, he, hl⟩ := mem_flatAll h
      exact ⟨e, by simp [he], hl⟩
set_option maxRecDepth 100000 in
theorem mem_weightsAll {e : TypeId} {n : Nat} : ∀ {ds : List (DataW H)} {d : DataW H}, d ∈ ds → n ∈ d.weights Tryz.prog e → n ∈ DataW.weightsAll Tryz.prog e ds
  | [], _, h, _ => by cases h
  | d0 :: r, d, h, hn => by
    simp only [DataW.weightsAll, List.mem_append]
    rcases List.mem_cons.1 h with h | h
    · subst h; exact .inl hn
    · exact .inr (mem_weightsAll h hn)
set_option maxRecDepth 100000 in
/-- A text within plain data is weighed. -/
theorem strs_weigh : ∀ (m : Nat) (t : TypeId), Tryz.prog.keyTypeAt m t = true → ∀ (n : Nat) (cs : List Value) (x : DataW H × List MemPlace), DataW.trod enc Tryz.prog w base spare held n t cs = some x → ∀ bs, Lit.string bs ∈ x.1.flat → bs.length ∈ x.1.weights Tryz.prog t
  | 0, _, h => by simp [Program.keyTypeAt] at h
  | m + 1, t, hk => by
    intro n cs x h bs hb
    unfold Program.keyTypeAt at hk
    cases hu : Tryz.prog.underlying t with
    | none => simp [hu] at hk
    | some kd =>
      cases kd
      case bool =>
        obtain ⟨b, rfl, rfl⟩ := DataW.trod_bool hu h
        simp [DataW.flat] at hb
      case int q =>
        obtain ⟨z, rfl, rfl, hw⟩ := DataW.trod_int hu h
        simp [DataW.flat] at hb
      case string =>
        obtain ⟨s, rfl, rfl, hs⟩ := DataW.trod_string hu h
        have : bs = s.data.toList := by simpa [DataW.flat] using hb
        subst this
        simp [DataW.weights]
      case array len e =>
        simp only [hu] at hk
        obtain ⟨xs, k, -, rfl, -, hlen, hx⟩ := DataW.trod_array hu h
        have hb' : Lit.string bs ∈ DataW.flatAll (xs.map (·.1)) := by simpa only [DataW.flat] using hb
        obtain ⟨d, hd, hl⟩ := mem_flatAll hb'
        obtain ⟨y, hy, rfl⟩ := List.mem_map.1 hd
        obtain ⟨i, hi, rfl⟩ := List.getElem_of_mem hy
        have := strs_weigh m e hk k _ xs[i] ((hx i (by omega)).trans (List.getElem?_eq_getElem hi)) bs hl
        simp only [DataW.weights, hu]
        exact mem_weightsAll hd this
      case struct fs =>
        simp only [hu, Bool.and_eq_true, Bool.not_eq_true'] at hk
        obtain ⟨xs, k, -, rfl, -, hlen, hx⟩ := DataW.trod_struct hu h
        have hb' : Lit.string bs ∈ DataW.flatAll (xs.map (·.1)) := by simpa only [DataW.flat] using hb
        obtain ⟨d, hd, hl⟩ := mem_flatAll hb'
        obtain ⟨y, hy, rfl⟩ := List.mem_map.1 hd
        obtain ⟨i, hi, rfl⟩ := List.getElem_of_mem hy
        have hif : i < fs.size := by omega
        have hf : Tryz.prog.keyTypeAt m fs[i].type = true := by
          have := Array.all_eq_true_iff_forall_mem.1 hk.1.1 fs[i] (Array.getElem_mem hif)
          simpa using (Bool.and_eq_true_iff.1 this).2
        have := strs_weigh m fs[i].type hf k _ xs[i] ((hx i fs[i] (Array.getElem?_eq_getElem hif)).trans (List.getElem?_eq_getElem hi)) bs hl
        simp only [DataW.weights, hu]
        exact DataW.weights_mem_each (j := i) (by simp [hif]) (by simp [hi]) _ this
      all_goals (simp [hu] at hk; done)
set_option maxRecDepth 100000 in
theorem isS_trod {n : Nat} {cs : List Value} {x : DataW H × List MemPlace} (h : DataW.trod enc Tryz.prog w base spare held n TS cs = some x) (hl : cs.length = 82) (hw : ∀ k ∈ x.1.weights Tryz.prog TS, k ≤ reachBytes) : IsS cs.toArray := by
  obtain ⟨h1, -⟩ := keyLits_of_trod _ TS sDeep n cs x h
  have hsb : shortB cs.toArray = true := by
    refine List.all_eq_true.2 fun v hv => ?_
    split
    · rename_i s
      have hc := cells_of_lits (P := Tryz.prog) 4 TS (tiled_of_laidOut laidOut 4 TS sVar sDeep4) _ _ _ h1
      have hv' : Value.string s ∈ x.1.flat.map Lit.toCell := by rw [← hc]; simpa using hv
      obtain ⟨l, hl1, hl2⟩ := List.mem_map.1 hv'
      cases l with
      | string bs =>
        have e : s = ⟨bs.toArray⟩ := by
          have : Value.string ⟨bs.toArray⟩ = Value.string s := hl2
          injection this with this
          exact this.symm
        have hb := hw _ (strs_weigh _ TS sDeep n cs x h bs hl1)
        have hr := Nat.le_of_lt reachBytes_lt
        rw [e]
        refine decide_eq_true ?_
        have hz : (⟨bs.toArray⟩ : ByteArray).size = bs.length := by simp [ByteArray.size]
        omega
      | _ => exact absurd hl2 (by simp [Lit.toCell])
    · rfl
  refine ⟨⟨.string (keyBytes x.1.flat), ?_⟩, hsb⟩
  obtain ⟨fs, hu⟩ := sUnd
  unfold keyOf
  simp only [hu]
  rw [if_pos (by rw [show Tryz.prog.keyType TS = true from sDeep, formed_S (by simpa using hl)]; rfl)]
  show (Tryz.prog.keyLits (Tryz.prog.types.size + 1) TS cs.toArray.toList).map _ = _
  rw [List.toList_toArray, h1]
  rfl
set_option maxRecDepth 100000 in
theorem open_state {r : Reach} {b0 : Nat} {w2 : World} {v : Value} {d : DataW H} {p : List MemPlace} (hv : Value.okWide Tryz.prog w2 r b0 TS v) (h : DataW.Trod enc Tryz.prog w base spare held TS v d p) (hw : ∀ k ∈ d.weights Tryz.prog TS, k ≤ reachBytes) : ∃ x, v = .agg x ∧ IsS x := by
  obtain ⟨fs, hu⟩ := sUnd
  obtain ⟨cs, rfl, hsz⟩ := okWide_struct hu hv
  obtain ⟨n, hf⟩ := h
  refine ⟨cs, rfl, ?_⟩
  have := isS_trod (cs := cs.toList) hf (by rw [Array.length_toList, hsz, sCells]) hw
  rwa [Array.toArray_toList] at this
set_option maxRecDepth 100000 in
theorem trodAll_carry {w' : World} (hb : Below w.heap.size w w') : ∀ {ts : List TypeId} {vs : List Value} {ds : List (DataW H)} {ps : List MemPlace},
    DataW.TrodAll enc Tryz.prog w 0 (fun _ => true) true ts vs ds ps → DataW.TrodAll enc Tryz.prog w' 0 (fun _ => true) true ts vs ds ps
  | [], [], [], _, h => h
  | _ :: _, _ :: _, _ :: _, _, ⟨p, q, ⟨n, hn⟩, h2, e⟩ => ⟨p, q, ⟨n, DataW.trod_carry n _ _ _ hn (fun x hx => hb.same (DataW.trod_lt n _ _ _ hn x hx))⟩, trodAll_carry hb h2, e⟩
set_option maxRecDepth 100000 in
theorem kids_here : Kids Tryz.prog (· < Tryz.prog.types.size) := kids_rows (by kernel_rfl) (by kernel_rfl)
set_option maxRecDepth 100000 in
theorem slices_here : ∀ t e, t < Tryz.prog.types.size → Tryz.prog.underlying t = some (.slice e) → 0 < Tryz.prog.cellsOf e := slices_full_of _ (by kernel_rfl)
set_option maxRecDepth 100000 in
theorem args_back {w' : World} {sp : Nat → Bool} (hb : Below w.heap.size w w') {ts : List TypeId} {vs : List Value} {ds : List (DataW H)} {ps : List MemPlace} (hts : (ts.all fun t => decide (t < Tryz.prog.types.size)) = true)
    (h : DataW.TrodAll enc Tryz.prog w 0 (fun _ => true) true ts vs ds ps) (hs : ∀ p ∈ ps, sp p.block = true) : DataW.TrodAll enc Tryz.prog w' 0 sp true ts vs ds ps :=
  DataW.TrodAll.respare kids_here slices_here (fun t ht => of_decide_eq_true (List.all_eq_true.1 hts t ht)) (trodAll_carry hb h) hs
end
end Go.Proofs.YtmfcapbllbfjnaaGreatDoor
