/- What a rope tells, whatever is asked: one contract for each call, with answers that are functions of the text and of what is asked. The document's own functions of the rope: the short ones. The document's Steps and Find. The document's Lines and Line. The document's Line. The document's Splice. The document's Splice, where an edit may be. -/
import Derived.Test.YtcbmigkdmmmahaaDoorLine
import Derived.Test.YtcbmigkdmmmahaaDoorRWakes
import Derived.Test.YtcbmigkdmmmahaaDoorURefCount
import Derived.Maps.AppendAt
import Derived.Deep.AppendLies
namespace Go.Proofs.YtcbmigkdmmmahaaDoor
open Go.RowKit

def byV (s : ByteArray) (i : Int) : Int := if 0 ≤ i ∧ i < s.size then (bt s i.toNat : Nat) else 0
def byE (s : ByteArray) (i : Int) : Int := if 0 ≤ i ∧ i < s.size then 0 else 5
theorem byteT {w : World} {rb : Nat} {s : ByteArray} (hr : RopeIs w rb s) (i : Int) : Calls Tryd.prog 18 #[.pointer (some ⟨rb, 0, none⟩), .int .i64 i] w fun e w' => e = .returned (.tuple #[.int .u8 (byV s i), .int .i64 (byE s i)]) ∧ Up w w' := by
  unfold byV byE
  by_cases h : 0 ≤ i ∧ i < s.size
  · obtain ⟨k, rfl⟩ := Int.eq_ofNat_of_zero_le h.1
    rw [if_pos h, if_pos h, Int.toNat_natCast]
    exact byte_in hr k (by omega)
  · rw [if_neg h, if_neg h]
    exact byte_out hr i h
def slV (s : ByteArray) (f u : Int) : ByteArray := if 0 ≤ f ∧ f ≤ u ∧ u ≤ s.size then s.extract f.toNat u.toNat else ⟨#[]⟩
def slE (s : ByteArray) (f u : Int) : Int := if 0 ≤ f ∧ f ≤ u ∧ u ≤ s.size then 0 else 5
theorem sliceT {w : World} {rb : Nat} {s : ByteArray} (hr : RopeIs w rb s) (f u : Int) : Calls Tryd.prog 19 #[.pointer (some ⟨rb, 0, none⟩), .int .i64 f, .int .i64 u] w fun e w' => e = .returned (.tuple #[.string (slV s f u), .int .i64 (slE s f u)]) ∧ Up w w' := by
  unfold slV slE
  by_cases h : 0 ≤ f ∧ f ≤ u ∧ u ≤ s.size
  · obtain ⟨k, rfl⟩ := Int.eq_ofNat_of_zero_le h.1
    obtain ⟨j, rfl⟩ := Int.eq_ofNat_of_zero_le (show 0 ≤ u by omega)
    rw [if_pos h, if_pos h, Int.toNat_natCast, Int.toNat_natCast]
    exact slice_in hr k j (by omega) (by omega)
  · rw [if_neg h, if_neg h]
    exact slice_out hr f u h
def lnF (s : ByteArray) (k : Int) : Int := if 0 ≤ k ∧ k ≤ nl s then (bh s k.toNat : Nat) else 0
def lnT (s : ByteArray) (k : Int) : Int := if 0 ≤ k ∧ k ≤ nl s then (lineEnd s k.toNat : Nat) else 0
def lnE (s : ByteArray) (k : Int) : Int := if 0 ≤ k ∧ k ≤ nl s then 0 else 5
theorem lineT {w : World} {rb : Nat} {s : ByteArray} (hr : RopeIs w rb s) (k : Int) : Calls Tryd.prog 20 #[.pointer (some ⟨rb, 0, none⟩), .int .i64 k] w fun e w' => e = .returned (.tuple #[.agg #[.int .i64 (lnF s k), .int .i64 (lnT s k)], .int .i64 (lnE s k)]) ∧ Up w w' := by
  unfold lnF lnT lnE
  by_cases h : 0 ≤ k ∧ k ≤ nl s
  · obtain ⟨j, rfl⟩ := Int.eq_ofNat_of_zero_le h.1
    rw [if_pos h, if_pos h, if_pos h, Int.toNat_natCast]
    exact line_in hr j (by omega)
  · rw [if_neg h, if_neg h, if_neg h]
    exact line_out hr k h
def fdV (s : ByteArray) (i : Int) : Int := if 0 ≤ i ∧ i ≤ s.size then (na s i.toNat : Nat) else 0
def fdE (s : ByteArray) (i : Int) : Int := if 0 ≤ i ∧ i ≤ s.size then 0 else 5
theorem findT {w : World} {rb : Nat} {s : ByteArray} (hr : RopeIs w rb s) (i : Int) : Calls Tryd.prog 21 #[.pointer (some ⟨rb, 0, none⟩), .int .i64 i] w fun e w' => e = .returned (.tuple #[.int .i64 (fdV s i), .int .i64 (fdE s i)]) ∧ Up w w' := by
  unfold fdV fdE
  by_cases h : 0 ≤ i ∧ i ≤ s.size
  · obtain ⟨k, rfl⟩ := Int.eq_ofNat_of_zero_le h.1
    rw [if_pos h, if_pos h, Int.toNat_natCast]
    exact find_in hr k (by omega)
  · rw [if_neg h, if_neg h]
    exact find_out hr i h

/-- What an edit comes to: the code of it, and the text where it may be. -/
def spE (s : ByteArray) (p d : Int) (i : ByteArray) : Int := if 0 ≤ p ∧ 0 ≤ d ∧ p + d ≤ s.size then (if (s.size : Int) - d + i.size ≤ 1048576 then 0 else 2) else 5
def spT (s : ByteArray) (p d : Int) (i : ByteArray) : ByteArray := edited s p.toNat d.toNat i
theorem spE_cases (s : ByteArray) (p d : Int) (i : ByteArray) : spE s p d i = 0 ∨ spE s p d i = 2 ∨ spE s p d i = 5 := by
  unfold spE; split
  · split
    · exact .inl rfl
    · exact .inr (.inl rfl)
  · exact .inr (.inr rfl)
theorem spliceT_ok {w : World} {rb : Nat} {s : ByteArray} (hr : RopeIs w rb s) (hT : Tabs w) (p d : Int) (i : ByteArray) (h : spE s p d i = 0) : Calls Tryd.prog 14 #[.pointer (some ⟨rb, 0, none⟩), .agg #[.int .i64 p, .int .i64 d, .string i]] w fun e w' => ∃ rb', e = .returned (.tuple #[.pointer (some ⟨rb', 0, none⟩), .int .i64 0]) ∧ RopeIs w' rb' (spT s p d i) ∧ Up w w' := by
  unfold spE at h
  split at h
  · rename_i h1
    split at h
    · obtain ⟨k, rfl⟩ := Int.eq_ofNat_of_zero_le h1.1
      obtain ⟨j, rfl⟩ := Int.eq_ofNat_of_zero_le h1.2.1
      unfold spT
      rw [Int.toNat_natCast, Int.toNat_natCast]
      exact splice_in hr hT k j i (by omega) (by assumption)
    · cases h
  · cases h
theorem spliceT_no {w : World} {rb : Nat} {s : ByteArray} (hr : RopeIs w rb s) (p d : Int) (i : ByteArray) (h : spE s p d i ≠ 0) : Calls Tryd.prog 14 #[.pointer (some ⟨rb, 0, none⟩), .agg #[.int .i64 p, .int .i64 d, .string i]] w fun e w' => e = .returned (.tuple #[.pointer none, .int .i64 (spE s p d i)]) ∧ Up w w' := by
  unfold spE at h ⊢
  by_cases h1 : 0 ≤ p ∧ 0 ≤ d ∧ p + d ≤ s.size
  · rw [if_pos h1] at h ⊢
    by_cases h2 : (s.size : Int) - d + i.size ≤ 1048576
    · rw [if_pos h2] at h; exact absurd rfl h
    · rw [if_neg h2]
      obtain ⟨k, rfl⟩ := Int.eq_ofNat_of_zero_le h1.1
      obtain ⟨j, rfl⟩ := Int.eq_ofNat_of_zero_le h1.2.1
      exact splice_long hr k j i (by omega) (by omega)
  · rw [if_neg h1]
    exact splice_out hr p d i h1

structure St1 (w : World) (rb : Nat) (t : ByteArray) (W : World) : Prop where
  r : RopeIs W rb t
  u : Up w W
  t : Tabs W
theorem St1.up {w : World} {rb : Nat} {t : ByteArray} {W W' : World} (h : St1 w rb t W) (hu : Up W W') : St1 w rb t W' := ⟨h.r.up hu, h.u.trans hu, h.t.up hu⟩
structure St2 (w : World) (rb qb : Nat) (t : ByteArray) (W : World) : Prop where
  r : RopeIs W rb t
  q : RopeIs W qb t
  u : Up w W
  t : Tabs W
theorem St2.up {w : World} {rb qb : Nat} {t : ByteArray} {W W' : World} (h : St2 w rb qb t W) (hu : Up W W') : St2 w rb qb t W' := ⟨h.r.up hu, h.q.up hu, h.u.trans hu, h.t.up hu⟩
theorem St2.mk' {w : World} {rb qb : Nat} {t : ByteArray} {W : World} (h : St1 w rb t W) (hq : RopeIs W qb t) : St2 w rb qb t W := ⟨h.r, hq, h.u, h.t⟩
/-- A line that has been told, in its block. -/
structure Rg (W : World) (b : Nat) (x y : Int) : Prop where
  a : W.cell? ⟨b, 0, none⟩ = some (.int .i64 x)
  z : W.cell? ⟨b, 1, none⟩ = some (.int .i64 y)
  l : b < W.heap.size
theorem Rg.up {W W' : World} {b : Nat} {x y : Int} (h : Rg W b x y) (hu : Up W W') : Rg W' b x y := ⟨cell_up hu h.a, cell_up hu h.z, Nat.lt_of_lt_of_le h.l (Below.size hu)⟩
theorem rg_cells (W : World) (x y : Int) : Rg (W.alloc (.cells #[.int .i64 x, .int .i64 y] 45)) W.heap.size x y :=
  ⟨cellOf (Go.heap_alloc_new _ _) rfl, cellOf (Go.heap_alloc_new _ _) rfl, by show W.heap.size < (W.heap.push _).size; simp⟩
end Go.Proofs.YtcbmigkdmmmahaaDoor

namespace Go.Proofs.YtcbmigkdmmmahaaDoor
open Go.RowKit

/-- How many binary digits a number has. -/
def digs : Nat → Nat
  | 0 => 0
  | n + 1 => 1 + digs ((n + 1) / 2)
decreasing_by omega
theorem digs_zero : digs 0 = 0 := by rw [digs]
theorem digs_pos {n : Nat} (h : 0 < n) : digs n = 1 + digs (n / 2) := by
  cases n with
  | zero => omega
  | succ n => rw [digs]
theorem digs_le : ∀ (m n : Nat), n ≤ m → digs n ≤ n := by
  intro m
  induction m with
  | zero => intro n h; obtain rfl : n = 0 := by omega
            rw [digs_zero]; omega
  | succ m ih =>
    intro n h
    by_cases h0 : 0 < n
    · rw [digs_pos h0]; have := ih (n / 2) (by omega); omega
    · obtain rfl : n = 0 := by omega
      rw [digs_zero]; omega
theorem digs_pow : ∀ (k n : Nat), 2 ^ k ≤ n → k + 1 ≤ digs n := by
  intro k
  induction k with
  | zero => intro n h; rw [digs_pos (by omega)]; omega
  | succ k ih =>
    intro n h
    have hp : 2 ^ (k + 1) = 2 ^ k * 2 := Nat.pow_succ 2 k
    have h1 : 1 ≤ 2 ^ k := Nat.one_le_two_pow
    rw [digs_pos (by omega)]
    have := ih (n / 2) (by omega)
    omega
theorem depth_digs {n d : Nat} (h : DepthOk n d) : d ≤ 2 * digs n + 2 := by
  rcases h with ⟨rfl, _⟩ | ⟨rfl, _⟩ | h
  · omega
  · omega
  · have h1 : 2 ^ (d / 2) ≤ n := Nat.le_trans (by omega) h
    have := digs_pow _ _ h1
    omega

set_option maxRecDepth 100000 in
set_option maxHeartbeats 1000000 in
theorem digits_any (n : Nat) (hn : (n : Int) ≤ 1048576) (w : World) : Calls Tryd.prog 26 #[.int .i64 (n : Nat)] w fun e w' => e = .returned (.int .i64 (digs n : Nat)) ∧ w = w' := by
  obtain ⟨V, hV⟩ : ∃ V, digs n = V := ⟨_, rfl⟩
  have HV := Lib.hid (show (V : Int) ≤ 1048576 by rw [← hV]; have := digs_le n n (Nat.le_refl _); omega)
  rw [hV]
  go_enter Tryd.func26, Tryd.ntmps26
  go_wp2
  go_loopg [0, 3] n (fun g nv kv wr => w = wr ∧ ∃ (m k : Nat), g = m ∧ nv = .int .i64 (m : Nat) ∧ kv = .int .i64 (k : Nat) ∧ m ≤ n ∧ Hid (k + digs m = V))
  case atStart => exact ⟨rfl, n, 0, rfl, rfl, rfl, Nat.le_refl _, Lib.hid (by omega)⟩
  case round =>
    obtain ⟨rfl, m, k, hg, rfl, rfl, hm, hK⟩ := hrel
    by_cases h0 : 0 < m
    · have hk : (k : Int) ≤ 1048575 := by have h1 := hK.out; rw [digs_pos h0] at h1; have := HV.out; omega
      have HK2 : Hid (k + 1 + digs (m / 2) = V) := Lib.hid (by have h1 := hK.out; rw [digs_pos h0] at h1; omega)
      have HG := Lib.hid hg
      clear hg
      go_wp2
      go_roundg (m / 2)
      case measure => rw [HG.out]; omega
      case rel => exact ⟨rfl, m / 2, k + 1, rfl, by go_num, by go_num, by omega, HK2⟩
    · obtain rfl : m = 0 := by omega
      obtain rfl : k = V := by have h1 := hK.out; rw [digs_zero] at h1; exact h1
      clear hK HV hg
      go_wp2
      go_ret
      exact ⟨rfl, rfl⟩
end Go.Proofs.YtcbmigkdmmmahaaDoor

namespace Go.Proofs.YtcbmigkdmmmahaaDoor
open Go.RowKit

set_option maxRecDepth 100000 in
set_option maxHeartbeats 400000 in
theorem refSteps_any (s : ByteArray) (hs : s.size ≤ maxLen) (w : World) : Calls Tryd.prog 13 #[.string s] w fun e w' => e = .returned (.int .i64 (countS s : Nat)) ∧ Up w w' := by
  have H := Lib.hid (refCount_any s hs w)
  clear hs
  go_enter Tryd.func13, Tryd.ntmps13
  go_wp2_with (go_at_call 30; refine H.out.mono ?_; rintro e w1 ⟨rfl, hu⟩)
  go_ret
  exact ⟨rfl, hu⟩

theorem na_take (s : ByteArray) (i : Nat) : na s i = (s.data.toList.take i).count 10 := by
  unfold na nl
  rw [ByteArray.data_extract]
  simp
theorem na_succ {s : ByteArray} {i : Nat} (h : i < s.size) : na s (i + 1) = na s i + (if s[i] = 10 then 1 else 0) := by
  rw [na_take, na_take, List.take_add_one, List.count_append]
  have hl : i < s.data.toList.length := by simp; exact h
  rw [List.getElem?_eq_getElem hl]
  congr 1
  show List.count 10 [s.data.toList[i]] = _
  rw [List.count_singleton]
  by_cases hx : s[i] = 10
  · rw [if_pos hx, if_pos]
    rw [show s.data.toList[i] = s[i] from rfl, hx]
    rfl
  · rw [if_neg hx, if_neg]
    rw [show s.data.toList[i] = s[i] from rfl]
    simpa using hx
theorem na_le_size (s : ByteArray) (i : Nat) : na s i ≤ s.size := by
  rw [na_take]
  refine Nat.le_trans (List.count_le_length) ?_
  rw [List.length_take]
  simp
  omega

set_option maxRecDepth 100000 in
set_option maxHeartbeats 1000000 in
theorem refFind_out (s : ByteArray) (k : Int) (hk : ¬ (0 ≤ k ∧ k ≤ s.size)) (w : World) : Calls Tryd.prog 28 #[.string s, .int .i64 k] w fun e w' => e = .returned (.tuple #[.int .i64 0, .int .i64 5]) ∧ w = w' := by
  by_cases h0 : k < 0
  · clear hk
    go_enter Tryd.func28, Tryd.ntmps28
    go_wp2
    go_ret2
    exact ⟨rfl, rfl⟩
  · have f0 : decide (k < 0) = false := decide_eq_false h0
    have h1 : (s.size : Int) < k := by omega
    clear hk h0
    go_enter Tryd.func28, Tryd.ntmps28
    go_wp2
    go_ret2
    exact ⟨rfl, rfl⟩
set_option maxRecDepth 100000 in
set_option maxHeartbeats 1000000 in
theorem refFind_in (s : ByteArray) (hs : (s.size : Int) ≤ 1048576) (k : Nat) (hk : k ≤ s.size) (w : World) : Calls Tryd.prog 28 #[.string s, .int .i64 (k : Nat)] w fun e w' => e = .returned (.tuple #[.int .i64 (na s k : Nat), .int .i64 0]) ∧ w = w' := by
  have HS := Lib.hid hs
  have f0 : decide ((k : Int) < 0) = false := decide_eq_false (by omega)
  have f1 : decide (s.size < k) = false := decide_eq_false (by omega)
  have HK := Lib.hid hk
  clear hs hk
  go_enter Tryd.func28, Tryd.ntmps28
  go_wp2
  go_loopg [6, 7] k (fun g nv iv wr => w = wr ∧ ∃ (n i : Nat), g = k - i ∧ nv = .int .i64 (n : Nat) ∧ iv = .int .i64 (i : Nat) ∧ i ≤ k ∧ Hid (n = na s i))
  case atStart => exact ⟨rfl, 0, 0, rfl, rfl, rfl, Nat.zero_le _, Lib.hid (na_zero s).symm⟩
  case round =>
    obtain ⟨rfl, n, i, hg, rfl, rfl, hi, hN⟩ := hrel
    by_cases hlt : i < k
    · have hib : i < s.size := by have := HK.out; omega
      have hii : (i : Int) < s.size := by omega
      have hi2 : (i : Int) ≤ 1048575 := by have := HS.out; omega
      have hn : (n : Int) ≤ 1048576 := by have := hN.out; have := na_le_size s i; have := HS.out; omega
      have hsu := na_succ hib
      have HG := Lib.hid hg
      clear hg
      by_cases hx : s[i] = 10
      · rw [if_pos hx] at hsu
        have hx1 : (((s[i].toNat : Nat) : Int) == 10) = true := by rw [hx]; rfl
        have HN2 : Hid (n + 1 = na s (i + 1)) := Lib.hid (by rw [hN.out, hsu])
        clear hsu hx
        go_wp2
        go_roundg (k - (i + 1))
        case measure => rw [HG.out]; omega
        case rel => exact ⟨rfl, n + 1, i + 1, rfl, by go_num, by go_num, by omega, HN2⟩
      · rw [if_neg hx] at hsu
        have hx1 : (((s[i].toNat : Nat) : Int) == 10) = false := by
          rw [beq_eq_false_iff_ne]
          intro h
          exact hx (by apply UInt8.toNat.inj; show s[i].toNat = 10; omega)
        have HN2 : Hid (n = na s (i + 1)) := Lib.hid (by rw [hN.out, hsu]; rfl)
        clear hsu hx
        go_wp2
        go_roundg (k - (i + 1))
        case measure => rw [HG.out]; omega
        case rel => exact ⟨rfl, n, i + 1, rfl, by go_num, by go_num, by omega, HN2⟩
    · obtain rfl : i = k := by omega
      have f2 : decide (i < i) = false := decide_eq_false (by omega)
      obtain rfl : n = na s i := hN.out
      clear hN hg hlt
      go_wp2
      go_ret2
      exact ⟨rfl, rfl⟩
end Go.Proofs.YtcbmigkdmmmahaaDoor

namespace Go.Proofs.YtcbmigkdmmmahaaDoor
open Go.RowKit

theorem bh_behind {s : ByteArray} {i : Nat} (h : i < s.size) (hx : s[i] = 10) : bh s (na s i + 1) = i + 1 := by
  have hl : i < s.data.toList.length := by simp; exact h
  have e : s.data.toList = s.data.toList.take i ++ s.data.toList.drop i := (List.take_append_drop i _).symm
  unfold bh
  rw [na_take]
  conv => lhs; rw [e]
  rw [List.take_append_drop, bhL_split s i h]
  rw [if_pos hx]
where
  bhL_split (s : ByteArray) (i : Nat) (h : i < s.size) : bhL s.data.toList ((s.data.toList.take i).count 10 + 1) = i + (if s[i] = 10 then 1 else bhL (s.data.toList.drop i) 1) := by
    have hl : i < s.data.toList.length := by simp; exact h
    have e : s.data.toList = s.data.toList.take i ++ s.data.toList.drop i := (List.take_append_drop i _).symm
    have k := bhL_append_right (s.data.toList.take i) (s.data.toList.drop i) ((s.data.toList.take i).count 10 + 1) (by omega)
    rw [List.take_append_drop, List.length_take, Nat.min_eq_left (by omega), show (s.data.toList.take i).count 10 + 1 - (s.data.toList.take i).count 10 = 1 from by omega] at k
    rw [k]
    congr 1
    by_cases hx : s[i] = 10
    · rw [if_pos hx, bh_drop s i 1 (by omega) h, if_pos hx]
      show 1 + bhL _ 0 = 1
      rw [bhL_zero]
    · rw [if_neg hx]

/-- The cells of the first m lines that end in an LF. -/
def lnCells (s : ByteArray) (m : Nat) : List Value := (List.range m).flatMap fun k => [.int .i64 (bh s k : Nat), .int .i64 (bh s (k + 1) : Nat)]
theorem lnCells_zero (s : ByteArray) : lnCells s 0 = [] := rfl
theorem lnCells_succ (s : ByteArray) (m : Nat) : lnCells s (m + 1) = lnCells s m ++ [.int .i64 (bh s m : Nat), .int .i64 (bh s (m + 1) : Nat)] := by
  unfold lnCells
  rw [List.range_succ, List.flatMap_append]
  simp
theorem lnCells_len (s : ByteArray) : ∀ m, (lnCells s m).length = m * 2
  | 0 => rfl
  | m + 1 => by rw [lnCells_succ, List.length_append, lnCells_len s m]; simp; omega
theorem lnCells_at (s : ByteArray) : ∀ m k, k < m → (lnCells s m)[k * 2]? = some (.int .i64 (bh s k : Nat)) ∧ (lnCells s m)[k * 2 + 1]? = some (.int .i64 (bh s (k + 1) : Nat))
  | 0, k, h => absurd h (Nat.not_lt_zero _)
  | m + 1, k, h => by
    have hl := lnCells_len s m
    rw [lnCells_succ]
    by_cases e : k = m
    · subst e
      rw [List.getElem?_append_right (by omega), List.getElem?_append_right (by omega), hl, show k * 2 - k * 2 = 0 from by omega, show k * 2 + 1 - k * 2 = 1 from by omega]
      exact ⟨rfl, rfl⟩
    · rw [List.getElem?_append_left (by omega), List.getElem?_append_left (by omega)]
      exact lnCells_at s m k (by omega)
/-- The cells of all lines. -/
def allCells (s : ByteArray) : List Value := lnCells s (nl s) ++ [.int .i64 (bh s (nl s) : Nat), .int .i64 (s.size : Nat)]
theorem allCells_at (s : ByteArray) (k : Nat) (h : k ≤ nl s) : (allCells s)[k * 2]? = some (.int .i64 (bh s k : Nat)) ∧ (allCells s)[k * 2 + 1]? = some (.int .i64 (lineEnd s k : Nat)) := by
  have hl := lnCells_len s (nl s)
  unfold allCells lineEnd
  by_cases e : k < nl s
  · rw [if_pos e, List.getElem?_append_left (by omega), List.getElem?_append_left (by omega)]
    exact lnCells_at s _ k e
  · obtain rfl : k = nl s := by omega
    rw [if_neg e, List.getElem?_append_right (by omega), List.getElem?_append_right (by omega), hl, show nl s * 2 - nl s * 2 = 0 from by omega, show nl s * 2 + 1 - nl s * 2 = 1 from by omega]
    exact ⟨rfl, rfl⟩

theorem infoRange : (Tryd.prog.info? 45).map (fun i => (i.zero, i.size, i.bytes)) = some (some (.agg #[.int .i64 0, .int .i64 0]), 2, 16) := by kernel_rfl

theorem own_base {W : World} {N z m : Nat} {v : Value} {xs : List Value} {e : TypeId} {k : Nat} (hr : W.ownsRow N e z v m xs) (hk : v.ownBlock = some k) : N ≤ k := by
  rcases hr.2 with ⟨rfl, _⟩ | ⟨g, cap, cur, rfl, h1, _⟩
  · cases hk
  · obtain rfl : g = k := by simpa [Value.ownBlock] using hk
    exact h1
theorem rel_lines {w0 W w2 : World} {s : ByteArray} {m : Nat} {v v' : Value} {tmp : Obj} (hN : w0.heap.size ≤ W.heap.size) (hu : Up w0 W) (hown' : w2.ownsRow w0.heap.size 45 2 v' (m + 1) (lnCells s m ++ [.int .i64 (bh s m : Nat), .int .i64 (bh s (m + 1) : Nat)]))
    (hr : W.ownsRow w0.heap.size 45 2 v m (lnCells s m)) (hgrow : (W.alloc tmp).grownBy w2 v.ownBlock) : w2.ownsRow w0.heap.size 45 2 v' (m + 1) (lnCells s (m + 1)) ∧ Up w0 w2 := by
  rw [← lnCells_succ] at hown'
  refine ⟨hown', ?_⟩
  refine (hu.trans (Up.alloc W tmp)).grown hgrow (by show w0.heap.size ≤ (W.heap.push tmp).size; simp; omega) fun k hk => ?_
  exact own_base hr hk
theorem rel_all {w0 W w2 : World} {s : ByteArray} {v v' : Value} {tmp : Obj} (hN : w0.heap.size ≤ W.heap.size) (hu : Up w0 W) (hown' : w2.ownsRow w0.heap.size 45 2 v' (na s s.size + 1) (lnCells s (na s s.size) ++ [.int .i64 (bh s (na s s.size) : Nat), .int .i64 (s.size : Nat)]))
    (hr : W.ownsRow w0.heap.size 45 2 v (na s s.size) (lnCells s (na s s.size))) (hgrow : (W.alloc tmp).grownBy w2 v.ownBlock) : w2.ownsRow w0.heap.size 45 2 v' (nl s + 1) (allCells s) ∧ Up w0 w2 := by
  rw [na_all] at hown'
  exact ⟨hown', (hu.trans (Up.alloc W tmp)).grown hgrow (by show w0.heap.size ≤ (W.heap.push tmp).size; simp; omega) fun k hk => own_base hr hk⟩

def LinesPost (s : ByteArray) (w : World) (e : Ending) (w' : World) : Prop := ∃ v, e = .returned v ∧ w'.ownsRow w.heap.size 45 2 v (nl s + 1) (allCells s) ∧ Up w w'
set_option maxRecDepth 100000 in
set_option maxHeartbeats 2000000 in
theorem refLines_any (s : ByteArray) (hs : (s.size : Int) ≤ 1048576) (w : World) : Calls Tryd.prog 25 #[.string s] w (LinesPost s w) := by
  obtain ⟨i0, hi0, hz0, hz1, hz2⟩ := info_parts infoRange
  have HS := Lib.hid hs
  clear hs
  go_enter Tryd.func25, Tryd.ntmps25
  go_wp2
  go_loopg [3, 4, 5] s.size (fun g lv fv iv wr => ∃ (i fr : Nat), g = s.size - i ∧ iv = .int .i64 (i : Nat) ∧ i ≤ s.size ∧ fv = .int .i64 (fr : Nat) ∧ Hid (fr = bh s (na s i)) ∧ Hid (wr.ownsRow w.heap.size 45 2 lv (na s i) (lnCells s (na s i))) ∧ Hid (Up w wr))
  case atStart => exact ⟨0, 0, rfl, rfl, Nat.zero_le _, rfl, Lib.hid (by rw [na_zero, bh_zero]), Lib.hid (by rw [na_zero]; exact World.ownsRow_nil _ _ _ _), Lib.hid (Up.refl _)⟩
  case round =>

    obtain ⟨i, fr, hg, rfl, hi, rfl, hF, hR, hU⟩ := hrel
    have HG := Lib.hid hg
    clear hg
    have hnn := na_le_size s i
    by_cases hlt : i < s.size
    · have hii : (i : Int) < s.size := by omega
      have hi2 : (i : Int) ≤ 1048575 := by have := HS.out; omega
      have hsu := na_succ hlt
      by_cases hx : s[i] = 10
      · rw [if_pos hx] at hsu
        have hx1 : (((s[i].toNat : Nat) : Int) == 10) = true := by rw [hx]; rfl
        have HB := Lib.hid (bh_behind hlt hx)
        have HX := Lib.hid hsu
        have HN := Lib.hid hnn
        clear hsu hx hnn

        go_wp2_with (at_builtin; (refine wpList_append_own _ rfl _ _ 57 rfl w.heap.size 45 i0 (.agg #[.int .i64 0, .int .i64 0]) 2 16 Tryd.underlying57 hi0 hz0 hz1 hz2 rfl (by decide) _ _ _ rfl (hR.out.alloc _) _ 1 1 [.int .i64 (fr : Nat), .int .i64 ((i + 1 : Nat) : Int)] rfl rfl ?c1 ?c2 ?c3 ?c4 ?c5 ?_))
        case c1 =>
          intro j u hj
          match j, hj with
          | 0, hj => simp at hj; subst hj; simp [Addr.add, go_sem]
          | 1, hj => simp at hj; subst hj; simp [Addr.add, go_sem]
        case c2 => intro u hu; simp at hu; rcases hu with rfl | rfl <;> rfl
        case c3 => have := HN.out; have := HS.out; unfold maxLen; omega
        case c4 => have := HN.out; have := HS.out; omega
        case c5 => have := Below.size hU.out; simp; omega
        intro v' w1 hown' hgrow _
        have R := rel_lines (Below.size hU.out) hU.out (by rw [← hF.out, HB.out]; exact hown') hR.out hgrow
        have HR1 := Lib.hid R.1
        have HU1 := Lib.hid R.2
        clear hown' hgrow R
        go_wp2
        go_roundg (s.size - (i + 1))
        case measure => rw [HG.out]; omega
        case rel => exact ⟨i + 1, i + 1, rfl, by go_num, by omega, by go_num, Lib.hid (by rw [HX.out, HB.out]), Lib.hid (by rw [HX.out]; exact HR1.out), HU1⟩
      · rw [if_neg hx] at hsu
        have hx1 : (((s[i].toNat : Nat) : Int) == 10) = false := by
          rw [beq_eq_false_iff_ne]
          intro h
          exact hx (by apply UInt8.toNat.inj; show s[i].toNat = 10; omega)
        have HX := Lib.hid hsu
        clear hsu hx hnn
        go_wp2
        go_roundg (s.size - (i + 1))
        case measure => rw [HG.out]; omega
        case rel => exact ⟨i + 1, fr, rfl, by go_num, by omega, rfl, Lib.hid (by rw [HX.out]; exact hF.out), Lib.hid (by rw [HX.out]; exact hR.out), hU⟩
    · obtain rfl : i = s.size := by omega
      have HN := Lib.hid hnn
      have f0 : decide (s.size < s.size) = false := decide_eq_false (by omega)
      clear hnn hlt hi
      go_wp2_with (at_builtin; (refine wpList_append_own _ rfl _ _ 57 rfl w.heap.size 45 i0 (.agg #[.int .i64 0, .int .i64 0]) 2 16 Tryd.underlying57 hi0 hz0 hz1 hz2 rfl (by decide) _ _ _ rfl (hR.out.alloc _) _ 1 1 [.int .i64 (fr : Nat), .int .i64 (s.size : Nat)] rfl rfl ?c1 ?c2 ?c3 ?c4 ?c5 ?_))
      case c1 =>
        intro j u hj
        match j, hj with
        | 0, hj => simp at hj; subst hj; simp [Addr.add, go_sem]
        | 1, hj => simp at hj; subst hj; simp [Addr.add, go_sem]
      case c2 => intro u hu; simp at hu; rcases hu with rfl | rfl <;> rfl
      case c3 => have := HN.out; have := HS.out; unfold maxLen; omega
      case c4 => have := HN.out; have := HS.out; omega
      case c5 => have := Below.size hU.out; simp; omega
      intro v' w1 hown' hgrow _
      have R := rel_all (Below.size hU.out) hU.out (by rw [← hF.out]; exact hown') hR.out hgrow
      have HR1 := Lib.hid R
      clear hown' hgrow R
      go_wp2
      go_ret
      exact ⟨_, rfl, HR1.out⟩
end Go.Proofs.YtcbmigkdmmmahaaDoor

namespace Go.Proofs.YtcbmigkdmmmahaaDoor
open Go.RowKit

/-- The document's Lines, as it is met: where the list lies, how long it is, what is at each of its places. -/
def LinesAt (s : ByteArray) (w : World) (e : Ending) (w' : World) : Prop := ∃ g cap, e = .returned (.slice (some ⟨g, 0, none⟩) (nl s + 1) cap) ∧ w.heap.size ≤ g ∧ Up w w' ∧ ∀ k, k ≤ nl s → w'.cell? ⟨g, k * 2, none⟩ = some (.int .i64 (bh s k : Nat)) ∧ w'.cell? ⟨g, k * 2 + 1, none⟩ = some (.int .i64 (lineEnd s k : Nat))
theorem refLines_at (s : ByteArray) (hs : (s.size : Int) ≤ 1048576) (w : World) : Calls Tryd.prog 25 #[.string s] w (LinesAt s w) := by
  refine (refLines_any s hs w).mono ?_
  rintro e w' ⟨v, rfl, hown, hu⟩
  obtain ⟨g, cap, rfl, hb, -⟩ := hown.form (by omega)
  refine ⟨g, cap, rfl, hb, hu, fun k hk => ?_⟩
  obtain ⟨h0, h1⟩ := allCells_at s k hk
  exact ⟨(hown.cellAt _ (by omega)).trans h0, (hown.cellAt _ (by omega)).trans h1⟩

set_option maxRecDepth 100000 in
set_option maxHeartbeats 1000000 in
theorem refLine_out (s : ByteArray) (hs : (s.size : Int) ≤ 1048576) (k : Int) (hk : ¬ (0 ≤ k ∧ k ≤ nl s)) (w : World) :
    Calls Tryd.prog 27 #[.string s, .int .i64 k] w fun e w' => e = .returned (.tuple #[.agg #[.int .i64 0, .int .i64 0], .int .i64 5]) ∧ Up w w' := by
  have HE := Lib.hid (Up.alloc w (.cells #[.int .i64 0, .int .i64 0] 45))
  have HL := Lib.hid (refLines_at s hs (w.alloc (.cells #[.int .i64 0, .int .i64 0] 45)))
  have hnl := nl_le s
  obtain ⟨m, hm⟩ : ∃ m, nl s + 1 = m := ⟨_, rfl⟩
  have hmi : (m : Int) ≤ 1048577 := by omega
  by_cases h0 : k < 0
  · clear hk hs hnl hmi
    go_enter Tryd.func27, Tryd.ntmps27
    go_wp2_with (go_at_call 25; ((with_reducible refine HL.out.mono ?_); rintro e' w1 ⟨g, cap, rfl, hg, hu1, -⟩; have c0 := cell_up hu1 (line_cells w).1; have c1 := cell_up hu1 (line_cells w).2; have z0 := frozen_up hu1 (line_cells w).1 (line_fz w).1; have z1 := frozen_up hu1 (line_cells w).2 (line_fz w).2; have hf := set2 w1 w.heap.size (.int .i64 0) (.int .i64 0) _ _ c0 c1))
    refine bodyPost_ret (v := .tuple #[.agg #[.int .i64 0, .int .i64 0], .int .i64 5]) (by simp [results, Tryd.results27, go_sem, hf]) rfl ⟨rfl, (HE.out.trans hu1).set2 _ _ _ _ _ (Nat.le_refl _)⟩
  · have f0 : decide (k < 0) = false := decide_eq_false h0
    have h1 : (m : Int) ≤ k := by omega
    clear hk hs hnl
    go_enter Tryd.func27, Tryd.ntmps27
    go_wp2_with (go_at_call 25; ((with_reducible refine HL.out.mono ?_); rintro e' w1 ⟨g, cap, rfl, hg, hu1, -⟩; (try rw [hm]); have c0 := cell_up hu1 (line_cells w).1; have c1 := cell_up hu1 (line_cells w).2; have z0 := frozen_up hu1 (line_cells w).1 (line_fz w).1; have z1 := frozen_up hu1 (line_cells w).2 (line_fz w).2; have hf := set2 w1 w.heap.size (.int .i64 0) (.int .i64 0) _ _ c0 c1))
    refine bodyPost_ret (v := .tuple #[.agg #[.int .i64 0, .int .i64 0], .int .i64 5]) (by simp [results, Tryd.results27, go_sem, hf]) rfl ⟨rfl, (HE.out.trans hu1).set2 _ _ _ _ _ (Nat.le_refl _)⟩

set_option maxRecDepth 100000 in
set_option maxHeartbeats 1000000 in
theorem refLine_in (s : ByteArray) (hs : (s.size : Int) ≤ 1048576) (k : Nat) (hk : k ≤ nl s) (w : World) :
    Calls Tryd.prog 27 #[.string s, .int .i64 (k : Nat)] w fun e w' => e = .returned (.tuple #[.agg #[.int .i64 (bh s k : Nat), .int .i64 (lineEnd s k : Nat)], .int .i64 0]) ∧ Up w w' := by
  have HE := Lib.hid (Up.alloc w (.cells #[.int .i64 0, .int .i64 0] 45))
  have HL := Lib.hid (refLines_at s hs (w.alloc (.cells #[.int .i64 0, .int .i64 0] 45)))
  have hnl := nl_le s
  obtain ⟨m, hm⟩ : ∃ m, nl s + 1 = m := ⟨_, rfl⟩
  have hmi : (m : Int) ≤ 1048577 := by omega
  have f0 : decide ((k : Int) < 0) = false := decide_eq_false (by omega)
  have hkm : (k : Int) < m := by omega
  have f1 : decide (m ≤ k) = false := decide_eq_false (by omega)
  have HK := Lib.hid hk
  clear hk hs hnl
  go_enter Tryd.func27, Tryd.ntmps27
  go_wp2_with (go_at_call 25; ((with_reducible refine HL.out.mono ?_); rintro e' w1 ⟨g, cap, rfl, hg, hu1, hcells⟩; obtain ⟨e0, e1⟩ := hcells k HK.out; clear hcells; (try rw [hm]); have c0 := cell_up hu1 (line_cells w).1; have c1 := cell_up hu1 (line_cells w).2; have z0 := frozen_up hu1 (line_cells w).1 (line_fz w).1; have z1 := frozen_up hu1 (line_cells w).2 (line_fz w).2; have hf := set2 w1 w.heap.size (.int .i64 (bh s k : Nat)) (.int .i64 (lineEnd s k : Nat)) _ _ c0 c1))
  refine bodyPost_ret (v := .tuple #[.agg #[.int .i64 (bh s k : Nat), .int .i64 (lineEnd s k : Nat)], .int .i64 0]) (by simp [results, Tryd.results27, go_sem, hf]) rfl ⟨rfl, (HE.out.trans hu1).set2 _ _ _ _ _ (Nat.le_refl _)⟩
theorem refLineT (s : ByteArray) (hs : (s.size : Int) ≤ 1048576) (k : Int) (w : World) : Calls Tryd.prog 27 #[.string s, .int .i64 k] w fun e w' => e = .returned (.tuple #[.agg #[.int .i64 (lnF s k), .int .i64 (lnT s k)], .int .i64 (lnE s k)]) ∧ Up w w' := by
  unfold lnF lnT lnE
  by_cases h : 0 ≤ k ∧ k ≤ nl s
  · obtain ⟨j, rfl⟩ := Int.eq_ofNat_of_zero_le h.1
    rw [if_pos h, if_pos h, if_pos h, Int.toNat_natCast]
    exact refLine_in s hs j (by omega) w
  · rw [if_neg h, if_neg h, if_neg h]
    exact refLine_out s hs k h w
theorem refFindT (s : ByteArray) (hs : (s.size : Int) ≤ 1048576) (i : Int) (w : World) : Calls Tryd.prog 28 #[.string s, .int .i64 i] w fun e w' => e = .returned (.tuple #[.int .i64 (fdV s i), .int .i64 (fdE s i)]) ∧ w = w' := by
  unfold fdV fdE
  by_cases h : 0 ≤ i ∧ i ≤ s.size
  · obtain ⟨k, rfl⟩ := Int.eq_ofNat_of_zero_le h.1
    rw [if_pos h, if_pos h, Int.toNat_natCast]
    exact refFind_in s hs k (by omega) w
  · rw [if_neg h, if_neg h]
    exact refFind_out s i h w
end Go.Proofs.YtcbmigkdmmmahaaDoor

namespace Go.Proofs.YtcbmigkdmmmahaaDoor
open Go.RowKit

set_option maxRecDepth 100000 in
set_option maxHeartbeats 1000000 in
theorem refSplice_out (s : ByteArray) (hs : (s.size : Int) ≤ 1048576) (p d : Int) (i : ByteArray) (h : ¬ (0 ≤ p ∧ 0 ≤ d ∧ p + d ≤ s.size)) (w : World) : Calls Tryd.prog 15 #[.string s, .agg #[.int .i64 p, .int .i64 d, .string i]] w fun e w' => e = .returned (.tuple #[.string ⟨#[]⟩, .int .i64 5]) ∧ Up w w' := by
  obtain ⟨b0, b1, b2⟩ := edit_cells w p d i
  by_cases h0 : p < 0
  · clear h hs
    go_enter Tryd.func15, Tryd.ntmps15
    go_wp2
    go_ret2
    exact ⟨rfl, Up.alloc _ _⟩
  have f0 : decide (p < 0) = false := decide_eq_false h0
  by_cases h1 : d < 0
  · clear h hs
    go_enter Tryd.func15, Tryd.ntmps15
    go_wp2
    go_ret2
    exact ⟨rfl, Up.alloc _ _⟩
  have f1 : decide (d < 0) = false := decide_eq_false h1
  by_cases h2 : (s.size : Int) < p
  · clear h hs h0 h1
    go_enter Tryd.func15, Tryd.ntmps15
    go_wp2
    go_ret2
    exact ⟨rfl, Up.alloc _ _⟩
  have f2 : decide ((s.size : Int) < p) = false := decide_eq_false h2
  have h3 : (s.size : Int) - p < d := by omega
  have e1 : IntKind.i64.wrap ((s.size : Int) - p) = (s.size : Int) - p := IntWalk.i64_in _ (by omega)
  clear h hs h0 h1 h2
  go_enter Tryd.func15, Tryd.ntmps15
  go_wp2
  go_ret2
  exact ⟨rfl, Up.alloc _ _⟩

set_option maxRecDepth 100000 in
set_option maxHeartbeats 1000000 in
theorem refSplice_long (s : ByteArray) (hs : (s.size : Int) ≤ 1048576) (p d : Nat) (i : ByteArray) (h : p + d ≤ s.size) (hl : (1048576 : Int) < (s.size : Int) - d + i.size) (w : World) : Calls Tryd.prog 15 #[.string s, .agg #[.int .i64 (p : Nat), .int .i64 (d : Nat), .string i]] w fun e w' => e = .returned (.tuple #[.string ⟨#[]⟩, .int .i64 2]) ∧ Up w w' := by
  obtain ⟨b0, b1, b2⟩ := edit_cells w (p : Nat) (d : Nat) i
  have f0 : decide ((p : Int) < 0) = false := decide_eq_false (by omega)
  have f1 : decide ((d : Int) < 0) = false := decide_eq_false (by omega)
  have f2 : decide (s.size < p) = false := decide_eq_false (by omega)
  have e1 : IntKind.i64.wrap ((s.size : Int) - (p : Nat)) = ((s.size - p : Nat) : Int) := (IntWalk.i64_in _ (by omega)).trans (by omega)
  have f3 : decide (s.size - p < d) = false := decide_eq_false (by omega)
  by_cases hi : (1048576 : Int) < i.size
  · clear h hs hl
    go_enter Tryd.func15, Tryd.ntmps15
    go_wp2
    go_ret2
    exact ⟨rfl, Up.alloc _ _⟩
  · have f4 : decide ((1048576 : Int) < i.size) = false := decide_eq_false hi
    have e2 : IntKind.i64.wrap ((s.size : Int) - (d : Nat)) = ((s.size - d : Nat) : Int) := (IntWalk.i64_in _ (by omega)).trans (by omega)
    obtain ⟨q, hq⟩ : ∃ q : Nat, (1048576 : Int) - (i.size : Int) = (q : Nat) := ⟨(1048576 - (i.size : Int)).toNat, by omega⟩
    have e3 : IntKind.i64.wrap ((1048576 : Int) - (i.size : Int)) = (q : Nat) := (IntWalk.i64_in _ (by omega)).trans hq
    have h4 : q < s.size - d := by omega
    clear h hs hl hq hi
    go_enter Tryd.func15, Tryd.ntmps15
    go_wp2
    go_ret2
    exact ⟨rfl, Up.alloc _ _⟩
end Go.Proofs.YtcbmigkdmmmahaaDoor

namespace Go.Proofs.YtcbmigkdmmmahaaDoor
open Go.RowKit

set_option maxRecDepth 100000 in
set_option maxHeartbeats 1000000 in
theorem refSplice_in (s : ByteArray) (hs : (s.size : Int) ≤ 1048576) (p d : Nat) (i : ByteArray) (h : p + d ≤ s.size) (hl : (s.size : Int) - d + i.size ≤ 1048576) (w : World) : Calls Tryd.prog 15 #[.string s, .agg #[.int .i64 (p : Nat), .int .i64 (d : Nat), .string i]] w fun e w' => e = .returned (.tuple #[.string (edited s p d i), .int .i64 0]) ∧ Up w w' := by
  obtain ⟨b0, b1, b2⟩ := edit_cells w (p : Nat) (d : Nat) i
  have f0 : decide ((p : Int) < 0) = false := decide_eq_false (by omega)
  have f1 : decide ((d : Int) < 0) = false := decide_eq_false (by omega)
  have f2 : decide (s.size < p) = false := decide_eq_false (by omega)
  have e1 : IntKind.i64.wrap ((s.size : Int) - (p : Nat)) = ((s.size - p : Nat) : Int) := (IntWalk.i64_in _ (by omega)).trans (by omega)
  have f3 : decide (s.size - p < d) = false := decide_eq_false (by omega)
  have f4 : decide ((1048576 : Int) < i.size) = false := decide_eq_false (by omega)
  have e2 : IntKind.i64.wrap ((s.size : Int) - (d : Nat)) = ((s.size - d : Nat) : Int) := (IntWalk.i64_in _ (by omega)).trans (by omega)
  obtain ⟨q, hq⟩ : ∃ q : Nat, (1048576 : Int) - (i.size : Int) = (q : Nat) := ⟨(1048576 - (i.size : Int)).toNat, by omega⟩
  have e3 : IntKind.i64.wrap ((1048576 : Int) - (i.size : Int)) = (q : Nat) := (IntWalk.i64_in _ (by omega)).trans hq
  have f5 : decide (q < s.size - d) = false := decide_eq_false (by omega)
  have e4 : IntKind.i64.wrap ((p : Int) + (d : Nat)) = ((p + d : Nat) : Int) := (IntWalk.i64_in _ (by omega)).trans (by omega)
  have g1 : (p : Int) ≤ s.size := by omega
  have g2 : ((p + d : Nat) : Int) ≤ s.size := by omega
  have HG := Lib.hid (show p ≤ s.size ∧ p + d ≤ s.size ∧ (s.size : Int) + i.size ≤ 2097152 + 1048576 by omega)
  have q1 : ∀ W : World, (Op.stringOp .add (s.extract 0 p) i).run Tryd.prog W = .ok (.string (s.extract 0 p ++ i)) W := fun W => run_string_add_sum W _ _ (by rw [ByteArray.size_extract]; omega)
  have q2 : ∀ W : World, (Op.stringOp .add (s.extract 0 p ++ i) (s.extract (p + d) s.size)).run Tryd.prog W = .ok (.string (s.extract 0 p ++ i ++ s.extract (p + d) s.size)) W := fun W => run_string_add_sum W _ _ (by simp only [ByteArray.size_append, ByteArray.size_extract]; omega)
  clear h hs hl hq
  go_enter Tryd.func15, Tryd.ntmps15
  go_wp2
  go_quiet (fail)
  clear q1 q2
  go_wp2
  go_ret2
  exact ⟨rfl, (Up.alloc _ _).trans (Up.drewN _ _)⟩
theorem refSpliceT_ok (s : ByteArray) (hs : (s.size : Int) ≤ 1048576) (p d : Int) (i : ByteArray) (h : spE s p d i = 0) (w : World) : Calls Tryd.prog 15 #[.string s, .agg #[.int .i64 p, .int .i64 d, .string i]] w fun e w' => e = .returned (.tuple #[.string (spT s p d i), .int .i64 0]) ∧ Up w w' := by
  unfold spE at h
  split at h
  · rename_i h1
    split at h
    · obtain ⟨k, rfl⟩ := Int.eq_ofNat_of_zero_le h1.1
      obtain ⟨j, rfl⟩ := Int.eq_ofNat_of_zero_le h1.2.1
      unfold spT
      rw [Int.toNat_natCast, Int.toNat_natCast]
      exact refSplice_in s hs k j i (by omega) (by assumption) w
    · cases h
  · cases h
theorem refSpliceT_no (s : ByteArray) (hs : (s.size : Int) ≤ 1048576) (p d : Int) (i : ByteArray) (h : spE s p d i ≠ 0) (w : World) : Calls Tryd.prog 15 #[.string s, .agg #[.int .i64 p, .int .i64 d, .string i]] w fun e w' => e = .returned (.tuple #[.string ⟨#[]⟩, .int .i64 (spE s p d i)]) ∧ Up w w' := by
  unfold spE at h ⊢
  by_cases h1 : 0 ≤ p ∧ 0 ≤ d ∧ p + d ≤ s.size
  · rw [if_pos h1] at h ⊢
    by_cases h2 : (s.size : Int) - d + i.size ≤ 1048576
    · rw [if_pos h2] at h; exact absurd rfl h
    · rw [if_neg h2]
      obtain ⟨k, rfl⟩ := Int.eq_ofNat_of_zero_le h1.1
      obtain ⟨j, rfl⟩ := Int.eq_ofNat_of_zero_le h1.2.1
      exact refSplice_long s hs k j i (by omega) (by omega) w
  · rw [if_neg h1]
    exact refSplice_out s hs p d i h1 w
end Go.Proofs.YtcbmigkdmmmahaaDoor
