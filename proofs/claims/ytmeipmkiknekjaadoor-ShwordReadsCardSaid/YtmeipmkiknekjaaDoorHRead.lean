/- The program's Read. -/
import Derived.Test.YtmeipmkiknekjaaDoorHNext
namespace Go.Proofs.YtmeipmkiknekjaaDoor
open Go.RowKit
set_option linter.unusedVariables false

theorem drop_con {L : List Nat} {p : Nat} (hp : p ≤ con L) : con (L.drop p) = con L - p := con_drop p L hp
theorem tk_b {L : List Nat} {p mk : Nat} (hp : p < con L) (hw : hdW (L.drop p) = false) : p < (tk L p mk).1.b ∧ (tk L p mk).1.b ≤ L.length := by
  have hcl := con_le L
  have hcd := drop_con (Nat.le_of_lt hp)
  unfold tk
  split
  · exact ⟨hp, hcl.1⟩
  · split
    · rename_i h
      have := opL_con (L.drop p)
      exact ⟨by simp only []; omega, by simp only []; omega⟩
    · split
      · exact ⟨by simp only []; omega, by simp⟩
      · rename_i h1 h2 h3
        have hal := wd_all (con L) 0 (L.drop p) (by omega) (.inl rfl)
        have hb : bhd (L.drop p) = false := by
          unfold bhd
          rw [hcd, hw, decide_eq_false (show ¬ con L - p = 0 by omega), decide_eq_false (show ¬ 0 < opL (L.drop p) by omega), beq_eq_false_iff_ne.2 h3]
          rfl
        have hpos := wd_pos hb
        unfold wpc
        simp only []
        split <;> omega
theorem nx_b {L : List Nat} {p mk : Nat} (ps : List Pc) (hp : p < con L) : p < (nxH L p mk ps).1 ∧ (nxH L p mk ps).1 ≤ L.length ∧ (nxH L p mk ps).2.2.length ≤ ps.length + 1 := by
  have hcl := con_le L
  unfold nxH
  cases hw : hdW (L.drop p) with
  | true => rw [if_pos rfl]; exact ⟨by simp, by simp only []; omega, by simp⟩
  | false =>
    rw [if_neg (by decide)]
    have := tk_b (mk := mk) hp hw
    exact ⟨this.1, this.2, by simp⟩
theorem rdF_more (L : List Nat) : ∀ (f mk p : Nat), con L - p ≤ f → rdF L f mk p = rdF L (con L - p) mk p
  | 0, mk, p, h => by rw [show con L - p = 0 from by omega]
  | f + 1, mk, p, h => by
    by_cases hp : con L ≤ p
    · rw [show con L - p = 0 from by omega]
      simp [rdF, hp]
    · obtain ⟨k, hk⟩ : ∃ k, con L - p = k + 1 := ⟨con L - p - 1, by omega⟩
      rw [hk]
      simp only [rdF, if_neg hp]
      cases hw : hdW (L.drop p) with
      | true =>
        simp only [if_true]
        rw [rdF_more L f mk (p + 1) (by omega), rdF_more L k mk (p + 1) (by omega)]
      | false =>
        have := tk_b (mk := mk) (by omega : p < con L) hw
        simp only [Bool.false_eq_true, if_false]
        rw [rdF_more L f _ _ (by omega), rdF_more L k _ _ (by omega)]
termination_by f => f
decreasing_by all_goals omega
theorem rd_end {L : List Nat} {mk p : Nat} (h : con L ≤ p) : rd L mk p = ([], mk) := by
  unfold rd
  rw [show con L - p = 0 from by omega]
  rfl
theorem rd_step {L : List Nat} {mk p : Nat} (ps : List Pc) (h : p < con L) : ps ++ (rd L mk p).1 = (nxH L p mk ps).2.2 ++ (rd L (nxH L p mk ps).2.1 (nxH L p mk ps).1).1 ∧ (rd L mk p).2 = (rd L (nxH L p mk ps).2.1 (nxH L p mk ps).1).2 := by
  obtain ⟨k, hk⟩ : ∃ k, con L - p = k + 1 := ⟨con L - p - 1, by omega⟩
  have hnl : ¬ con L ≤ p := by omega
  unfold nxH
  cases hw : hdW (L.drop p) with
  | true =>
    rw [if_pos rfl]
    have e : rd L mk p = rd L mk (p + 1) := by
      unfold rd
      rw [hk]
      simp only [rdF, if_neg hnl, hw, if_true]
      rw [show con L - (p + 1) = k from by omega]
    rw [e]
    exact ⟨rfl, rfl⟩
  | false =>
    have hb := tk_b (mk := mk) h hw
    rw [if_neg (by decide)]
    have e : rd L mk p = ((tk L p mk).1 :: (rd L (tk L p mk).2 (tk L p mk).1.b).1, (rd L (tk L p mk).2 (tk L p mk).1.b).2) := by
      unfold rd
      rw [hk]
      simp only [rdF, if_neg hnl, hw, Bool.false_eq_true, if_false]
      rw [rdF_more L k _ _ (by omega)]
    rw [e]
    exact ⟨by simp, rfl⟩
theorem suf_last (l : List UInt8) : Lib.hasSuffix l [10] = decide (l.getLast? = some 10) := by
  unfold Lib.hasSuffix
  rw [Bool.eq_iff_iff, List.isSuffixOf_iff_suffix, decide_eq_true_eq, List.getLast?_eq_some_iff]
  constructor
  · rintro ⟨t, h⟩; exact ⟨t, h.symm⟩
  · rintro ⟨t, h⟩; exact ⟨t, h.symm⟩
theorem trim_con (s : ByteArray) : (⟨(Lib.trimSuffix s.data.toList [10]).toArray⟩ : ByteArray).size = con (bl s) := by
  have hs : (⟨(Lib.trimSuffix s.data.toList [10]).toArray⟩ : ByteArray).size = (Lib.trimSuffix s.data.toList [10]).length := by
    rw [Lib.size_eq]
  have hl : (bl s).getLast? = some 10 ↔ s.data.toList.getLast? = some 10 := by
    unfold bl
    rw [List.getLast?_map]
    cases s.data.toList.getLast? with
    | none => simp
    | some b =>
      simp only [Option.map_some, Option.some.injEq]
      constructor
      · intro h; exact UInt8.toNat_inj.1 h
      · rintro rfl; rfl
  rw [hs, con_last, bl_len]
  unfold Lib.trimSuffix
  rw [suf_last]
  by_cases h : s.data.toList.getLast? = some 10
  · rw [if_pos (hl.2 h), decide_eq_true h, if_pos rfl, List.length_take, Lib.size_eq]
    show min (s.data.toList.length - 1) s.data.toList.length = _
    omega
  · rw [if_neg (fun k => h (hl.1 k)), decide_eq_false h, if_neg (by decide), Lib.size_eq]
/-- A row of pieces that is new since the block B. -/
def RowP (w : World) (B : Nat) (v : Value) (ps : List Pc) : Prop := w.ownsRow B PT 6 v ps.length (pcC ps)
theorem rdh_new (W : World) (line : ByteArray) (n p : Nat) : RdH W (W.alloc (.cells (rdA line n p 0 (.slice none 0 0)) RT)) W.heap.size line n p 0 (.slice none 0 0) [] :=
  ⟨Go.heap_alloc_new _ _, World.ownsRow_nil _ _ _ _, Nat.le_refl _, Up.alloc _ _⟩
theorem trim_any (s : ByteArray) (w : World) (hs : (s.size : Int) ≤ 1000000) : Calls Tryd.prog 15 #[.string s, .string ⟨#[10]⟩] w fun e w' => ∃ r : ByteArray, e = .returned (.string r) ∧ r.size = con (bl s) ∧ w = w' := by
  have h := Tryd.strings_TrimSuffix s ⟨#[10]⟩ w (by omega)
  exact h.mono fun e w' hh => ⟨_, hh.1, trim_con s, hh.2.symm⟩
set_option maxRecDepth 100000 in
set_option maxHeartbeats 4000000 in
theorem read_out (W : World) (line : ByteArray) (a : Int) (z : Int) (hs : (line.size : Int) ≤ 1000000) (ho : a < 0 ∨ (con (bl line) : Int) < a) :
    Calls Tryd.prog 9 #[.string line, .int .i64 a, .int .u8 z] W fun e w' => e = .returned (.tuple #[.slice none 0 0, .int .u8 0]) ∧ Up W w' := by
  have HT := Lib.hid (fun W => trim_any line W hs)
  obtain ⟨n, hn⟩ : ∃ n, con (bl line) = n := ⟨_, rfl⟩
  rw [hn] at ho HT
  clear hn hs
  by_cases h0 : a < 0
  · have g0 : decide (a < 0) = true := decide_eq_true h0
    go_enter Tryd.func9, Tryd.ntmps9
    go_wp2_with (go_at_call 15; ((with_reducible refine (HT.out _).mono ?_); rintro e w1 ⟨r, rfl, hr, rfl⟩))
    go_ret2
    exact ⟨rfl, Up.alloc _ _⟩
  · have g0 : decide (a < 0) = false := decide_eq_false h0
    have g1 : (n : Int) < a := by omega
    have c1 : (W.alloc (.cells #[.string line, .int .i64 (n : Nat), .int .i64 a, .int .u8 0, .slice none 0 0] RT)).cell? ⟨W.heap.size, 1, none⟩ = some (.int .i64 (n : Nat)) := cellOf (Go.heap_alloc_new _ _) rfl
    clear ho
    go_enter Tryd.func9, Tryd.ntmps9
    go_wp2_with (go_at_call 15; ((with_reducible refine (HT.out _).mono ?_); rintro e w1 ⟨r, rfl, hr, rfl⟩))
    go_ret2
    exact ⟨rfl, Up.alloc _ _⟩
set_option maxRecDepth 100000 in
set_option maxHeartbeats 4000000 in
/-- The loop of Read, from what stands ahead of it. -/
theorem rd_all {L : List Nat} {mk p : Nat} {ps PS : List Pc} {M : Nat} (h : ps ++ (rd L mk p).1 = PS ∧ (rd L mk p).2 = M) (hp : p < con L) :
    (nxH L p mk ps).2.2 ++ (rd L (nxH L p mk ps).2.1 (nxH L p mk ps).1).1 = PS ∧ (rd L (nxH L p mk ps).2.1 (nxH L p mk ps).1).2 = M := by
  obtain ⟨h1, h2⟩ := rd_step (mk := mk) ps hp
  exact ⟨by rw [← h1]; exact h.1, by rw [← h2]; exact h.2⟩
set_option maxRecDepth 100000 in
set_option maxHeartbeats 4000000 in
theorem read_bare (W : World) (hT : TabH W) (line : ByteArray) (p : Nat) (z : Int) (hz1 : z ≠ 39) (hz2 : z ≠ 34) (hs : (line.size : Int) ≤ 500000) (hp : p ≤ con (bl line)) :
    Calls Tryd.prog 9 #[.string line, .int .i64 (p : Nat), .int .u8 z] W fun e w' => (∃ v, e = .returned (.tuple #[v, .int .u8 ((rd (bl line) 0 p).2 : Nat)]) ∧ RowP w' W.heap.size v (rd (bl line) 0 p).1) ∧ Up W w' := by
  have HT := Lib.hid (fun W => trim_any line W (by omega))
  have HTT := Lib.hid hT
  obtain ⟨n, hn⟩ : ∃ n, con (bl line) = n := ⟨_, rfl⟩
  have hn2 := hn.symm
  rw [hn] at hp HT
  have hle := con_le (bl line)
  rw [bl_len, hn] at hle
  have HN := Lib.hid hn2
  have HLE := Lib.hid hle
  have HS := Lib.hid hs
  have h0 := rdh_new W line n p
  have c1 : (W.alloc (.cells (rdA line n p 0 (.slice none 0 0)) RT)).cell? ⟨W.heap.size, 1, none⟩ = some (.int .i64 (n : Nat)) := h0.cell rfl
  have g0 : ¬ ((p : Int) < 0) := by omega
  have g1 : ¬ ((n : Int) < (p : Int)) := by omega
  have g2 : decide ((n : Int) < (p : Int)) = false := decide_eq_false g1
  have g3 : decide (n < p) = false := decide_eq_false (by omega)
  unfold rdA at c1
  have n39 : (z == 39) = false := beq_eq_false_iff_ne.2 hz1
  have n34 : (z == 34) = false := beq_eq_false_iff_ne.2 hz2
  obtain ⟨PS, hPS⟩ : ∃ PS, (rd (bl line) 0 p).1 = PS := ⟨_, rfl⟩
  obtain ⟨M, hM⟩ : ∃ M, (rd (bl line) 0 p).2 = M := ⟨_, rfl⟩
  rw [hPS, hM]
  have HI := Lib.hid (show [] ++ (rd (bl line) 0 p).1 = PS ∧ (rd (bl line) 0 p).2 = M from ⟨hPS, hM⟩)
  have H0 := Lib.hid h0
  unfold rdA at H0
  have HX := Lib.hid (show p ≤ line.size from by omega)
  clear hPS hM hn hn2 hle hs h0 hT hp hz1 hz2
  go_enter Tryd.func9, Tryd.ntmps9
  go_wp2_with (first
      | (go_at_call 15; ((with_reducible refine (HT.out _).mono ?_); rintro e w1 ⟨r, rfl, hr, rfl⟩)))
  clear c1 g0 g1 g2 g3
  go_loopg [31, 32] (line.size - p) (fun g _ _ wr => ∃ (q k : Nat) (v : Value) (ps : List Pc), g = line.size - q ∧ Hid (RdH W wr W.heap.size line n q k v ps) ∧ Hid (q ≤ line.size ∧ ps.length ≤ q + 1) ∧ Hid (ps ++ (rd (bl line) k q).1 = PS ∧ (rd (bl line) k q).2 = M))
  case atStart => exact ⟨p, 0, .slice none 0 0, [], rfl, H0, Lib.hid ⟨HX.out, Nat.zero_le _⟩, HI⟩
  case round =>
    clear HI
    obtain ⟨q, k, v, ps, hg, HR, HQ, HI⟩ := hrel
    have HG := Lib.hid hg
    clear hg
    have k1 : wr.cell? ⟨W.heap.size, 1, none⟩ = some (.int .i64 (n : Nat)) := HR.out.cell rfl
    have k2 : wr.cell? ⟨W.heap.size, 2, none⟩ = some (.int .i64 (q : Nat)) := HR.out.cell rfl
    by_cases hlt : q < n
    · have HNX := Lib.hid (next_any HTT.out HN.out (by have := HS.out; omega) hlt (by have := HQ.out; have := HS.out; omega) HR.out)
      have hnb := nx_b (L := bl line) (mk := k) ps (by rw [← HN.out]; exact hlt)
      have HI2 := Lib.hid (rd_all HI.out (by rw [← HN.out]; exact hlt))
      rw [bl_len] at hnb
      generalize nxH (bl line) q k ps = Z at HNX hnb HI2
      obtain ⟨q2, k2', ps2⟩ := Z
      have HB := Lib.hid hnb
      have HLT := Lib.hid hlt
      have l1 : (q : Int) < (n : Int) := by omega
      clear hnb hlt
      go_wp2_with (go_at_call 17; ((with_reducible refine (HNX.out).mono ?_); rintro e w3 ⟨rfl, v3, h3⟩; have H3 := Lib.hid h3; clear h3))
      go_roundg (line.size - q2)
      case measure => rw [HG.out]; have h1 := HB.out.1; have h2 := HLT.out; have h3 := HLE.out; (try simp only [] at h1); omega
      case rel => exact ⟨q2, k2', v3, ps2, rfl, H3, Lib.hid ⟨HB.out.2.1, by have h1 := HB.out.1; have h2 := HB.out.2.2; have h3 := HQ.out.2; (try simp only [] at h1 h2); omega⟩, HI2⟩
    · have l1 : decide ((q : Int) < (n : Int)) = false := decide_eq_false (by omega)
      have l2 : decide (q < n) = false := decide_eq_false hlt
      have l3 : ¬ ((q : Int) < (n : Int)) := by omega
      have he := HI.out
      rw [rd_end (by rw [← HN.out]; omega), List.append_nil] at he
      obtain ⟨rfl, rfl⟩ := he
      have k3 : wr.cell? ⟨W.heap.size, 3, none⟩ = some (.int .u8 (k : Nat)) := HR.out.cell rfl
      have k4 : wr.cell? ⟨W.heap.size, 4, none⟩ = some v := HR.out.cell rfl
      clear hlt
      go_wp2
      go_quiet (fail)
      have H5 := Lib.hid (HR.out.more (Up.drewN wr nq))
      go_wp2
      go_ret2
      exact ⟨⟨_, rfl, H5.out.row⟩, H5.out.up⟩
set_option maxRecDepth 100000 in
set_option maxHeartbeats 4000000 in
theorem read_sgn (W : World) (hT : TabH W) (line : ByteArray) (p m : Nat) (hm : m = 39 ∨ m = 34) (hs : (line.size : Int) ≤ 500000) (hp : p ≤ con (bl line)) :
    Calls Tryd.prog 9 #[.string line, .int .i64 (p : Nat), .int .u8 (m : Nat)] W fun e w' => (∃ v, e = .returned (.tuple #[v, .int .u8 ((rd (bl line) (wd m ((bl line).drop p)).2.2 (wpc (bl line) p m).b).2 : Nat)]) ∧ RowP w' W.heap.size v ([wpc (bl line) p m] ++ (rd (bl line) (wd m ((bl line).drop p)).2.2 (wpc (bl line) p m).b).1)) ∧ Up W w' := by
  have HT := Lib.hid (fun W => trim_any line W (by omega))
  have HTT := Lib.hid hT
  obtain ⟨n, hn⟩ : ∃ n, con (bl line) = n := ⟨_, rfl⟩
  have hn2 := hn.symm
  rw [hn] at hp HT
  have hle := con_le (bl line)
  rw [bl_len, hn] at hle
  have HN := Lib.hid hn2
  have HLE := Lib.hid hle
  have HS := Lib.hid hs
  have h0 := rdh_new W line n p
  have c1 : (W.alloc (.cells (rdA line n p 0 (.slice none 0 0)) RT)).cell? ⟨W.heap.size, 1, none⟩ = some (.int .i64 (n : Nat)) := h0.cell rfl
  have g0 : ¬ ((p : Int) < 0) := by omega
  have g1 : ¬ ((n : Int) < (p : Int)) := by omega
  have g2 : decide ((n : Int) < (p : Int)) = false := decide_eq_false g1
  have g3 : decide (n < p) = false := decide_eq_false (by omega)
  unfold rdA at c1
  have hwb : p ≤ (wpc (bl line) p m).b ∧ (wpc (bl line) p m).b ≤ line.size := by
    have hal := wd_all n m ((bl line).drop p) (by rw [con_drop p _ (by omega)]; omega) (.inr hm)
    rw [con_drop p _ (by omega)] at hal
    unfold wpc
    rw [bl_len]
    simp only []
    split <;> omega
  have HW := Lib.hid (wordS_any m hm hT hn2 (by omega) hp (by simp) h0)
  have mc : ((m : Int) == 39) = decide (m = 39) := by rw [Bool.eq_iff_iff, beq_iff_eq, decide_eq_true_eq]; omega
  have md : ((m : Int) == 34) = decide (m = 34) := by rw [Bool.eq_iff_iff, beq_iff_eq, decide_eq_true_eq]; omega
  generalize wpc (bl line) p m = X at HW hwb ⊢
  generalize (wd m ((bl line).drop p)).2.2 = Y at HW ⊢
  obtain ⟨PS, hPS⟩ : ∃ PS, [X] ++ (rd (bl line) Y X.b).1 = PS := ⟨_, rfl⟩
  obtain ⟨M, hM⟩ : ∃ M, (rd (bl line) Y X.b).2 = M := ⟨_, rfl⟩
  rw [hPS, hM]
  have HI := Lib.hid (show [X] ++ (rd (bl line) Y X.b).1 = PS ∧ (rd (bl line) Y X.b).2 = M from ⟨hPS, hM⟩)
  have HX := Lib.hid hwb
  unfold rdA at HW
  rw [show ((0 : Nat) : Int) = 0 from rfl] at HW
  have hm2 : (m = 39) ∨ (m = 34) := hm
  clear hPS hM hn hn2 hle hs h0 hT hp hwb hm
  rcases hm2 with rfl | rfl
  case' inr => have n39 : ¬ (34 = 39) := by decide
  all_goals
    clear mc md
    try rw [show ((39 : Nat) : Int) = 39 from rfl] at HW
    try rw [show ((39 : Nat) : Int) = 39 from rfl]
    try rw [show ((34 : Nat) : Int) = 34 from rfl] at HW
    try rw [show ((34 : Nat) : Int) = 34 from rfl]
    go_enter Tryd.func9, Tryd.ntmps9
    go_wp2_with (first
      | (go_at_call 15; ((with_reducible refine (HT.out _).mono ?_); rintro e w1 ⟨r, rfl, hr, rfl⟩))
      | (go_at_call 16; ((with_reducible refine (HW.out).mono ?_); rintro e w2 ⟨rfl, v2, h2⟩; have H2 := Lib.hid h2; clear h2)))
    clear c1 g0 g1 g2 g3
    go_loopg [31, 32] (line.size - X.b) (fun g _ _ wr => ∃ (q k : Nat) (v : Value) (ps : List Pc), g = line.size - q ∧ Hid (RdH W wr W.heap.size line n q k v ps) ∧ Hid (q ≤ line.size ∧ ps.length ≤ q + 1) ∧ Hid (ps ++ (rd (bl line) k q).1 = PS ∧ (rd (bl line) k q).2 = M))
    case atStart => exact ⟨X.b, Y, v2, [X], rfl, H2, Lib.hid ⟨HX.out.2, by simp⟩, HI⟩
    case round =>
      clear HI
      obtain ⟨q, k, v, ps, hg, HR, HQ, HI⟩ := hrel
      have HG := Lib.hid hg
      clear hg
      have k1 : wr.cell? ⟨W.heap.size, 1, none⟩ = some (.int .i64 (n : Nat)) := HR.out.cell rfl
      have k2 : wr.cell? ⟨W.heap.size, 2, none⟩ = some (.int .i64 (q : Nat)) := HR.out.cell rfl
      by_cases hlt : q < n
      · have HNX := Lib.hid (next_any HTT.out HN.out (by have := HS.out; omega) hlt (by have := HQ.out; have := HS.out; omega) HR.out)
        have hnb := nx_b (L := bl line) (mk := k) ps (by rw [← HN.out]; exact hlt)
        have HI2 := Lib.hid (rd_all HI.out (by rw [← HN.out]; exact hlt))
        rw [bl_len] at hnb
        generalize nxH (bl line) q k ps = Z at HNX hnb HI2
        obtain ⟨q2, k2', ps2⟩ := Z
        have HB := Lib.hid hnb
        have HLT := Lib.hid hlt
        have l1 : (q : Int) < (n : Int) := by omega
        clear hnb hlt
        go_wp2_with (go_at_call 17; ((with_reducible refine (HNX.out).mono ?_); rintro e w3 ⟨rfl, v3, h3⟩; have H3 := Lib.hid h3; clear h3))
        go_roundg (line.size - q2)
        case measure => rw [HG.out]; have h1 := HB.out.1; have h2 := HLT.out; have h3 := HLE.out; (try simp only [] at h1); omega
        case rel => exact ⟨q2, k2', v3, ps2, rfl, H3, Lib.hid ⟨HB.out.2.1, by have h1 := HB.out.1; have h2 := HB.out.2.2; have h3 := HQ.out.2; (try simp only [] at h1 h2); omega⟩, HI2⟩
      · have l1 : decide ((q : Int) < (n : Int)) = false := decide_eq_false (by omega)
        have l2 : decide (q < n) = false := decide_eq_false hlt
        have l3 : ¬ ((q : Int) < (n : Int)) := by omega
        have he := HI.out
        rw [rd_end (by rw [← HN.out]; omega), List.append_nil] at he
        obtain ⟨rfl, rfl⟩ := he
        have k3 : wr.cell? ⟨W.heap.size, 3, none⟩ = some (.int .u8 (k : Nat)) := HR.out.cell rfl
        have k4 : wr.cell? ⟨W.heap.size, 4, none⟩ = some v := HR.out.cell rfl
        clear hlt
        go_wp2
        go_quiet (fail)
        have H5 := Lib.hid (HR.out.more (Up.drewN wr nq))
        go_wp2
        go_ret2
        exact ⟨⟨_, rfl, H5.out.row⟩, H5.out.up⟩
end Go.Proofs.YtmeipmkiknekjaaDoor
