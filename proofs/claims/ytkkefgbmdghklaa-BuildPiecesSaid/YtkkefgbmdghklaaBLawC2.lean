/- BuildPieces, walked: what may be put. -/
import Derived.Test.YtkkefgbmdghklaaBLawC
namespace Go.Proofs.Ytkkefgbmdghklaa
open Go.RowKit

theorem evok_shift {d : Int} {e : Ev} (h : EvOk e) (hd : 0 ≤ d ∧ d ≤ 1048576) (hb : -1048576 ≤ e.2.2.1 ∧ e.2.2.1 ≤ 1048576 ∧ (e.1 = 3 → -1048576 ≤ e.2.2.2 ∧ e.2.2.2 ≤ 1048576)) : EvOk (shiftE d e) := by
  have w64 : ∀ {a : Int}, -9223372036854775808 ≤ a ∧ a ≤ 9223372036854775807 → (Lit.int .i64 a).wf = true := fun h => by simp [Lit.wf, IntKind.min, IntKind.max, IntKind.signed, IntKind.bits]; exact h
  refine ⟨h.1, h.2.1, w64 ?_, w64 ?_⟩
  · unfold shiftE; dsimp only; omega
  · have h4 := wf64 h.2.2.2
    unfold shiftE
    dsimp only
    split
    · rename_i e3; have := hb.2.2 e3; omega
    · exact h4
theorem place_nat {x m : Int} (hm : 1 ≤ m) : ∃ k : Nat, (if x.tmod m < 0 then x.tmod m + m else x.tmod m) = (k : Int) ∧ (k : Int) < m := by
  have h1 := Int.tmod_lt_of_pos x (show 0 < m by omega)
  have h2 := Int.lt_tmod_of_pos x (show 0 < m by omega)
  refine ⟨(if x.tmod m < 0 then x.tmod m + m else x.tmod m).toNat, ?_, ?_⟩ <;> split <;> omega
/-- What is known of the pieces. -/
structure PcS (L : List Ev) (a1 d : Int) (k : Nat) (s1 s2 : Bs) : Prop where
  z : putE a1 Bs.new L = 0
  b : putB a1 Bs.new L = s2
  z1 : putE a1 Bs.new (L.take k) = 0
  b1 : putB a1 Bs.new (L.take k) = s1
  z2 : putE (a1 - d) s1 ((L.drop k).map (shiftE d)) = 0
  b2 : putB (a1 - d) s1 ((L.drop k).map (shiftE d)) = s2
  ok1 : BOk s1
  ok2 : BOk s2
  n1 : s1.N.length ≤ k
  n2 : s2.N.length ≤ L.length
  evs : ∀ e ∈ (L.drop k).map (shiftE d), EvOk e
  in_ : ∀ e ∈ L, -1048576 ≤ e.2.2.1 ∧ e.2.2.1 ≤ 1048576 ∧ (e.1 = 3 → -1048576 ≤ e.2.2.2 ∧ e.2.2.2 ≤ 1048576)
theorem pcS {L : List Ev} {a1 d : Int} {k : Nat} (he : ∀ e ∈ L, EvOk e) (ha : 0 ≤ a1 ∧ a1 ≤ 524288) (hd : 0 ≤ d ∧ d ≤ a1) (hk : k ≤ L.length) (h0 : putE a1 Bs.new L = 0) : ∃ s1 s2, PcS L a1 d k s1 s2 := by
  have hr : ¬ (a1 < 0 ∨ 1048576 < a1) := by omega
  have hr2 : ¬ (a1 - d < 0 ∨ 1048576 < a1 - d) := by omega
  have h1 : asks a1 Bs.new.far Bs.new.O.length L = 0 := by unfold putE at h0; rw [if_neg hr] at h0; exact h0
  have h2 := h1
  rw [← List.take_append_drop k L] at h2
  obtain ⟨h3, h4⟩ := asks_split h2
  have z1 : putE a1 Bs.new (L.take k) = 0 := by unfold putE; rw [if_neg hr]; exact h3
  have hs := (asks_shift (d := d)).trans h4
  have z2 : putE (a1 - d) (dos a1 Bs.new (L.take k)) ((L.drop k).map (shiftE d)) = 0 := by unfold putE; rw [if_neg hr2]; exact hs
  have hin := asks_in (by omega) (b := Bs.new) (Int.le_refl 0) h1
  have b1 : putB a1 Bs.new (L.take k) = dos a1 Bs.new (L.take k) := by unfold putB; rw [if_pos z1]
  have b : putB a1 Bs.new L = dos a1 Bs.new L := by unfold putB; rw [if_pos h0]
  have b2 : putB (a1 - d) (dos a1 Bs.new (L.take k)) ((L.drop k).map (shiftE d)) = dos a1 Bs.new L := by
    unfold putB
    rw [if_pos z2, dos_shift h4, ← dos_split, List.take_append_drop]
  refine ⟨dos a1 Bs.new (L.take k), dos a1 Bs.new L, h0, b, z1, b1, z2, b2, ?_, ?_, ?_, ?_, ?_, hin⟩
  · rw [← b1]; exact BOk.new.put (fun e h => he e (List.mem_of_mem_take h))
  · rw [← b]; exact BOk.new.put he
  · refine Nat.le_trans dos_N ?_
    rw [List.length_take]
    show 0 + min k L.length ≤ k
    omega
  · refine Nat.le_trans dos_N ?_
    show 0 + L.length ≤ _
    omega
  · intro e h
    rw [List.mem_map] at h
    obtain ⟨x, hx, rfl⟩ := h
    exact evok_shift (he x (List.mem_of_mem_drop hx)) (by omega) (hin x (List.mem_of_mem_drop hx))
theorem Evs.same {w : World} {A : Option Addr} {n : Nat} {L : List Ev} (h : Evs w A n L) {m : Nat} (e : n = m) : Evs w A m L := e ▸ h
theorem done_at (w : World) (bb B : Nat) (k : Int) (b : Bs) (hb : BUp w bb B k b) (hok : BOk b) (hn : b.N.length ≤ 3000) : Calls Try.prog 7 #[.pointer (some ⟨bb, 0, none⟩), .int .i64 b.far] w fun e w' => ∃ g c, e = .returned (.tuple #[.slice (some ⟨g, 0, none⟩) (b.N.length + 1) c, .int .i64 0]) ∧ RowN w' w.heap.size (.slice (some ⟨g, 0, none⟩) (b.N.length + 1) c) (told k b.far b) ∧ Up w w' :=
  done_any w bb _ k b hb hok (by omega) b.far ⟨Int.le_refl _, hok.hi⟩
theorem same_at {w V : World} {A B : Option Addr} {n : Nat} {L : List Nd} (h1 : Nds w A (n + 1) L) (h2 : Nds V B (n + 1) L) (hu : Up w V) (hn : n ≤ 3000) (c c' : Nat) : Calls Try.prog 16 #[.slice A (n + 1) c, .slice B (n + 1) c'] V fun e w' => e = .returned (.bool true) ∧ Up V w' :=
  refSame_any V A B (n + 1) c c' L (h1.up hu) h2 (by omega)
/-- The events from k on that have been moved. -/
def movd (L : List Ev) (d : Int) (k i : Nat) : List Ev := ((L.drop k).take (i - k)).map (shiftE d)
theorem movd_start (L : List Ev) (d : Int) (k : Nat) : movd L d k k = [] := by unfold movd; rw [Nat.sub_self]; rfl
theorem movd_step {L : List Ev} {d : Int} {k i : Nat} (hk : k ≤ i) (hi : i < L.length) : movd L d k (i + 1) = movd L d k i ++ [shiftE d (ev L i)] := by
  unfold movd
  rw [show i + 1 - k = i - k + 1 from by omega, List.take_succ_eq_append_getElem (by rw [List.length_drop]; omega), List.map_append, List.getElem_drop]
  have e : k + (i - k) = i := by omega
  simp only [e, List.map_cons, List.map_nil, ev_eq hi]
theorem movd_end {L : List Ev} {d : Int} {k : Nat} : movd L d k L.length = (L.drop k).map (shiftE d) := by
  unfold movd
  rw [List.take_of_length_le (by rw [List.length_drop]; exact Nat.le_refl _)]
theorem evs_two (w : World) (x y : Obj) (e : Ev) (hy : y = .cells #[.int .u8 e.1, .int .u8 e.2.1, .int .i64 e.2.2.1, .int .i64 e.2.2.2] 42) : ∀ (j : Nat) (u : Value), (evCells [e])[j]? = some u → ((w.alloc x).alloc y).cell? ((⟨w.heap.size + 1, 0, none⟩ : Addr).add j) = some u := by
  subst hy
  exact World.news_of_block (cs := #[.int .u8 e.1, .int .u8 e.2.1, .int .i64 e.2.2.1, .int .i64 e.2.2.2]) (t := 42) (fr := (0, 0)) (heap_new2 w _ _)
set_option maxRecDepth 100000 in
set_option maxHeartbeats 2000000 in
theorem pieces_good (w : World) (A : Option Addr) (n c : Nat) (L : List Ev) (a1 a2 a3 : Int) (hL : EArg w A n c L) (hz : A = none → n = 0 ∧ c = 0) (hn : n ≤ 3000) (ha : 0 ≤ a1 ∧ a1 ≤ 524288) (h0 : putE a1 Bs.new L = 0) :
    Calls Try.prog 5 #[.slice A n c, .int .i64 a1, .int .i64 a2, .int .i64 a3] w fun e w' => e = .returned (.bool true) ∧ Below w.heap.size w w' := by
  have HW := Lib.hid (fun W => wakes_any W)
  have HNw := Lib.hid (new_any w 7)
  have f1 : decide ((3000 : Int) < n) = false := decide_eq_false (by omega)
  have f2 : decide (a1 < 0) = false := decide_eq_false (by omega)
  have f3 : decide (524288 < a1) = false := decide_eq_false (by omega)
  obtain ⟨k, hk, hkn⟩ := place_nat (x := a2) (m := (n : Int) + 1) (by omega)
  obtain ⟨dN, hd, hdn⟩ := place_nat (x := a3) (m := a1 + 1) (by omega)
  obtain ⟨d, hdd⟩ : ∃ d : Int, (dN : Int) = d := ⟨_, rfl⟩
  rw [hdd] at hd hdn
  have hl := hL.evs.len
  obtain ⟨s1, s2, hpc⟩ := pcS (k := k) (d := d) hL.ok ha (by omega) (by omega) h0
  have HPl1 := Lib.hid (fun W => hk ▸ place_any W a2 ((n : Int) + 1) (by omega))
  have HPl2 := Lib.hid (fun W => hd ▸ place_any W a3 (a1 + 1) (by omega))
  have q1 : IntKind.i64.wrap ((n : Int) + 1) = (n : Int) + 1 := IntWalk.i64_in _ (by omega)
  have q2 : IntKind.i64.wrap (a1 + 1) = a1 + 1 := IntWalk.i64_in _ (by omega)
  have q3 : IntKind.i64.wrap (a1 - d) = a1 - d := IntWalk.i64_in _ (by omega)
  have HPc := Lib.hid hpc
  have HL := Lib.hid hL
  have HLl := Lib.hid hl
  have hn6 : n ≤ 1000000 := by omega
  have hkn2 : k ≤ n := by omega
  have HDk := Lib.hid (And.intro (show 0 ≤ d ∧ d ≤ 524288 by omega) hkn2)
  have hkc : (k : Int) ≤ c := by have := hL.cap; omega
  have hk0 : (0 : Int) ≤ (k : Int) := by omega
  have hk6 : k ≤ 1000000 := by omega
  have hzk : A = none → k = 0 ∧ c = 0 := fun e => by have := hz e; omega
  have HN3 := Lib.hid hn
  clear hL hn ha h0 hpc hk hkn hd hdn hdd hl
  go_enter Try.func5, Try.ntmps5
  go_wp2_with (first
    | (go_at_call 13; ((with_reducible refine HNw.out.mono ?_); rintro e w1 ⟨rfl, hb1, hu1, hs1⟩; have HB1 : Hid (BUp w1 w.heap.size w.heap.size 7 Bs.new) := Lib.hid (hb1.mono (fun i _ h => Nat.le_of_eq h.symm)); have HU1 := Lib.hid hu1; have hev1 := (HL.out.evs.up hu1); clear hb1 hu1 hs1))
    | (at_builtin; (refine wpList_copy_evs rfl _ _ rfl rfl A n c L rfl hev1 hz hn6 ?_); intro v2 w2 hown2 hu2; obtain ⟨A2, c2, rfl, he2, hc2, hb2, hz2⟩ := evs_row hown2; have HP := Lib.hid (put_copy HB1.out BOk.new hu2 (Below.size HU1.out) he2 hc2 hb2 HL.out.ok (by show 0 + n ≤ _; omega) a1); rw [HPc.out.z, HPc.out.b] at HP; clear hown2 hu2 he2 hc2 hb2 hz2 hev1)
    | (go_at_call 8; ((with_reducible refine HP.out.mono ?_); rintro e w3 ⟨rfl, hb3, hu3⟩; have HU3 : Hid (Up w w3) := Lib.hid (Below.trans HU1.out hu3); have HB3 := Lib.hid hb3; have HN2 := Lib.hid (new_any w3 7); clear hb3 hu3))
    | (go_at_call 15; ((with_reducible refine (HPl1.out _).mono ?_); rintro e w4 ⟨rfl, rfl⟩))
    | (go_at_call 15; ((with_reducible refine (HPl2.out _).mono ?_); rintro e w4 ⟨rfl, rfl⟩))
    | (go_at_call 13; ((with_reducible refine HN2.out.mono ?_); rintro e w4 ⟨rfl, hb4, hu4, hs4⟩; have HB4 : Hid (BUp w4 w3.heap.size w3.heap.size 7 Bs.new) := Lib.hid (hb4.mono (fun i _ h => Nat.le_of_eq h.symm)); have HU4 := Lib.hid hu4; have hev4 := ((HL.out.evs.up HU3.out).up hu4).take hkn2; clear hb4 hu4 hs4))
    | (at_builtin; (refine wpList_copy_evs rfl _ _ rfl rfl A k c (L.take k) rfl hev4 hzk hk6 ?_); intro v5 w5 hown5 hu5; obtain ⟨A5, c5, rfl, he5, hc5, hb5, hz5⟩ := evs_row hown5; have HP2 := Lib.hid (put_copy HB4.out BOk.new hu5 (Below.size HU4.out) he5 hc5 hb5 (fun e h => HL.out.ok e (List.mem_of_mem_take h)) (by show 0 + k ≤ _; omega) a1); rw [HPc.out.z1, HPc.out.b1] at HP2; clear hown5 hu5 he5 hc5 hb5 hz5 hev4)
    | (go_at_call 8; ((with_reducible refine HP2.out.mono ?_); rintro e w6 ⟨rfl, hb6, hu6⟩; have HU6 : Hid (Up w3 w6) := Lib.hid (Below.trans HU4.out hu6); have HB6 := Lib.hid hb6; clear hb6 hu6)))
  have HR0 : Hid (w6.ownsRow w6.heap.size 42 4 (.slice none 0 0) (k - k) (evCells (movd L d k k))) := Lib.hid (by rw [movd_start, Nat.sub_self]; exact World.ownsRow_nil _ _ _ _)
  clear HNw HPl1 HPl2 HP HP2 HN2 HB1 HB4
  have HKN := Lib.hid hkn2
  go_loopg [14, 15, 16] (n - k) (fun g rv iv _ wr => ∃ i : Nat, g = n - i ∧ iv = .int .i64 (i : Nat) ∧ k ≤ i ∧ i ≤ n ∧ Hid (wr.ownsRow w6.heap.size 42 4 rv (i - k) (evCells (movd L d k i))) ∧ Hid (Up w6 wr))
  case atStart => exact ⟨k, rfl, rfl, Nat.le_refl _, hkn2, HR0, Lib.hid (Up.refl _)⟩
  case round =>
    obtain ⟨i, hg, rfl, hki, hi, HR, HU⟩ := hrel
    have HG := Lib.hid hg
    clear hg
    by_cases hlt : i < n
    · have hil : i < L.length := by have := HLl.out; omega
      obtain ⟨bl, ol, rfl, hbl, d0, d1, d2, d3⟩ := evs_ev (HL.out.evs.up (Up.trans HU3.out (Up.trans HU6.out HU.out))) i hlt
      have hin := HPc.out.in_ (ev L i) (by rw [← ev_eq hil]; exact List.getElem_mem hil)
      have HMv := Lib.hid (movd_step (d := d) hki hil)
      obtain ⟨⟨x0, x1, x2, x3⟩, hxe⟩ : ∃ x, ev L i = x := ⟨_, rfl⟩
      rw [hxe] at d0 d1 d2 d3 hin HMv
      dsimp only at d0 d1 d2 d3 hin
      have hd0 := HDk.out.1
      have p2 : IntKind.i64.wrap (x2 + d) = x2 + d := IntWalk.i64_in _ (by omega)
      have p3 : x0 = 3 → IntKind.i64.wrap (x3 + d) = x3 + d := fun e => IntWalk.i64_in _ (by have := hin.2.2 e; omega)
      have hii : (i : Int) < n := by omega
      have HLT := Lib.hid hlt
      have b1 : i - k + 1 ≤ maxLen := by unfold maxLen; omega
      have b2 : (i - k + 1) * 24 ≤ 140737488355328 := by omega
      clear hbl hil hin hxe hlt hd0
      by_cases hop : x0 = 3
      · subst hop
        have p4 := p3 rfl
        have e1 : shiftE d (3, x1, x2, x3) = (3, x1, x2 + d, x3 + d) := by unfold shiftE; dsimp only; rw [if_pos rfl]
        rw [e1] at HMv
        clear p3 e1
        go_wp2_with (at_builtin; (obtain ⟨i0, hi0, hz0, hz1, hz2⟩ := info_parts infoEv; refine wpList_append_lies _ rfl _ _ 22 rfl w6.heap.size 42 i0 (.agg #[.int .u8 0, .int .u8 0, .int .i64 0, .int .i64 0]) 4 24 Try.underlying22 hi0 hz0 hz1 hz2 rfl (by decide) _ (i - k) (evCells (movd L d k i)) rfl (HR.out.alloc _ |>.alloc _) ⟨wr.heap.size + 1, 0, none⟩ 1 1 (evCells [(3, x1, x2 + d, x3 + d)]) rfl rfl (evs_two wr _ _ (3, x1, x2 + d, x3 + d) rfl) (evCells_one _) (by omega) b1 b2 (by have := Below.size HU.out; simp; omega) _ rfl ?_); intro g7 cap7 w7 hown7 hgrow7 hat7 hlt7; clear hi0 hz0 hz1 hz2; have HO7 := Lib.hid hown7; have HU7 := Lib.hid (grown_up HU.out ((Up.alloc wr _).trans (Up.alloc _ _)) HR.out hgrow7); clear hown7 hgrow7 hat7 hlt7)
        go_roundg (n - (i + 1))
        case measure => rw [HG.out]; have := HLT.out; omega
        case rel =>
          refine ⟨i + 1, rfl, by go_num, by omega, by have := HLT.out; omega, Lib.hid ?_, HU7⟩
          rw [HMv.out, show i + 1 - k = i - k + 1 from by omega, evCells_append]
          exact HO7.out
      · have fo : (x0 == 3) = false := beq_false_of_ne hop
        have e1 : shiftE d (x0, x1, x2, x3) = (x0, x1, x2 + d, x3) := by unfold shiftE; dsimp only; rw [if_neg hop]
        rw [e1] at HMv
        clear p3 e1 hop
        go_wp2_with (at_builtin; (obtain ⟨i0, hi0, hz0, hz1, hz2⟩ := info_parts infoEv; refine wpList_append_lies _ rfl _ _ 22 rfl w6.heap.size 42 i0 (.agg #[.int .u8 0, .int .u8 0, .int .i64 0, .int .i64 0]) 4 24 Try.underlying22 hi0 hz0 hz1 hz2 rfl (by decide) _ (i - k) (evCells (movd L d k i)) rfl (HR.out.alloc _ |>.alloc _) ⟨wr.heap.size + 1, 0, none⟩ 1 1 (evCells [(x0, x1, x2 + d, x3)]) rfl rfl (evs_two wr _ _ (x0, x1, x2 + d, x3) rfl) (evCells_one _) (by omega) b1 b2 (by have := Below.size HU.out; simp; omega) _ rfl ?_); intro g7 cap7 w7 hown7 hgrow7 hat7 hlt7; clear hi0 hz0 hz1 hz2; have HO7 := Lib.hid hown7; have HU7 := Lib.hid (grown_up HU.out ((Up.alloc wr _).trans (Up.alloc _ _)) HR.out hgrow7); clear hown7 hgrow7 hat7 hlt7)
        go_roundg (n - (i + 1))
        case measure => rw [HG.out]; have := HLT.out; omega
        case rel =>
          refine ⟨i + 1, rfl, by go_num, by omega, by have := HLT.out; omega, Lib.hid ?_, HU7⟩
          rw [HMv.out, show i + 1 - k = i - k + 1 from by omega, evCells_append]
          exact HO7.out
    · obtain rfl : i = n := by omega
      have hrow := HR.out
      have hme : movd L d k i = (L.drop k).map (shiftE d) := by rw [← movd_end, HLl.out]
      rw [hme] at hrow
      obtain ⟨A7, c7, rfl, he7, hc7, hb7, -⟩ := evs_row hrow
      have hn3 := HN3.out
      have HP3 := Lib.hid (put_up w6 wr w3.heap.size w3.heap.size 7 s1 HB6.out HPc.out.ok1 HU.out (Below.size HU6.out) A7 (i - k) c7 _ he7 hc7 (fun a e _ => .inr (hb7 a e)) HPc.out.evs (by have := HPc.out.n1; omega) (a1 - d))
      rw [HPc.out.z2, HPc.out.b2] at HP3
      have hs2n : s2.N.length ≤ 3000 := by have := HPc.out.n2; have := HLl.out; omega
      have HS2n := Lib.hid hs2n
      have HUr := Lib.hid HU.out
      have f0 : decide (i < i) = false := decide_eq_false hlt
      clear hlt hrow hme he7 hc7 hb7 hn3 hs2n
      go_wp2_with (first
        | (go_at_call 8; ((with_reducible refine HP3.out.mono ?_); rintro e w8 ⟨rfl, hb8, ht8⟩; have HU8 : Hid (Up w3 w8) := Lib.hid (Up.trans' (Up.trans HU6.out HUr.out) ht8 (fun i h => h.1)); have HB8 := Lib.hid hb8; have HA8 := Lib.hid (BUp.up' HB3.out HU8.out); have HFa := Lib.hid (far_any w8 _ _ 7 s2 HA8.out); have HDa := Lib.hid (done_at w8 _ _ 7 s2 HA8.out HPc.out.ok2 HS2n.out); clear hb8 ht8))
        | (go_at_call 10; ((with_reducible refine HFa.out.mono ?_); rintro e w9 ⟨rfl, rfl⟩))
        | (go_at_call 7; ((with_reducible refine HDa.out.mono ?_); rintro e w9 ⟨g9, c9, rfl, hr9, hu9⟩; have HR9 := Lib.hid hr9; have HU9 := Lib.hid hu9; have HB9 := Lib.hid (BUp.up' HB8.out hu9); have HFb := Lib.hid (far_any w9 _ _ 7 s2 HB9.out); have HDb := Lib.hid (done_at w9 _ _ 7 s2 HB9.out HPc.out.ok2 HS2n.out); clear hr9 hu9))
        | (go_at_call 10; ((with_reducible refine HFb.out.mono ?_); rintro e w10 ⟨rfl, rfl⟩))
        | (go_at_call 7; ((with_reducible refine HDb.out.mono ?_); rintro e w10 ⟨g10, c10, rfl, hr10, hu10⟩; have HU10 := Lib.hid hu10; have HSm := Lib.hid (same_at (RowN.nds HR9.out).1 (RowN.nds hr10).1 hu10 HS2n.out); clear hr10 hu10))
        | (go_at_call 16; ((with_reducible refine (HSm.out _ _).mono ?_); rintro e w11 ⟨rfl, hu11⟩; have HU11 := Lib.hid hu11; clear hu11))
        | (go_at_call 11; ((with_reducible refine (HW.out _).mono ?_); rintro e w12 ⟨rfl, hu12⟩; have HU12 := Lib.hid hu12; clear hu12)))
      go_ret
      exact ⟨rfl, Up.trans HU3.out (Up.trans HU8.out (Up.trans HU9.out (Up.trans HU10.out (Up.trans HU11.out HU12.out))))⟩
theorem pieces_walk (w : World) (A : Option Addr) (n c : Nat) (L : List Ev) (a1 a2 a3 : Int) (hL : EArg w A n c L) (hz : A = none → n = 0 ∧ c = 0) (_h1 : -9223372036854775808 ≤ a1 ∧ a1 ≤ 9223372036854775807) (_h2 : -9223372036854775808 ≤ a2 ∧ a2 ≤ 9223372036854775807) (_h3 : -9223372036854775808 ≤ a3 ∧ a3 ≤ 9223372036854775807) :
    Calls Try.prog 5 #[.slice A n c, .int .i64 a1, .int .i64 a2, .int .i64 a3] w fun e w' => e = .returned (.bool true) ∧ Below w.heap.size w w' := by
  by_cases h : 3000 < n ∨ a1 < 0 ∨ 524288 < a1
  · exact pieces_out w A n c a1 a2 a3 h
  · by_cases h0 : putE a1 Bs.new L = 0
    · exact pieces_good w A n c L a1 a2 a3 hL hz (by omega) (by omega) h0
    · exact pieces_bad w A n c L a1 a2 a3 hL hz (by omega) (by omega) h0
end Go.Proofs.Ytkkefgbmdghklaa
