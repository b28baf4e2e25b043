/- BuildBack, walked: a tree. -/
import Derived.Test.YtkkefgbmdghklaaBLawD
namespace Go.Proofs.Ytkkefgbmdghklaa
open Go.RowKit

theorem lit8 {a : Int} (h : 0 ≤ a ∧ a ≤ 255) : (Lit.int .u8 a).wf = true := by simp [Lit.wf, IntKind.min, IntKind.max, IntKind.signed, IntKind.bits]; exact h
theorem lit64e {a : Int} (h : -9223372036854775808 ≤ a ∧ a ≤ 9223372036854775807) : (Lit.int .i64 a).wf = true := by simp [Lit.wf, IntKind.min, IntKind.max, IntKind.signed, IntKind.bits]; exact h
theorem put_end {W w8 : World} {A : Option Addr} {c : Nat} {E : List Ev} (hb : BUp w8 W.heap.size W.heap.size 1 Bs.new) (hu : Up W w8) (hE : Evs W A E.length E) (hc : E.length ≤ c) (hok : ∀ e ∈ E, EvOk e) (hn : E.length ≤ 2000) :
    Calls Try.prog 8 #[.pointer (some ⟨W.heap.size, 0, none⟩), .slice A E.length c, .int .i64 0] w8 fun e w' => e = .returned (.int .i64 (putE 0 Bs.new E)) ∧ BUp w' W.heap.size W.heap.size 1 (putB 0 Bs.new E) ∧ Up W w' := by
  refine (put_up w8 w8 W.heap.size W.heap.size 1 Bs.new hb BOk.new (Up.refl _) (Below.size hu) A E.length c E (hE.up hu) hc (fun a e h0 => .inl ?_) hok (by show 0 + E.length ≤ _; omega) 0).mono ?_
  · obtain ⟨b, o, h1, h2, -⟩ := evs_ev hE 0 h0
    rw [e] at h1
    injection h1 with h1
    subst h1
    exact h2
  · rintro e w' ⟨h1, h2, h3⟩
    exact ⟨h1, h2, hu.trans' h3 (fun i h => h.1)⟩
theorem done_tree {w9 : World} {bb B p n : Nat} {s : Bs} {L : List Nd} {m : Int} (hb : BUp w9 bb B 1 s) (hok : BOk s) (hl : s.N.length = p) (hp : p ≤ 1000) (ht : told 1 m s = L) (hm : s.far ≤ m ∧ m ≤ 1048576) (hn : p + 1 = n) :
    Calls Try.prog 7 #[.pointer (some ⟨bb, 0, none⟩), .int .i64 m] w9 fun e w' => ∃ g c, e = .returned (.tuple #[.slice (some ⟨g, 0, none⟩) n c, .int .i64 0]) ∧ Nds w' (some ⟨g, 0, none⟩) n L ∧ Up w9 w' := by
  subst hn hl ht
  refine (done_any w9 bb _ 1 s hb hok (by omega) m hm).mono ?_
  rintro e w' ⟨g, c, rfl, h1, h2⟩
  exact ⟨g, c, rfl, (RowN.nds h1).1, h2⟩
theorem evok_close {x : Int} (h : 0 ≤ x ∧ x ≤ 1048576) : EvOk (2, 0, x, 0) := ⟨lit8 (by dsimp only; omega), lit8 (by dsimp only; omega), lit64e (by dsimp only; omega), lit64e (by dsimp only; omega)⟩
theorem evok_open {k x : Int} (hk : 0 ≤ k ∧ k ≤ 255) (h : 0 ≤ x ∧ x ≤ 1048576) : EvOk (1, k, x, 0) := ⟨lit8 (by dsimp only; omega), lit8 hk, lit64e (by dsimp only; omega), lit64e (by dsimp only; omega)⟩
theorem evok_leaf {k x y : Int} (hk : 0 ≤ k ∧ k ≤ 255) (h : 0 ≤ x ∧ x ≤ 1048576) (h2 : 0 ≤ y ∧ y ≤ 1048576) : EvOk (3, k, x, y) := ⟨lit8 (by dsimp only; omega), lit8 hk, lit64e (by dsimp only; omega), lit64e (by dsimp only; omega)⟩
set_option maxRecDepth 100000 in
set_option maxHeartbeats 8000000 in
theorem back_yes (w : World) (A : Option Addr) (n c : Nat) (L : List Nd) (hL : NArg w A n L) (hn : 1 ≤ n ∧ n ≤ 1000) (hT : IsT L (nd L 0).2.2.1) : Calls Try.prog 6 #[.slice A n c] w fun e w' => e = .returned (.bool true) ∧ Below w.heap.size w w' := by
  have HW := Lib.hid (fun W => wakes_any W)
  obtain ⟨b, o, rfl, hb, -, -, k2, -⟩ := nds_nd hL.nds 0 (by omega)
  rw [Nat.zero_mul, Nat.add_zero] at k2
  have hmo := wf64 (nd_ok hL.ok 0).2.2.1
  obtain ⟨m, hm⟩ : ∃ m, (nd L 0).2.2.1 = m := ⟨_, rfl⟩
  rw [hm] at k2 hT hmo
  have f1 : decide ((1000 : Int) < n) = false := decide_eq_false (by omega)
  have f2 : ((n : Int) == 0) = false := beq_false_of_ne (by omega)
  have f3 : (0 : Int) < n := by omega
  obtain ⟨i0, hi0, hz0, hz1, hz2⟩ := info_parts infoNode
  have HOk := Lib.hid hL.ok
  have HL := Lib.hid hL.nds
  have hnews := nds_newsB hL.nds
  have hlen := hL.nds.len
  have HLn := Lib.hid hlen
  have hlen4 : (ndCells L).length = n * 4 := by rw [ndCells_len, hlen]
  have HCk := Lib.hid (fun (W : World) g cp (hr : W.ownsRow w.heap.size 46 4 (.slice (some ⟨g, 0, none⟩) n cp) n (ndCells L)) => check_yes hr hlen HOk.out hn.2 m hmo hT)
  have HT := Lib.hid hT
  have HN := Lib.hid hn
  have hn1 : 0 < n := by omega
  have hn3 : n ≤ 1000 := by omega
  have b1 : 0 + n ≤ maxLen := by unfold maxLen; omega
  have b2 : (0 + n) * 32 ≤ 140737488355328 := by omega
  have hS : w.cell? ⟨b, o + 2, none⟩ = some (.int .i64 m) ∧ Up w w := ⟨k2, Up.refl _⟩
  have HK2 := Lib.hid k2
  clear hL hm hb k2 hmo hT hn hlen
  go_enter Try.func6, Try.ntmps6
  go_wp2_with fail
  go_region_held3 (fun w' => w'.cell? ⟨b, o + 2, none⟩ = some (.int .i64 m) ∧ Up w w')
    (first | assumption | with_reducible exact keepU (Up.drew _) (by assumption) | with_reducible exact keepU hu6 (by assumption) | exact keepU hu5 (by assumption))
    ((first
      | (rw [if_pos (by rfl)]; refine wp_append_lies _ _ _ _ (by rfl) w.heap.size 46 i0 (.agg #[.int .u8 0, .int .i64 0, .int .i64 0, .int .i64 0]) 4 32 Try.underlying24 hi0 hz0 hz1 hz2 rfl (by decide) (.slice none 0 0) 0 [] (by rfl) (World.ownsRow_nil _ _ _ _) ⟨b, o, none⟩ n c (ndCells L) (by rfl) hlen4 (hnews _ (by assumption : _ ∧ Up w _).2) (ndCells_one _) hn1 b1 b2 (Below.size (by assumption : _ ∧ Up w _).2) _ (by rfl) ?_; intro g5 cap5 w5 hown5 hgrow hat5 hlt5; have hu5 := grown_none hgrow)
      | (go_at_call 14; ((with_reducible refine (HCk.out _ _ _ (row_zero hown5)).mono ?_); rintro e w6 ⟨rfl, hu6⟩))))
  have HS0 : Hid (BackS w L 0 0 [] (.slice none 0 0) (.slice none 0 0) w6) := Lib.hid (BackS.start HT.out (by assumption : _ ∧ Up w w6).2)
  clear hS hown5 hgrow hat5 hlt5 hu5 hu6 hi0 hz0 hz1 hz2 hnews hlen4 HCk b1 b2 f1 f2
  go_wp2
  go_loopg [3, 4, 5] (n - 1) (fun g ev ov iv wr => ∃ (p q : Nat) (E : List Ev) (A4 : Option Addr) (c4 : Nat), g = n - (p + 1) ∧ iv = .int .i64 ((p : Nat) + 1 : Nat) ∧ p + 1 ≤ n ∧ ov = .slice A4 q c4 ∧ Hid (q ≤ c4) ∧ Hid (BackS w L p q E ev (.slice A4 q c4) wr))
  case atStart => exact ⟨0, 0, [], none, 0, by omega, rfl, by omega, rfl, Lib.hid (Nat.le_refl _), HS0⟩
  case round =>
    obtain ⟨p, q0, E0, A0, c0, hg, rfl, hp, rfl, HQc0, HS0'⟩ := hrel
    have HG := Lib.hid hg
    clear hg HS0
    obtain ⟨V, rfl⟩ : ∃ V, V = wr := ⟨_, rfl⟩
    by_cases hlt : p + 1 < n
    · have HLT := Lib.hid hlt
      have hii : (p : Int) + 1 < n := by omega
      have hii2 : ((p + 1 : Nat) : Int) < n := by omega
      obtain ⟨de, hde⟩ : ∃ de, dep L (p + 1) = de := ⟨_, rfl⟩
      have HDe := Lib.hid hde
      clear hlt hde
      go_wp2
      go_loopg [3, 4] q0 (fun g ev ov wr => ∃ (q : Nat) (E : List Ev) (A4 : Option Addr) (c4 : Nat), g = q ∧ ov = .slice A4 q c4 ∧ Hid (q ≤ c4) ∧ Hid (BackS w L p q E ev (.slice A4 q c4) wr))
      case atStart => exact ⟨q0, E0, A0, c0, rfl, rfl, HQc0, HS0'⟩
      case round =>
        obtain ⟨q9, E, A4, c4, hg, rfl, HQc, HS⟩ := hrel
        have HG2 := Lib.hid hg
        clear hg
        obtain ⟨b9, o9, hA9, -, -, -, -, k3⟩ := nds_nd (HL.out.up HS.out.up) (p + 1) HLT.out
        obtain ⟨rfl, rfl⟩ : b = b9 ∧ o = o9 := by injection hA9 with e; injection e with e1 e2; exact ⟨e1, e2⟩
        have k3' : wr.cell? ⟨b, o + (p + 1) * 4 + 3, none⟩ = some (.int .i64 de) := by rw [← HDe.out]; exact k3
        have h1d : 1 ≤ de := by rw [← HDe.out]; exact (HT.out.ok p (by have := HLn.out; have := HLT.out; omega)).1
        clear k3 hA9
        by_cases hge : de ≤ (q9 : Int)
        · obtain ⟨q, rfl⟩ : ∃ q, q9 = q + 1 := ⟨q9 - 1, by omega⟩
          have HGe := Lib.hid hge
          have hge2 : de ≤ (q : Int) + 1 := by omega
          clear hge h1d
          have hq2 := HS.out.hq
          obtain ⟨s, hs, hsp, ha, hd⟩ := bk_pop HT.out HS.out.hp hq2
          obtain ⟨go, rfl, ks⟩ := HS.out.last hs
          obtain ⟨sTo, hsTo⟩ : ∃ sTo, (nd L s).2.2.1 = sTo := ⟨_, rfl⟩
          rw [hsTo] at ks ha hd
          obtain ⟨ne, hne⟩ : ∃ ne, E.length = ne := ⟨_, rfl⟩
          have HNe := Lib.hid hne
          have hrE := HS.out.rE
          rw [hne] at hrE
          have hel := HS.out.len
          have hpn := HS.out.hp
          have hln := HLn.out
          have hn9 := HN.out
          have hsI := isT_in HT.out (s + 1) s (Nat.lt_succ_self s) (by omega)
          rw [hsTo] at hsI
          have HOkE : Hid (EvOk (2, 0, sTo, 0)) := Lib.hid (evok_close (by have := HT.out.hi; omega))
          have hq4 : q + 1 ≤ c4 := HQc.out
          have hqn : q ≤ 2000 := by omega
          have b1 : ne + 1 ≤ maxLen := by unfold maxLen; omega
          have b2 : (ne + 1) * 24 ≤ 140737488355328 := by omega
          have j4 : (q : Int) ≤ c4 := by omega
          have j5 : (0 : Int) ≤ (q : Int) := by omega
          have e5 : wrap64 (q : Int) = (q : Int) := IntWalk.wrap64_in _ (by omega)
          have HU := Lib.hid HS.out.up
          have HAsk := Lib.hid ha
          have HDo := Lib.hid hd
          have HSs := Lib.hid hs
          clear hq2 hs hsp ha hd hsTo hne hel hpn hln hn9 hq4 hsI
          go_wp2_with (at_builtin; (obtain ⟨i0, hi0, hz0, hz1, hz2⟩ := info_parts infoEv; refine wpList_append_lies _ rfl _ _ 22 rfl w.heap.size 42 i0 (.agg #[.int .u8 0, .int .u8 0, .int .i64 0, .int .i64 0]) 4 24 Try.underlying22 hi0 hz0 hz1 hz2 rfl (by decide) _ ne (evCells E) rfl (hrE.alloc _) ⟨wr.heap.size, 0, none⟩ 1 1 (evCells [(2, 0, sTo, 0)]) rfl rfl (World.news_of_block (cs := #[.int .u8 2, .int .u8 0, .int .i64 sTo, .int .i64 0]) (t := 42) (fr := (0, 0)) (heap_alloc_new wr _)) (evCells_one _) (by omega) b1 b2 (by have := Below.size HU.out; simp; omega) _ rfl ?_); intro g7 cap7 w7 hown7 hgrow7 hat7 hlt7; clear hi0 hz0 hz1 hz2; have HO7 := Lib.hid hown7; have HG7 := Lib.hid hgrow7; clear hown7 hgrow7 hat7 hlt7)
          go_roundg q
          case measure => rw [HG2.out]; omega
          case rel =>
            refine ⟨q, E ++ [(2, 0, sTo, 0)], some ⟨go, 0, none⟩, c4, rfl, rfl, Lib.hid (by have := HQc.out; omega), Lib.hid ?_⟩
            exact HS.out.step (by rw [HNe.out]; exact HO7.out) HG7.out HAsk.out HDo.out HOkE.out (BackS.popO (HS.out.keepO HG7.out) HS.out.hq HSs.out) (by have := HS.out.len; omega) (by have := HS.out.hq; omega) HS.out.hp (fun _ => by rw [HDe.out]; have := HGe.out; omega)
        · have hd1 : de = (q9 : Int) + 1 := by
            have := HS.out.nx (by have := HLn.out; have := HLT.out; omega)
            rw [HDe.out] at this
            omega
          subst hd1
          have f5 : decide ((q9 : Int) + 1 ≤ (q9 : Int)) = false := decide_eq_false (by omega)
          obtain ⟨b9, o9, hA9, -, k0, k1, k2, -⟩ := nds_nd (HL.out.up HS.out.up) (p + 1) HLT.out
          obtain ⟨rfl, rfl⟩ : b = b9 ∧ o = o9 := by injection hA9 with e; injection e with e1 e2; exact ⟨e1, e2⟩
          have hin := isT_in HT.out (p + 2) (p + 1) (by omega) (by have := HLn.out; have := HLT.out; omega)
          have hki := wf8 (nd_ok HOk.out (p + 1)).1
          obtain ⟨ne, hne⟩ : ∃ ne, E.length = ne := ⟨_, rfl⟩
          have hrE := HS.out.rE
          rw [hne] at hrE
          have hel := HS.out.len
          have b1 : ne + 1 ≤ maxLen := by unfold maxLen; omega
          have b2 : (ne + 1) * 24 ≤ 140737488355328 := by omega
          have HQ9 : Hid (q9 ≤ 2000) := Lib.hid (by omega)
          obtain ⟨hO1, hO2⟩ := bk_open HT.out (show p + 1 < L.length by have := HLn.out; have := HLT.out; omega) HS.out.hq HDe.out
          obtain ⟨hl1, hl2⟩ := bk_leaf HT.out (show p + 1 < L.length by have := HLn.out; have := HLT.out; omega) HS.out.hq HDe.out
          have hstn := (bk_next HT.out (show p + 1 < L.length by have := HLn.out; have := HLT.out; omega) HS.out.hq HDe.out).2
          have hdx := HDe.out
          obtain ⟨x, hx⟩ : ∃ x, nd L (p + 1) = x := ⟨_, rfl⟩
          have HX := Lib.hid hx
          unfold dep at hdx
          rw [hx] at k0 k1 k2 hin hki hO1 hO2 hl1 hl2 hdx
          obtain ⟨x0, x1, x2, x3⟩ := x
          dsimp only at k0 k1 k2 hin hki hO1 hO2 hl1 hl2 hdx
          subst hdx
          have HIn := Lib.hid (And.intro hin hki)
          have HNe := Lib.hid hne
          have HOp := Lib.hid (And.intro hO1 hO2)
          have HLf := Lib.hid (And.intro hl1 hl2)
          have HSt := Lib.hid hstn
          have q10 : IntKind.i64.wrap ((p : Int) + 1 + 1) = (p : Int) + 1 + 1 := IntWalk.i64_in _ (by omega)
          clear hge h1d hA9 hin hki hne hel hO1 hO2 hl1 hl2 hx hstn
          have hS : wr.cell? ⟨b, o + (p + 1) * 4, none⟩ = some (.int .u8 x0) ∧ wr.cell? ⟨b, o + (p + 1) * 4 + 1, none⟩ = some (.int .i64 x1) ∧ wr.cell? ⟨b, o + (p + 1) * 4 + 2, none⟩ = some (.int .i64 x2) ∧ wr.cell? ⟨b, o + (p + 1) * 4 + 3, none⟩ = some (.int .i64 ((q9 : Int) + 1)) := ⟨k0, k1, k2, k3'⟩
          by_cases hdeep : p + 1 + 1 < n ∧ (q9 : Int) + 1 < dep L (p + 1 + 1)
          · -- others lie in it
            have hi2 : (p : Int) + 1 + 1 < n := by omega
            obtain ⟨b9, o9, hA9, -, -, -, -, k6⟩ := nds_nd (HL.out.up HS.out.up) (p + 1 + 1) hdeep.1
            obtain ⟨rfl, rfl⟩ : b = b9 ∧ o = o9 := by injection hA9 with e; injection e with e1 e2; exact ⟨e1, e2⟩
            have hdeq : dep L (p + 1 + 1) = (q9 : Int) + 1 + 1 := by
              have := (HT.out.ok (p + 1) (by have := HLn.out; omega)).2.1
              have h1 := HDe.out
              omega
            have k6' : wr.cell? ⟨b, o + (p + 1 + 1) * 4 + 3, none⟩ = some (.int .i64 ((q9 : Int) + 1 + 1)) := by rw [← hdeq]; exact k6
            have h12 : (q9 : Int) + 1 < (q9 : Int) + 1 + 1 := by omega
            have HDq := Lib.hid hdeq
            have HDp := Lib.hid hdeep.1
            clear k6 hA9 hdeq hdeep k0 k1 k2 k3'
            go_wp2
            go_quiet (fail)
            go_wp2_with fail
            obtain ⟨V2, hV2⟩ : ∃ V2, wr.drewN nq = V2 := ⟨_, rfl⟩
            have hu2 : Up wr V2 := by rw [← hV2]; exact Up.drewN wr nq
            have hS2 := keepU4 (fun j v h => cell_up hu2 h) hS
            have HS2 := Lib.hid (HS.out.up' hu2)
            have hrE2 := HS2.out.rE
            rw [HNe.out] at hrE2
            simp only [hV2]
            have hB2 := Below.size HS2.out.up
            have HBw := Lib.hid (show b < w.heap.size from World.block_lt_of_cell? w ⟨b, o + 2, none⟩ HK2.out)
            clear hV2 hu2 hS k6'
            obtain ⟨j0, hj0, hy0, hy1, hy2⟩ := info_parts infoEv
            have p01 : (0 : Int) ≤ (p : Int) + 1 := by omega
            have p02 : ((p : Int) + 1).toNat = p + 1 := by omega
            go_region_held3 (fun w' => w'.cell? ⟨b, o + (p + 1) * 4, none⟩ = some (.int .u8 x0) ∧ w'.cell? ⟨b, o + (p + 1) * 4 + 1, none⟩ = some (.int .i64 x1) ∧ w'.cell? ⟨b, o + (p + 1) * 4 + 2, none⟩ = some (.int .i64 x2) ∧ w'.cell? ⟨b, o + (p + 1) * 4 + 3, none⟩ = some (.int .i64 ((q9 : Int) + 1)))
              (first | assumption | with_reducible exact keepU4 (fun j v h => cell_up (Up.drew _) h) (by assumption) | with_reducible exact keepU4 (fun j v h => cell_up (Up.alloc _ _) h) (by assumption) | exact keepU4 (old_cell HBw.out ((hrE2.alloc _).drew) rfl hgrow7) (by assumption))
              ((refine step_append_lies _ (by rfl) _ _ _ (by rfl) w.heap.size 42 j0 (.agg #[.int .u8 0, .int .u8 0, .int .i64 0, .int .i64 0]) 4 24 Try.underlying22 hj0 hy0 hy1 hy2 rfl (by decide) _ ne (evCells E) (by rfl) ((hrE2.alloc _).drew) ⟨V2.heap.size, 0, none⟩ 1 1 (evCells [(1, x0, x1, 0)]) (by rfl) (by rfl) (World.news_of_block (cs := #[.int .u8 1, .int .u8 x0, .int .i64 x1, .int .i64 0]) (t := 42) (fr := (0, 0)) (heap_alloc_new V2 _)) (evCells_one _) (by omega) b1 b2 (by simp; omega) (V2.heap.size + 1) (by simp) ?_; intro g7 cap7 w7 hown7 hgrow7 hat7 hlt7))
            have hS7 : w7.cell? ⟨b, o + (p + 1) * 4, none⟩ = some (.int .u8 x0) ∧ w7.cell? ⟨b, o + (p + 1) * 4 + 1, none⟩ = some (.int .i64 x1) ∧ w7.cell? ⟨b, o + (p + 1) * 4 + 2, none⟩ = some (.int .i64 x2) ∧ w7.cell? ⟨b, o + (p + 1) * 4 + 3, none⟩ = some (.int .i64 ((q9 : Int) + 1)) := by assumption
            obtain ⟨c70, c71, c72, c73⟩ := hS7
            have HO7 := Lib.hid hown7
            have HG7 := Lib.hid (drew_grownB hgrow7)
            have HU7 := Lib.hid (grown_up HS2.out.up (Up.alloc V2 _) HS2.out.rE HG7.out)
            have hrO7 := HS2.out.keepO HG7.out
            have hq9 := HQ9.out
            have b3 : q9 + 1 ≤ maxLen := by unfold maxLen; omega
            have b4 : (q9 + 1) * 32 ≤ 140737488355328 := by omega
            clear hgrow7 hown7 hat7 hlt7 hS2 hrE2 hB2 hj0 hy0 hy1 hy2 hq9 p01 p02
            go_wp2_with (at_builtin; (obtain ⟨i0, hi0, hz0, hz1, hz2⟩ := info_parts infoNode; refine wpList_append_lies _ rfl _ _ 24 rfl w.heap.size 46 i0 (.agg #[.int .u8 0, .int .i64 0, .int .i64 0, .int .i64 0]) 4 32 Try.underlying24 hi0 hz0 hz1 hz2 rfl (by decide) (.slice A4 q9 c4) q9 (ndCells (opnL L p q9)) rfl (hrO7.alloc _) ⟨w7.heap.size, 0, none⟩ 1 1 (ndCells [(x0, x1, x2, (q9 : Int) + 1)]) rfl rfl (World.news_of_block (cs := #[.int .u8 x0, .int .i64 x1, .int .i64 x2, .int .i64 ((q9 : Int) + 1)]) (t := 46) (fr := (0, 0)) (heap_alloc_new w7 _)) (ndCells_one _) (by omega) b3 b4 (by have := Below.size HU7.out; simp; omega) _ rfl ?_); intro g8 cap8 w8 hown8 hgrow8 hat8 hlt8; clear hi0 hz0 hz1 hz2; have HO8 := Lib.hid hown8; have HG8 := Lib.hid hgrow8; clear hown8 hgrow8 hat8 hlt8)
            go_roundg (n - (p + 1 + 1))
            case measure => rw [HG.out]; have := HLT.out; omega
            case rel =>
              obtain ⟨m1, m2⟩ := opnL_open HS2.out.hq HSt.out
              refine ⟨p + 1, q9 + 1, E ++ [(1, x0, x1, 0)], some ⟨g8, 0, none⟩, cap8, rfl, by go_num, by have := HLT.out; omega, rfl, Lib.hid (owns_cap HO8.out), Lib.hid ?_⟩
              refine HS2.out.step2 ?_ HOp.out.1 HOp.out.2 (evok_open (by have := HIn.out.2; omega) (by have := HIn.out.1; have := HT.out.hi; omega)) ?_ (grown_up HU7.out (Up.alloc w7 _) hrO7 HG8.out) (by have := HS2.out.len; omega) m2 (by have := HLn.out; have := HLT.out; omega) (fun _ => by rw [HDq.out]; omega)
              · rw [HNe.out]
                exact (HO7.out.alloc _).kept HG8.out (rows_apart hrO7 HO7.out (by decide))
              · rw [m1, ndCells_append, HX.out]
                exact HO8.out
          · -- a leaf
            by_cases hi2 : p + 1 + 1 < n
            · obtain ⟨dd, hdd⟩ : ∃ dd, dep L (p + 1 + 1) = dd := ⟨_, rfl⟩
              obtain ⟨b9, o9, hA9, -, -, -, -, k6⟩ := nds_nd (HL.out.up HS.out.up) (p + 1 + 1) hi2
              obtain ⟨rfl, rfl⟩ : b = b9 ∧ o = o9 := by injection hA9 with e; injection e with e1 e2; exact ⟨e1, e2⟩
              have k6' : wr.cell? ⟨b, o + (p + 1 + 1) * 4 + 3, none⟩ = some (.int .i64 dd) := by rw [← hdd]; exact k6
              have h10 : (p : Int) + 1 + 1 < n := by omega
              have hnd : ¬ ((q9 : Int) + 1 < dd) := fun h => hdeep ⟨hi2, by rw [hdd]; exact h⟩
              have f12 : decide ((q9 : Int) + 1 < dd) = false := decide_eq_false hnd
              have HNd : Hid (p + 1 + 1 < L.length → dep L (p + 1 + 1) ≤ (q9 : Int) + 1) := Lib.hid (fun _ => by rw [hdd]; omega)
              clear k6 hA9 hdd hnd hdeep hi2 k0 k1 k2 k3'
              go_wp2
              go_quiet (fail)
              go_wp2_with fail
              obtain ⟨V2, hV2⟩ : ∃ V2, wr.drewN nq = V2 := ⟨_, rfl⟩
              have hu2 : Up wr V2 := by rw [← hV2]; exact Up.drewN wr nq
              have hS2 := keepU4 (fun j v h => cell_up hu2 h) hS
              have HS2 := Lib.hid (HS.out.up' hu2)
              have hrE2 := HS2.out.rE
              rw [HNe.out] at hrE2
              simp only [hV2]
              have hB2 := Below.size HS2.out.up
              have HBw := Lib.hid (show b < w.heap.size from World.block_lt_of_cell? w ⟨b, o + 2, none⟩ HK2.out)
              clear hV2 hu2 hS k6'
              obtain ⟨j0, hj0, hy0, hy1, hy2⟩ := info_parts infoEv
              have p01 : (0 : Int) ≤ (p : Int) + 1 := by omega
              have p02 : ((p : Int) + 1).toNat = p + 1 := by omega
              go_region_held3 (fun w' => w'.cell? ⟨b, o + (p + 1) * 4, none⟩ = some (.int .u8 x0) ∧ w'.cell? ⟨b, o + (p + 1) * 4 + 1, none⟩ = some (.int .i64 x1) ∧ w'.cell? ⟨b, o + (p + 1) * 4 + 2, none⟩ = some (.int .i64 x2) ∧ w'.cell? ⟨b, o + (p + 1) * 4 + 3, none⟩ = some (.int .i64 ((q9 : Int) + 1)))
                (first | assumption | with_reducible exact keepU4 (fun j v h => cell_up (Up.drew _) h) (by assumption) | with_reducible exact keepU4 (fun j v h => cell_up (Up.alloc _ _) h) (by assumption) | exact keepU4 (old_cell HBw.out ((hrE2.alloc _).drew) rfl hgrow7) (by assumption))
                ((refine step_append_lies _ (by rfl) _ _ _ (by rfl) w.heap.size 42 j0 (.agg #[.int .u8 0, .int .u8 0, .int .i64 0, .int .i64 0]) 4 24 Try.underlying22 hj0 hy0 hy1 hy2 rfl (by decide) _ ne (evCells E) (by rfl) ((hrE2.alloc _).drew) ⟨V2.heap.size, 0, none⟩ 1 1 (evCells [(3, x0, x1, x2)]) (by rfl) (by rfl) (World.news_of_block (cs := #[.int .u8 3, .int .u8 x0, .int .i64 x1, .int .i64 x2]) (t := 42) (fr := (0, 0)) (heap_alloc_new V2 _)) (evCells_one _) (by omega) b1 b2 (by simp; omega) (V2.heap.size + 1) (by simp) ?_; intro g7 cap7 w7 hown7 hgrow7 hat7 hlt7))
              have HO7 := Lib.hid hown7
              have HG7 := Lib.hid (drew_grownB hgrow7)
              have HU7 := Lib.hid (grown_up HS2.out.up (Up.alloc V2 _) HS2.out.rE HG7.out)
              have hrO7 := Lib.hid (HS2.out.keepO HG7.out)
              clear hgrow7 hown7 hat7 hlt7 hS2 hrE2 hB2 hj0 hy0 hy1 hy2 p01 p02
              go_wp2
              go_roundg (n - (p + 1 + 1))
              case measure => rw [HG.out]; have := HLT.out; omega
              case rel =>
                obtain ⟨m1, m2⟩ := opnL_leaf HS2.out.hq HSt.out
                refine ⟨p + 1, q9, E ++ [(3, x0, x1, x2)], A4, c4, rfl, by go_num, by have := HLT.out; omega, rfl, HQc, Lib.hid ?_⟩
                refine HS2.out.step2 (by rw [HNe.out]; exact HO7.out) HLf.out.1 HLf.out.2 (evok_leaf (by have := HIn.out.2; omega) (by have := HIn.out.1; have := HT.out.hi; omega) (by have := HIn.out.1; have := HT.out.hi; omega)) (by rw [m1]; exact hrO7.out) HU7.out (by have := HS2.out.len; omega) m2 (by have := HLn.out; have := HLT.out; omega) (fun h => HNd.out h)
            · have HNd : Hid (p + 1 + 1 < L.length → dep L (p + 1 + 1) ≤ (q9 : Int) + 1) := Lib.hid (fun h => by have := HLn.out; omega)
              have f12 : decide ((p : Int) + 1 + 1 < n) = false := decide_eq_false (by omega)
              clear hdeep hi2 k0 k1 k2 k3'
              go_wp2
              go_quiet (fail)
              go_wp2_with fail
              obtain ⟨V2, hV2⟩ : ∃ V2, wr.drewN nq = V2 := ⟨_, rfl⟩
              have hu2 : Up wr V2 := by rw [← hV2]; exact Up.drewN wr nq
              have hS2 := keepU4 (fun j v h => cell_up hu2 h) hS
              have HS2 := Lib.hid (HS.out.up' hu2)
              have hrE2 := HS2.out.rE
              rw [HNe.out] at hrE2
              simp only [hV2]
              have hB2 := Below.size HS2.out.up
              have HBw := Lib.hid (show b < w.heap.size from World.block_lt_of_cell? w ⟨b, o + 2, none⟩ HK2.out)
              clear hV2 hu2 hS 
              obtain ⟨j0, hj0, hy0, hy1, hy2⟩ := info_parts infoEv
              have p01 : (0 : Int) ≤ (p : Int) + 1 := by omega
              have p02 : ((p : Int) + 1).toNat = p + 1 := by omega
              go_region_held3 (fun w' => w'.cell? ⟨b, o + (p + 1) * 4, none⟩ = some (.int .u8 x0) ∧ w'.cell? ⟨b, o + (p + 1) * 4 + 1, none⟩ = some (.int .i64 x1) ∧ w'.cell? ⟨b, o + (p + 1) * 4 + 2, none⟩ = some (.int .i64 x2) ∧ w'.cell? ⟨b, o + (p + 1) * 4 + 3, none⟩ = some (.int .i64 ((q9 : Int) + 1)))
                (first | assumption | with_reducible exact keepU4 (fun j v h => cell_up (Up.drew _) h) (by assumption) | with_reducible exact keepU4 (fun j v h => cell_up (Up.alloc _ _) h) (by assumption) | exact keepU4 (old_cell HBw.out ((hrE2.alloc _).drew) rfl hgrow7) (by assumption))
                ((refine step_append_lies _ (by rfl) _ _ _ (by rfl) w.heap.size 42 j0 (.agg #[.int .u8 0, .int .u8 0, .int .i64 0, .int .i64 0]) 4 24 Try.underlying22 hj0 hy0 hy1 hy2 rfl (by decide) _ ne (evCells E) (by rfl) ((hrE2.alloc _).drew) ⟨V2.heap.size, 0, none⟩ 1 1 (evCells [(3, x0, x1, x2)]) (by rfl) (by rfl) (World.news_of_block (cs := #[.int .u8 3, .int .u8 x0, .int .i64 x1, .int .i64 x2]) (t := 42) (fr := (0, 0)) (heap_alloc_new V2 _)) (evCells_one _) (by omega) b1 b2 (by simp; omega) (V2.heap.size + 1) (by simp) ?_; intro g7 cap7 w7 hown7 hgrow7 hat7 hlt7))
              have HO7 := Lib.hid hown7
              have HG7 := Lib.hid (drew_grownB hgrow7)
              have HU7 := Lib.hid (grown_up HS2.out.up (Up.alloc V2 _) HS2.out.rE HG7.out)
              have hrO7 := Lib.hid (HS2.out.keepO HG7.out)
              clear hgrow7 hown7 hat7 hlt7 hS2 hrE2 hB2 hj0 hy0 hy1 hy2 p01 p02
              go_wp2
              go_roundg (n - (p + 1 + 1))
              case measure => rw [HG.out]; have := HLT.out; omega
              case rel =>
                obtain ⟨m1, m2⟩ := opnL_leaf HS2.out.hq HSt.out
                refine ⟨p + 1, q9, E ++ [(3, x0, x1, x2)], A4, c4, rfl, by go_num, by have := HLT.out; omega, rfl, HQc, Lib.hid ?_⟩
                refine HS2.out.step2 (by rw [HNe.out]; exact HO7.out) HLf.out.1 HLf.out.2 (evok_leaf (by have := HIn.out.2; omega) (by have := HIn.out.1; have := HT.out.hi; omega) (by have := HIn.out.1; have := HT.out.hi; omega)) (by rw [m1]; exact hrO7.out) HU7.out (by have := HS2.out.len; omega) m2 (by have := HLn.out; have := HLT.out; omega) (fun h => HNd.out h)
    · have hpn : p + 1 = n := by omega
      have f0 : decide ((p : Int) + 1 < n) = false := decide_eq_false (by omega)
      have HPn := Lib.hid hpn
      clear hlt hpn
      go_wp2
      go_loopg [3, 4] q0 (fun g ev ov wr => ∃ (q : Nat) (E : List Ev) (A4 : Option Addr) (c4 : Nat), g = q ∧ ov = .slice A4 q c4 ∧ Hid (q ≤ c4) ∧ Hid (BackS w L p q E ev (.slice A4 q c4) wr))
      case atStart => exact ⟨q0, E0, A0, c0, rfl, rfl, HQc0, HS0'⟩
      case round =>
        obtain ⟨q9, E, A4, c4, hg, rfl, HQc, HS⟩ := hrel
        have HG2 := Lib.hid hg
        clear hg
        cases q9 with
        | succ q =>
          have hpos : (0 : Int) < (q : Int) + 1 := by omega
          have hq2 := HS.out.hq
          obtain ⟨s, hs, hsp, ha, hd⟩ := bk_pop HT.out HS.out.hp hq2
          obtain ⟨go, rfl, ks⟩ := HS.out.last hs
          obtain ⟨sTo, hsTo⟩ : ∃ sTo, (nd L s).2.2.1 = sTo := ⟨_, rfl⟩
          rw [hsTo] at ks ha hd
          obtain ⟨ne, hne⟩ : ∃ ne, E.length = ne := ⟨_, rfl⟩
          have HNe := Lib.hid hne
          have hrE := HS.out.rE
          rw [hne] at hrE
          have hel := HS.out.len
          have hpn := HS.out.hp
          have hln := HLn.out
          have hn9 := HN.out
          have hsI := isT_in HT.out (s + 1) s (Nat.lt_succ_self s) (by omega)
          rw [hsTo] at hsI
          have HOkE : Hid (EvOk (2, 0, sTo, 0)) := Lib.hid (evok_close (by have := HT.out.hi; omega))
          have hq4 : q + 1 ≤ c4 := HQc.out
          have hqn : q ≤ 2000 := by omega
          have b1 : ne + 1 ≤ maxLen := by unfold maxLen; omega
          have b2 : (ne + 1) * 24 ≤ 140737488355328 := by omega
          have j4 : (q : Int) ≤ c4 := by omega
          have j5 : (0 : Int) ≤ (q : Int) := by omega
          have e5 : wrap64 (q : Int) = (q : Int) := IntWalk.wrap64_in _ (by omega)
          have HU := Lib.hid HS.out.up
          have HAsk := Lib.hid ha
          have HDo := Lib.hid hd
          have HSs := Lib.hid hs
          clear hq2 hs hsp ha hd hsTo hne hel hpn hln hn9 hq4 hsI
          go_wp2_with (at_builtin; (obtain ⟨i0, hi0, hz0, hz1, hz2⟩ := info_parts infoEv; refine wpList_append_lies _ rfl _ _ 22 rfl w.heap.size 42 i0 (.agg #[.int .u8 0, .int .u8 0, .int .i64 0, .int .i64 0]) 4 24 Try.underlying22 hi0 hz0 hz1 hz2 rfl (by decide) _ ne (evCells E) rfl (hrE.alloc _) ⟨wr.heap.size, 0, none⟩ 1 1 (evCells [(2, 0, sTo, 0)]) rfl rfl (World.news_of_block (cs := #[.int .u8 2, .int .u8 0, .int .i64 sTo, .int .i64 0]) (t := 42) (fr := (0, 0)) (heap_alloc_new wr _)) (evCells_one _) (by omega) b1 b2 (by have := Below.size HU.out; simp; omega) _ rfl ?_); intro g7 cap7 w7 hown7 hgrow7 hat7 hlt7; clear hi0 hz0 hz1 hz2; have HO7 := Lib.hid hown7; have HG7 := Lib.hid hgrow7; clear hown7 hgrow7 hat7 hlt7)
          go_roundg q
          case measure => rw [HG2.out]; omega
          case rel =>
            refine ⟨q, E ++ [(2, 0, sTo, 0)], some ⟨go, 0, none⟩, c4, rfl, rfl, Lib.hid (by have := HQc.out; omega), Lib.hid ?_⟩
            exact HS.out.step (by rw [HNe.out]; exact HO7.out) HG7.out HAsk.out HDo.out HOkE.out (BackS.popO (HS.out.keepO HG7.out) HS.out.hq HSs.out) (by have := HS.out.len; omega) (by have := HS.out.hq; omega) HS.out.hp (fun h => by have := HLn.out; have := HPn.out; omega)
        | zero =>
          obtain ⟨Ae, ce, rfl, hEv, hce, -, -⟩ := evs_row HS.out.rE
          obtain ⟨b9, o9, hA9, -, k0, -, -, -⟩ := nds_nd (HL.out.up HS.out.up) 0 (by have := HN.out; omega)
          obtain ⟨rfl, rfl⟩ : b = b9 ∧ o = o9 := by injection hA9 with e; injection e with e1 e2; exact ⟨e1, e2⟩
          rw [HT.out.root, Nat.zero_mul, Nat.add_zero] at k0
          have k2 := cell_up HS.out.up HK2.out
          have hE0 : putE 0 Bs.new E = 0 := by unfold putE; rw [if_neg (by decide)]; exact HS.out.ask
          have hB0 : putB 0 Bs.new E = bk L p 0 := by unfold putB; rw [if_pos hE0]; exact HS.out.do_
          have hok : BOk (bk L p 0) := hB0 ▸ BOk.new.put HS.out.ok
          obtain ⟨ht1, ht2⟩ := bk_end HT.out (p := p) (by have := HLn.out; have := HPn.out; omega)
          have hbl : (bk L p 0).N.length = p := bkN_len L p 0
          have HNw := Lib.hid (new_any wr 1)
          have HEv := Lib.hid hEv
          have HCe := Lib.hid hce
          have HE0 := Lib.hid (And.intro hE0 hB0)
          have HOkb := Lib.hid hok
          have HTo := Lib.hid (And.intro ht1 ht2)
          have HBl := Lib.hid hbl
          have HMi := Lib.hid (And.intro HT.out.lo HT.out.hi)
          have HUr := Lib.hid HS.out.up
          have HEok := Lib.hid HS.out.ok
          have hel : E.length ≤ 2000 := by have := HS.out.len; have := HPn.out; omega
          have HEl := Lib.hid hel
          clear hA9 hE0 hB0 hok ht1 ht2 hbl hEv hce hel
          go_wp2_with (first
            | (go_at_call 13; ((with_reducible refine HNw.out.mono ?_); rintro e w8 ⟨rfl, hb8, hu8, hs8⟩; have HU8 := Lib.hid hu8; have h02 := cell_up hu8 k2; have HB8 : Hid (BUp w8 wr.heap.size wr.heap.size 1 Bs.new) := Lib.hid (hb8.mono (fun i _ h => Nat.le_of_eq h.symm)); have HP := Lib.hid (put_end HB8.out HU8.out HEv.out HCe.out HEok.out HEl.out); rw [HE0.out.1, HE0.out.2] at HP; clear hb8 hu8 hs8))
            | (go_at_call 8; ((with_reducible refine HP.out.mono ?_); rintro e w9 ⟨rfl, hb9, hu9⟩; have HU9 := Lib.hid hu9; have h92 := cell_up HU9.out k2; have HB9 := Lib.hid hb9; have HD := Lib.hid (done_tree hb9 HOkb.out HBl.out (by have := HPn.out; omega) HTo.out.1 ⟨HTo.out.2, HMi.out.2⟩ HPn.out); clear hb9 hu9))
            | (go_at_call 7; ((with_reducible refine HD.out.mono ?_); rintro e w10 ⟨g10, c10, rfl, hr10, hu10⟩; have HU10 := Lib.hid hu10; have HSm := Lib.hid (refSame_any w10 (some ⟨g10, 0, none⟩) (some ⟨b, o, none⟩) n c10 c L hr10 (HL.out.up (Up.trans HUr.out (Up.trans HU9.out hu10))) (by omega)); clear hr10 hu10))
            | (go_at_call 16; ((with_reducible refine HSm.out.mono ?_); rintro e w11 ⟨rfl, hu11⟩; have HU11 := Lib.hid hu11; clear hu11))
            | (go_at_call 11; ((with_reducible refine (HW.out _).mono ?_); rintro e w12 ⟨rfl, hu12⟩; have HU12 := Lib.hid hu12; clear hu12)))
          go_ret
          exact ⟨rfl, Up.trans HUr.out (Up.trans HU9.out (Up.trans HU10.out (Up.trans HU11.out HU12.out)))⟩
theorem back_walk (w : World) (A : Option Addr) (n c : Nat) (L : List Nd) (hL : NArg w A n L) (_hm : n ≤ maxLen) (_hz : A = none → n = 0 ∧ c = 0) : Calls Try.prog 6 #[.slice A n c] w fun e w' => e = .returned (.bool true) ∧ Below w.heap.size w w' := by
  by_cases h : 1000 < n ∨ n = 0
  · exact back_out w A n c h
  · by_cases hT : IsT L (nd L 0).2.2.1
    · exact back_yes w A n c L hL (by omega) hT
    · exact back_no w A n c L hL (by omega) hT
end Go.Proofs.Ytkkefgbmdghklaa
