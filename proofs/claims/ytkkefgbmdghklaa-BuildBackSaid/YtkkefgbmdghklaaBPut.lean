/- A builder to which events are put: the program's Put. -/
import Derived.Test.YtkkefgbmdghklaaBAsking
namespace Go.Proofs.Ytkkefgbmdghklaa
open Go.RowKit

theorem drop_ev {L : List Ev} {j : Nat} (h : j < L.length) : L.drop j = ev L j :: L.drop (j + 1) := by
  rw [List.drop_eq_getElem_cons h, ev_eq]
theorem ev_ok {L : List Ev} (h : ∀ x ∈ L, EvOk x) {i : Nat} (hi : i < L.length) : EvOk (ev L i) := by
  rw [← ev_eq hi]
  exact h _ (List.getElem_mem hi)
theorem asks_step {at_ far : Int} {o : Nat} {e : Ev} {t : List Ev} (h : askE far o at_ e = 0) : asks at_ far o (e :: t) = asks at_ (farE at_ e) (opnE o e) t := by
  rw [asks, if_pos h]
theorem asks_end {at_ far : Int} {o : Nat} {e : Ev} {t : List Ev} (h : askE far o at_ e ≠ 0) : asks at_ far o (e :: t) = askE far o at_ e := by
  rw [asks, if_neg h]
theorem farE_in {at_ far : Int} {o : Nat} {e : Ev} (hf : 0 ≤ far ∧ far ≤ 1048576) (h : askE far o at_ e = 0) : 0 ≤ farE at_ e ∧ farE at_ e ≤ 1048576 := by
  obtain ⟨h1, h2, h3, h4, h5⟩ := askE_ok h
  unfold farE
  split
  · rename_i e3
    have := h4 e3
    omega
  · omega
theorem opnE_le {o i m : Nat} {e : Ev} (h : o ≤ m + i) : opnE o e ≤ m + (i + 1) := by
  unfold opnE
  split
  · omega
  · split <;> omega
set_option maxRecDepth 100000 in
set_option maxHeartbeats 1000000 in
theorem put_nil (w : World) (A : Option Addr) (n c : Nat) (at_ : Int) : Calls Try.prog 8 #[.pointer none, .slice A n c, .int .i64 at_] w fun e w' => e = .returned (.int .i64 8) ∧ w = w' := by
  go_enter Try.func8, Try.ntmps8
  go_wp2
  go_ret
  exact ⟨rfl, rfl⟩
set_option maxRecDepth 100000 in
set_option maxHeartbeats 1000000 in
theorem put_arg (w : World) (bb : Nat) (A : Option Addr) (n c : Nat) (at_ : Int) (h : at_ < 0 ∨ 1048576 < at_) : Calls Try.prog 8 #[.pointer (some ⟨bb, 0, none⟩), .slice A n c, .int .i64 at_] w fun e w' => e = .returned (.int .i64 1) ∧ w = w' := by
  by_cases h1 : at_ < 0
  · clear h
    go_enter Try.func8, Try.ntmps8
    go_wp2
    go_ret
    exact ⟨rfl, rfl⟩
  · have h2 : 1048576 < at_ := by omega
    have f1 : decide (at_ < 0) = false := decide_eq_false h1
    clear h h1
    go_enter Try.func8, Try.ntmps8
    go_wp2
    go_ret
    exact ⟨rfl, rfl⟩
/-- What stands between two rounds of the first loop: w: the world in which Put begins. -/
structure Put1 (w : World) (mb Bd Ba Bf Bo Bc : Nat) (at_ : Int) (b : Bs) (L : List Ev) (i : Nat) (W : World) : Prop where
  ask : ∃ far o, AskS W mb Bd Ba Bf Bo Bc at_ far o ∧ (0 ≤ far ∧ far ≤ 1048576) ∧ o ≤ b.O.length + i ∧ asks at_ far o (L.drop i) = asks at_ b.far b.O.length L
  up : Up w W
/-- What stands between two rounds of the second loop: w: the world behind the first loop. -/
structure Put2 (w : World) (bb : Nat) (G : Nat → Prop) (k : Int) (mb : Nat) (at_ : Int) (b : Bs) (L : List Ev) (i : Nat) (W : World) : Prop where
  at_ : ∃ b', BAt W bb G k b' ∧ BOk b' ∧ b'.N.length ≤ b.N.length + i ∧ asks at_ b'.far b'.O.length (L.drop i) = 0 ∧ dos at_ b' (L.drop i) = dos at_ b L
  map : MapT W mb
  turn : Turn G w W
theorem up_turnA {w W W' : World} {Bf Bo : Nat} (hu : Up w W) (hb : w.heap.size ≤ Bf ∧ w.heap.size ≤ Bo) (ht : TurnA Bf Bo W W') : Up w W' :=
  Below.trans hu (Turn.below ht (Below.size hu) (fun i h => by rcases h with rfl | rfl; exact hb.1; exact hb.2))
set_option maxRecDepth 100000 in
set_option maxHeartbeats 2000000 in
theorem put_any (w : World) (bb : Nat) (G : Nat → Prop) (k : Int) (b : Bs) (hb : BAt w bb G k b) (hG0 : ∀ i, w.heap.size ≤ i → G i) (hok : BOk b) (A : Option Addr) (n c : Nat) (L : List Ev) (hL : Evs w A n L) (hc : n ≤ c) (hA : ∀ a, A = some a → 0 < n → a.block < w.heap.size → ¬ G a.block) (hev : ∀ e ∈ L, EvOk e)
    (hn : b.N.length + n ≤ 1000000) (at_ : Int) (hat : 0 ≤ at_ ∧ at_ ≤ 1048576) :
    Calls Try.prog 8 #[.pointer (some ⟨bb, 0, none⟩), .slice A n c, .int .i64 at_] w fun e w' => e = .returned (.int .i64 (asks at_ b.far b.O.length L)) ∧ BAt w' bb G k (if asks at_ b.far b.O.length L = 0 then dos at_ b L else b) ∧ Turn G w w' := by
  have HB := Lib.hid hb
  have HG0 := Lib.hid hG0
  have HOK := Lib.hid hok
  have HL := Lib.hid hL
  have HA := Lib.hid hA
  have HEv := Lib.hid hev
  have HN := Lib.hid hn
  have HAt := Lib.hid hat
  have hbs := hok.len
  have HO := Lib.hid hbs
  have HD := Lib.hid (doing_any w)
  have f1 : decide (at_ < 0) = false := decide_eq_false (by omega)
  have f2 : decide (1048576 < at_) = false := decide_eq_false (by omega)
  have hnn : n ≤ 1000000 := by omega
  obtain ⟨Z, hZ⟩ : ∃ Z, asks at_ b.far b.O.length L = Z := ⟨_, rfl⟩
  obtain ⟨bF, hbF⟩ : ∃ bF, (if asks at_ b.far b.O.length L = 0 then dos at_ b L else b) = bF := ⟨_, rfl⟩
  rw [hbF, hZ]
  rw [hZ] at hbF
  have HZe := Lib.hid hZ
  have HbF := Lib.hid hbF
  clear hb hG0 hok hL hA hev hn hat hbs hZ hbF
  go_enter Try.func8, Try.ntmps8
  go_wp2_with (first | (go_at_call 17; ((with_reducible refine HD.out.mono ?_); rintro e w1 ⟨mb, rfl, hm1, hu1, hmb⟩; have HM1 := Lib.hid hm1; have HU1 := Lib.hid hu1; have HMb := Lib.hid hmb; have HK := Lib.hid (asking_any w1 bb G k b (HB.out.up hu1) mb hm1 at_); clear hm1 hu1 hmb)) | (go_at_call 18; ((with_reducible refine HK.out.mono ?_); rintro e w2 ⟨Bd, Ba, Bf, Bo, Bc, rfl, hS, hu2, hbf, hbo⟩; have HS := Lib.hid hS; have HU2 := Lib.hid hu2; have HBf := Lib.hid hbf; have HBo := Lib.hid hbo; clear hS hu2 hbf hbo)))
  clear f1 f2
  have HP0 : Hid (Put1 w mb Bd Ba Bf Bo Bc at_ b L 0 w2) := Lib.hid ⟨⟨b.far, b.O.length, HS.out, ⟨HOK.out.lo, HOK.out.hi⟩, Nat.le_refl _, rfl⟩, HU1.out.trans HU2.out⟩
  have HBf0 : Hid (w.heap.size ≤ Bf ∧ w.heap.size ≤ Bo) := Lib.hid (by have := Below.size HU1.out; have := HBf.out; have := HBo.out; omega)
  clear HS HU2 HU1 HBf HBo HM1 HD HK
  go_loopg [10, 11, 29] n (fun g _ _ iv wr => ∃ i : Nat, g = n - i ∧ iv = .int .i64 (i : Nat) ∧ i ≤ n ∧ Hid (Put1 w mb Bd Ba Bf Bo Bc at_ b L i wr))
  case atStart => exact ⟨0, rfl, rfl, Nat.zero_le _, HP0⟩
  case round =>
    obtain ⟨i, hg, rfl, hi, HP⟩ := hrel
    have HG := Lib.hid hg
    clear hg
    by_cases hlt : i < n
    · have hii : (i : Int) < n := by omega
      obtain ⟨bl, ol, rfl, hbl, d0, d1, d2, d3⟩ := evs_ev (HL.out.up HP.out.up) i hlt
      have hil : i < L.length := by have := HL.out.len; omega
      have HLT0 := Lib.hid hlt
      obtain ⟨far, o, hS, hfar, ho, hask⟩ := HP.out.ask
      rw [drop_ev hil] at hask
      have hx := (ev_ok HEv.out hil).1
      obtain ⟨⟨x0, x1, x2, x3⟩, hxe⟩ : ∃ x, ev L i = x := ⟨_, rfl⟩
      rw [hxe] at d0 d1 d2 d3 hask hx
      dsimp only at d0 d1 d2 d3 hx
      have hua := Up.alloc wr (.cells #[.int .u8 x0, .int .u8 x1, .int .i64 x2, .int .i64 x3] 42)
      have HC := Lib.hid (ask_any _ mb Bd Ba Bf Bo Bc at_ far o (hS.up hua) HAt.out hfar (by have := HN.out; have := HO.out; have := HLT0.out; omega) x0 x1 x2 x3 hx)
      have HUa := Lib.hid (HP.out.up.trans hua)
      have HFar := Lib.hid hfar
      have HOo := Lib.hid ho
      have HAsk := Lib.hid hask
      have HLT := Lib.hid hlt
      clear hbl hil hS hfar ho hask hx hxe hua
      by_cases hz : askE far o at_ (x0, x1, x2, x3) = 0
      · have HZ := Lib.hid hz
        rw [hz] at HC
        clear hz
        go_wp2_with (go_at_call 24; ((with_reducible refine HC.out.mono ?_); rintro e w3 ⟨rfl, hs3, ht3⟩; have HS3 := Lib.hid (hs3 rfl); have HT3 := Lib.hid ht3; clear hs3 ht3))
        go_roundg (n - (i + 1))
        case measure => rw [HG.out]; have := HLT.out; omega
        case rel => exact ⟨i + 1, rfl, by go_num, by omega, Lib.hid ⟨⟨_, _, HS3.out, farE_in HFar.out HZ.out, opnE_le HOo.out, by rw [← HAsk.out, asks_step HZ.out]⟩, up_turnA HUa.out HBf0.out HT3.out⟩⟩
      · have HZ := Lib.hid (show asks at_ b.far b.O.length L = askE far o at_ (x0, x1, x2, x3) by rw [← HAsk.out, asks_end hz])
        have HNz := Lib.hid hz
        obtain ⟨z, hzz⟩ : ∃ z, askE far o at_ (x0, x1, x2, x3) = z := ⟨_, rfl⟩
        rw [hzz] at HC hz HNz HZ
        have f0 : (z == 0) = false := beq_false_of_ne hz
        clear hz hzz
        go_wp2_with (go_at_call 24; ((with_reducible refine HC.out.mono ?_); rintro e w3 ⟨rfl, -, ht3⟩; have HT3 := Lib.hid ht3; clear ht3))
        go_ret
        have hu3 := up_turnA HUa.out HBf0.out HT3.out
        have hzZ : z = Z := HZ.out.symm.trans HZe.out
        refine ⟨ret_int hzZ, ?_, Turn.of_up G hu3⟩
        rw [← HbF.out, ← hzZ, if_neg HNz.out]
        exact HB.out.up hu3
    · obtain ⟨V, rfl⟩ : ∃ V, V = wr := ⟨_, rfl⟩
      obtain rfl : i = n := by omega
      obtain ⟨far, o, hS, -, -, hask⟩ := HP.out.ask
      have hdr : L.drop i = [] := List.drop_eq_nil_of_le (by have := HL.out.len; omega)
      rw [hdr] at hask
      have hZ0 : Z = 0 := HZe.out.symm.trans hask.symm
      have HF : Hid (bF = dos at_ b L) := Lib.hid (by rw [← HbF.out, if_pos hZ0])
      have HZ0 := Lib.hid hZ0
      have HLs := Lib.hid (HL.out.up HP.out.up)
      obtain ⟨G2, hG2⟩ : ∃ G2 : Nat → Prop, G2 = fun x => (G x ∧ x < w.heap.size) ∨ V.heap.size ≤ x := ⟨_, rfl⟩
      have hsz := Below.size HP.out.up
      have HG2 : Hid (∀ x, G2 x ↔ ((G x ∧ x < w.heap.size) ∨ V.heap.size ≤ x)) := Lib.hid (fun x => by rw [hG2])
      have HA2 : Hid (∀ a, A = some a → 0 < i → a.block < V.heap.size → ¬ G2 a.block) := Lib.hid (fun a e h0 h1 h2 => by
        rcases (HG2.out _).1 h2 with h3 | h3
        · obtain ⟨b0, o0, e0, hb0, -⟩ := evs_ev HL.out 0 h0
          exact HA.out a e h0 h3.2 h3.1
        · omega)
      have HP2 : Hid (Put2 V bb G2 k mb at_ b L 0 V) := Lib.hid ⟨⟨b, (HB.out.cap.up HP.out.up).mono (fun x _ h => (HG2.out x).2 (.inl h)), HOK.out, Nat.le_refl _, HZe.out.trans hZ0, rfl⟩, hS.map, Turn.refl _ _⟩
      have HmG : Hid (¬ G2 mb) := Lib.hid (fun h => by
        have h1 := hS.map.lt
        have h2 := HMb.out
        rcases (HG2.out _).1 h with h3 | h3
        · omega
        · omega)
      have HT0 : Hid (∀ W, Turn G2 V W → BAt W bb G2 k bF → BAt W bb G k bF ∧ Turn G w W) := Lib.hid (fun W ht hb => by
        have hGG : ∀ x, G2 x → G x := fun x h => by
          rcases (HG2.out _).1 h with h3 | h3
          · exact h3.1
          · exact HG0.out x (by omega)
        exact ⟨hb.mono (fun x _ h => hGG x h), (Turn.of_up G HP.out.up).trans (ht.mono (fun x _ h => hGG x h))⟩)
      have f0 : decide (i < i) = false := decide_eq_false hlt
      have HZ0 := Lib.hid hZ0
      clear hlt hS hask hdr hZ0 hG2 hsz
      go_wp2
      go_loopg [13, 42] i (fun g _ iv wr => ∃ j : Nat, g = i - j ∧ iv = .int .i64 (j : Nat) ∧ j ≤ i ∧ Hid (Put2 V bb G2 k mb at_ b L j wr))
      case atStart => exact ⟨0, rfl, rfl, Nat.zero_le _, HP2⟩
      case round =>
        obtain ⟨j, hg, rfl, hj, HQ⟩ := hrel
        have HGh := Lib.hid hg
        clear hg
        by_cases hlt : j < i
        · have hii : (j : Int) < i := by omega
          obtain ⟨b', hb', hok', hN', hask', hdos'⟩ := HQ.out.at_
          obtain ⟨bl, ol, rfl, hbl, d0, d1, d2, d3⟩ := evs_ev (HLs.out.turn HQ.out.turn HA2.out) j hlt
          have hjl : j < L.length := by have := HLs.out.len; omega
          rw [drop_ev hjl] at hask' hdos'
          have hx := ev_ok HEv.out hjl
          obtain ⟨⟨x0, x1, x2, x3⟩, hxe⟩ : ∃ x, ev L j = x := ⟨_, rfl⟩
          rw [hxe] at d0 d1 d2 d3 hask' hdos' hx
          dsimp only at d0 d1 d2 d3
          obtain ⟨ha1, ha2⟩ := asks_cons hask'
          obtain ⟨k0, k1, k2, k3, k4⟩ := askE_ok ha1
          have HOk2 := Lib.hid (hok'.step hx ha1)
          have HAsk2 := Lib.hid ha2
          have HDos2 : Hid (dos at_ (doE at_ b' (x0, x1, x2, x3)) (L.drop (j + 1)) = dos at_ b L) := Lib.hid hdos'
          have HN2 := Lib.hid hN'
          have HTn := Lib.hid HQ.out.turn
          have HMap := Lib.hid HQ.out.map
          dsimp only at k0 k1 k2 k3 k4
          have q2 : IntKind.i64.wrap (at_ + x2) = at_ + x2 := IntWalk.i64_in _ (by have := hok'.lo; omega)
          have h3 : x0 = 3 → IntKind.i64.wrap (at_ + x3) = at_ + x3 := fun e => IntWalk.i64_in _ (by have := k3 e; have := hok'.lo; omega)
          obtain ⟨y, hy⟩ : ∃ y, IntKind.i64.wrap (at_ + x3) = y := ⟨_, rfl⟩
          rw [hy] at h3
          have hua := Up.alloc wr (.cells #[.int .u8 x0, .int .u8 x1, .int .i64 (at_ + x2), .int .i64 y] 42)
          have hmap := HQ.out.map.up hua
          have hbu := hb'.up hua
          have hg1 : ∀ x, (wr.alloc (.cells #[.int .u8 x0, .int .u8 x1, .int .i64 (at_ + x2), .int .i64 y] 42)).heap.size ≤ x → G2 x := fun x h => (HG2.out x).2 (.inr (by have := Below.size hua; have := HTn.out.size; omega))
          have hb1 : b'.N.length ≤ 1000000 := by have := HN.out; omega
          have hle := hok'.len
          have HLT := Lib.hid hlt
          clear hbl hxe hask' hdos' ha1 ha2 hN' hx hjl HQ k1 k2 hua
          rcases k0 with rfl | rfl | rfl
          · have hl := hmap.look (x := 1) (by decide)
            rw [fnOf_one] at hl
            have HC := Lib.hid (show Calls Try.prog 20 #[.pointer (some ⟨bb, 0, none⟩), .agg #[.int .u8 1, .int .u8 x1, .int .i64 (at_ + x2), .int .i64 y]] _ (Done1 _ bb G2 k (doE at_ b' (1, x1, x2, x3))) from begin_any _ bb G2 k b' hbu hg1 hok'.lt hb1 hle 1 x1 (at_ + x2) y)
            clear hmap
            go_wp2_with (go_at_call 20; ((with_reducible refine HC.out.mono ?_); rintro e w5 ⟨rfl, hb5, ht5⟩; have HB5 := Lib.hid hb5; have HT5 := Lib.hid ht5; clear hb5 ht5))
            go_roundg (i - (j + 1))
            case measure => rw [HGh.out]; have := HLT.out; omega
            case rel => exact ⟨j + 1, rfl, by go_num, by omega, Lib.hid ⟨⟨_, HB5.out, HOk2.out, Nat.le_trans doE_N (by have := HN2.out; omega), HAsk2.out, HDos2.out⟩, (HMap.out.up (Up.alloc wr _)).turn HT5.out HmG.out, (HTn.out.trans (Turn.alloc G2 wr _)).trans HT5.out⟩⟩
          · have hl := hmap.look (x := 2) (by decide)
            rw [fnOf_two] at hl
            have HC := Lib.hid (show Calls Try.prog 21 #[.pointer (some ⟨bb, 0, none⟩), .agg #[.int .u8 2, .int .u8 x1, .int .i64 (at_ + x2), .int .i64 y]] _ (Done1 _ bb G2 k (doE at_ b' (2, x1, x2, x3))) from end_any _ bb G2 k b' hbu (k4 rfl) hok'.lt hb1 hle 2 x1 (at_ + x2) y)
            clear hmap
            go_wp2_with (go_at_call 21; ((with_reducible refine HC.out.mono ?_); rintro e w5 ⟨rfl, hb5, ht5⟩; have HB5 := Lib.hid hb5; have HT5 := Lib.hid ht5; clear hb5 ht5))
            go_roundg (i - (j + 1))
            case measure => rw [HGh.out]; have := HLT.out; omega
            case rel => exact ⟨j + 1, rfl, by go_num, by omega, Lib.hid ⟨⟨_, HB5.out, HOk2.out, Nat.le_trans doE_N (by have := HN2.out; omega), HAsk2.out, HDos2.out⟩, (HMap.out.up (Up.alloc wr _)).turn HT5.out HmG.out, (HTn.out.trans (Turn.alloc G2 wr _)).trans HT5.out⟩⟩
          · have hy3 := h3 rfl
            subst hy3
            have hl := hmap.look (x := 3) (by decide)
            rw [fnOf_three] at hl
            have HC := Lib.hid (show Calls Try.prog 22 #[.pointer (some ⟨bb, 0, none⟩), .agg #[.int .u8 3, .int .u8 x1, .int .i64 (at_ + x2), .int .i64 (at_ + x3)]] _ (Done1 _ bb G2 k (doE at_ b' (3, x1, x2, x3))) from leaf_any _ bb G2 k b' hbu hg1 hok'.lt hb1 hle 3 x1 (at_ + x2) (at_ + x3))
            clear hmap
            go_wp2_with (go_at_call 22; ((with_reducible refine HC.out.mono ?_); rintro e w5 ⟨rfl, hb5, ht5⟩; have HB5 := Lib.hid hb5; have HT5 := Lib.hid ht5; clear hb5 ht5))
            go_roundg (i - (j + 1))
            case measure => rw [HGh.out]; have := HLT.out; omega
            case rel => exact ⟨j + 1, rfl, by go_num, by omega, Lib.hid ⟨⟨_, HB5.out, HOk2.out, Nat.le_trans doE_N (by have := HN2.out; omega), HAsk2.out, HDos2.out⟩, (HMap.out.up (Up.alloc wr _)).turn HT5.out HmG.out, (HTn.out.trans (Turn.alloc G2 wr _)).trans HT5.out⟩⟩
        · obtain rfl : j = i := by omega
          obtain ⟨b', hb', -, -, -, hdos'⟩ := HQ.out.at_
          rw [List.drop_eq_nil_of_le (by have := HLs.out.len; omega)] at hdos'
          have HE := Lib.hid (show b' = bF from hdos'.trans HF.out.symm)
          have HBn := Lib.hid hb'
          have HTn := Lib.hid HQ.out.turn
          have f0 : decide (j < j) = false := decide_eq_false hlt
          clear hlt hb' hdos'
          go_wp2
          go_ret
          refine ⟨ret_int HZ0.out.symm, HT0.out _ HTn.out (HE.out ▸ HBn.out)⟩
end Go.Proofs.Ytkkefgbmdghklaa
