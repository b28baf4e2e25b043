/- The document's Blank, outside, parted, Last, behind. -/
import Derived.Test.YtiamanaiineglaaDoorMkMath
import Derived.Test.YtiamanaiineglaaDoorLnEnd
import Derived.Deep.RegionLaw
import Derived.Laws.Rows
namespace Go.Proofs.YtiamanaiineglaaDoor
open Go.RowKit

def DrN (w w' : World) : Prop := ∃ m, w' = w.drewN m
theorem DrN.refl (w : World) : DrN w w := ⟨0, rfl⟩
theorem DrN.drew {w w' : World} (h : DrN w w') : DrN w w'.drew := by obtain ⟨m, rfl⟩ := h; exact ⟨m + 1, rfl⟩
theorem DrN.trans {a b c : World} (h : DrN a b) (k : DrN b c) : DrN a c := by
  obtain ⟨m, rfl⟩ := h
  obtain ⟨j, rfl⟩ := k
  exact ⟨m + j, by rw [World.drewN_drewN]⟩
theorem DrN.up {w w' : World} (h : DrN w w') : Up w w' := by obtain ⟨m, rfl⟩ := h; exact Up.drewN w m
/-- A contract of a function that leaves the world as it was, where a walk is quiet. -/
theorem quietE {f : FuncId} {args : Array Value} {w : World} {n : Nat} {v : Value} (h : Calls Tryd.prog f args (w.drewN n) fun e w' => e = .returned v ∧ w.drewN n = w') : Calls Tryd.prog f args (w.drewN n) fun e w'' => e = .returned v ∧ ∃ m, w'' = w.drewN m :=
  h.mono fun _ _ ⟨he, hm⟩ => ⟨he, n, hm.symm⟩
theorem quietD {f : FuncId} {args : Array Value} {w : World} {n : Nat} {v : Value} (h : Calls Tryd.prog f args (w.drewN n) fun e w' => e = .returned v ∧ DrN (w.drewN n) w') : Calls Tryd.prog f args (w.drewN n) fun e w'' => e = .returned v ∧ ∃ m, w'' = w.drewN m := by
  refine h.mono fun _ _ ⟨he, m, hm⟩ => ⟨he, n + m, ?_⟩
  rw [hm, World.drewN_drewN]
theorem own_size (s : ByteArray) : (ownB s).size = endL (bl s) := by
  have h1 := congrArg List.length (ownB_bl s)
  have h2 := endL_le (bl s)
  rw [bl_len, List.length_take, bl_len] at h1
  rw [bl_len] at h2
  omega
theorem own_le (s : ByteArray) : (ownB s).size ≤ s.size := by
  have h2 := endL_le (bl s)
  rw [bl_len] at h2
  rw [own_size]
  exact h2
theorem own_bt {s : ByteArray} {i : Nat} (h : i < (ownB s).size) : bt s i = bt (ownB s) i := by
  have h1 := own_le s
  rw [own_size] at h h1
  have h2 : i < s.size := by omega
  have := bt_ext_in (s := s) (a := 0) (c := endL (bl s)) (i := i) (by omega) (by omega)
  rw [Nat.zero_add] at this
  exact this.symm
theorem endO_any (s : ByteArray) (w : World) (hs : (s.size : Int) ≤ 1000000) : Calls Tryd.prog 25 #[.string s] w fun e w' => e = .returned (.int .i64 ((ownB s).size : Nat)) ∧ w = w' := by
  rw [own_size]
  exact end_any s w (by omega)
set_option maxRecDepth 100000 in
theorem rbk_any (c : Nat) (w : World) : Calls Tryd.prog 24 #[.int .u8 (c : Nat)] w fun e w' => e = .returned (.bool (bk c)) ∧ w = w' := by
  by_cases h32 : c = 32
  · subst h32
    go_enter Tryd.func24, Tryd.ntmps24
    go_wp2
    go_ret
    exact ⟨rfl, rfl⟩
  have n1 : ((c : Int) == 32) = false := beq_eq_false_iff_ne.2 (by omega)
  by_cases h9 : c = 9
  · subst h9
    clear h32
    go_enter Tryd.func24, Tryd.ntmps24
    go_wp2
    go_ret
    exact ⟨rfl, rfl⟩
  have n2 : ((c : Int) == 9) = false := beq_eq_false_iff_ne.2 (by omega)
  have e : bk c = false := by unfold bk; rw [beq_eq_false_iff_ne.2 h32, beq_eq_false_iff_ne.2 h9]; rfl
  rw [e]
  clear h32 h9 e
  go_enter Tryd.func24, Tryd.ntmps24
  go_wp2
  go_ret
  exact ⟨rfl, rfl⟩
/-- Is a place one of a line's bytes, ahead of its end? -/
def outE (s : ByteArray) (a : Int) : Bool := decide (a < 0 ∨ ((ownB s).size : Int) ≤ a)
set_option maxRecDepth 100000 in
theorem rOut_any (s : ByteArray) (a : Int) (w : World) (hs : (s.size : Int) ≤ 1000000) : Calls Tryd.prog 33 #[.string s, .int .i64 a] w fun e w' => e = .returned (.bool (outE s a)) ∧ w = w' := by
  have HE := Lib.hid (fun W => endO_any s W hs)
  obtain ⟨E, hE⟩ : ∃ E : Int, ((ownB s).size : Int) = E := ⟨_, rfl⟩
  unfold outE
  rw [hE] at HE ⊢
  clear hE hs
  by_cases h0 : a < 0
  · rw [decide_eq_true (.inl h0)]
    go_enter Tryd.func33, Tryd.ntmps33
    go_wp2
    go_ret
    exact ⟨rfl, rfl⟩
  have g0 : decide (a < 0) = false := decide_eq_false h0
  by_cases h1 : E ≤ a
  · rw [decide_eq_true (.inr h1)]
    clear h0
    go_enter Tryd.func33, Tryd.ntmps33
    go_wp2_with (go_at_call 25; ((with_reducible refine (HE.out _).mono ?_); rintro e1 w1 ⟨rfl, rfl⟩))
    go_ret
    exact ⟨rfl, rfl⟩
  have g1 : decide (E ≤ a) = false := decide_eq_false h1
  rw [decide_eq_false (show ¬ (a < 0 ∨ E ≤ a) from fun h => h.elim h0 h1)]
  clear h0 h1
  go_enter Tryd.func33, Tryd.ntmps33
  go_wp2_with (go_at_call 25; ((with_reducible refine (HE.out _).mono ?_); rintro e1 w1 ⟨rfl, rfl⟩))
  go_ret
  exact ⟨rfl, rfl⟩
theorem blo_drop {s : ByteArray} {p E : Nat} (hE : (ownB s).size = E) (h : p < E) : (bl (ownB s)).drop p = bt s p :: (bl (ownB s)).drop (p + 1) := by
  rw [own_bt (by omega)]
  exact bl_drop (by omega)
set_option maxRecDepth 100000 in
theorem rPart_any (s : ByteArray) (p : Nat) (w : World) (hs : (s.size : Int) ≤ 1000000) (hp : p ≤ (ownB s).size) : Calls Tryd.prog 38 #[.string s, .int .i64 (p : Nat)] w fun e w' => e = .returned (.bool (ptL ((bl (ownB s)).drop p))) ∧ w = w' := by
  have HE := Lib.hid (fun W => endO_any s W hs)
  have HB := Lib.hid (fun c W => rbk_any c W)
  have hO := own_le s
  obtain ⟨E, hE⟩ : ∃ E, (ownB s).size = E := ⟨_, rfl⟩
  rw [hE] at HE hp hO
  by_cases h1 : E ≤ p
  · have : (bl (ownB s)).drop p = [] := bl_end (by omega)
    rw [this]
    obtain rfl : p = E := by omega
    clear hE hO hp hs this h1
    go_enter Tryd.func38, Tryd.ntmps38
    go_wp2_with (go_at_call 25; ((with_reducible refine (HE.out _).mono ?_); rintro e1 w1 ⟨rfl, rfl⟩))
    go_ret
    exact ⟨rfl, rfl⟩
  rw [blo_drop hE (by omega)]
  have hps : p < s.size := by omega
  obtain ⟨x, hx0⟩ : ∃ x, bt s p = x := ⟨_, rfl⟩
  have hx : s[p].toNat = x := by rw [bt_eq hps]; exact hx0
  rw [hx0]
  have p0 : (0 : Int) ≤ (p : Int) := by omega
  have p1 : (p : Int) < s.size := by omega
  have g1 : decide (E ≤ p) = false := decide_eq_false h1
  show Calls _ _ _ _ fun e w' => e = .returned (.bool (bk x)) ∧ w = w'
  clear hE hO hp hs h1 hx0
  go_enter Tryd.func38, Tryd.ntmps38
  go_wp2_with (first
    | (go_at_call 25; ((with_reducible refine (HE.out _).mono ?_); rintro e1 w1 ⟨rfl, rfl⟩))
    | (go_at_call 24; ((with_reducible refine (HB.out x _).mono ?_); rintro e2 w2 ⟨rfl, rfl⟩)))
  go_ret
  exact ⟨rfl, rfl⟩
theorem tk_snoc {X : List Nat} {p k : Nat} {c : Nat} (hp : p ≤ k) (hc : X[k]? = some c) : (X.take (k + 1)).drop p = (X.take k).drop p ++ [c] := by
  rw [List.take_add_one, hc, Option.toList_some, List.drop_append_of_le_length]
  rw [List.length_take]
  have : k < X.length := (List.getElem?_eq_some_iff.1 hc).1
  omega
theorem tk_len {X : List Nat} {p k : Nat} (hk : k ≤ X.length) : ((X.take k).drop p).length = k - p := by
  rw [List.length_drop, List.length_take]; omega
set_option maxRecDepth 100000 in
set_option maxHeartbeats 2000000 in
theorem rLast_any (s : ByteArray) (p : Nat) (w : World) (hs : (s.size : Int) ≤ 1000000) (hp : p ≤ (ownB s).size) :
    Calls Tryd.prog 34 #[.string s, .int .i64 (p : Nat)] w fun e w' => e = .returned (.int .i64 ((p + laL ((bl (ownB s)).drop p) : Nat) : Int)) ∧ w = w' := by
  obtain ⟨V, hV⟩ : ∃ V, p + laL ((bl (ownB s)).drop p) = V := ⟨_, rfl⟩
  rw [hV]
  have HE := Lib.hid (fun W => endO_any s W hs)
  have HB := Lib.hid (fun c W => rbk_any c W)
  have hO := own_le s
  have HX := Lib.hid (fun i (h : i < (ownB s).size) => own_bt h)
  obtain ⟨X, hX⟩ : ∃ X, bl (ownB s) = X := ⟨_, rfl⟩
  have hl : X.length = (ownB s).size := by rw [← hX, bl_len]
  have HXA := Lib.hid (fun i (h : i < (ownB s).size) => show X[i]? = some (bt s i) by rw [← hX, own_bt h]; exact bl_at h)
  obtain ⟨E, hE⟩ : ∃ E, (ownB s).size = E := ⟨_, rfl⟩
  rw [hE] at HE hp hO HX HXA hl
  have HV := Lib.hid (show p + laL ((X.take E).drop p) = V by rw [← hl, List.take_length, ← hX]; exact hV)
  have HS := Lib.hid (And.intro hs hO)
  have HL := Lib.hid hl
  have HP := Lib.hid hp
  clear hV hX hl hE hs hO hp
  go_enter Tryd.func34, Tryd.ntmps34
  go_wp2_with (go_at_call 25; ((with_reducible refine (HE.out _).mono ?_); rintro e1 w1 ⟨rfl, rfl⟩))
  go_loopg [5] (E - p) (fun g tv wr => w = wr ∧ ∃ q : Nat, g = q - p ∧ tv = .int .i64 (q : Nat) ∧ Hid (p ≤ q ∧ q ≤ E) ∧ Hid (p + laL ((X.take q).drop p) = V))
  case atStart => exact ⟨rfl, E, rfl, rfl, Lib.hid ⟨HP.out, Nat.le_refl _⟩, HV⟩
  case round =>
    clear HV
    obtain ⟨rfl, q, hg, rfl, HQ, HR⟩ := hrel
    have HG := Lib.hid hg
    clear hg
    by_cases hlt : p < q
    · obtain ⟨k, rfl⟩ : ∃ k, q = k + 1 := ⟨q - 1, by omega⟩
      have hpk : p ≤ k := by omega
      have hkE : k < E := by have := HQ.out; omega
      have hks : k < s.size := by have := HS.out.2; omega
      obtain ⟨x, hx0⟩ : ∃ x, bt s k = x := ⟨_, rfl⟩
      have hx : s[k].toNat = x := by rw [bt_eq hks]; exact hx0
      have hR := HR.out
      rw [tk_snoc hpk (by rw [HXA.out k hkE, hx0]), laL_snoc, tk_len (by rw [HL.out]; omega)] at hR
      have hlt2 : (p : Int) < ((k + 1 : Nat) : Int) := by omega
      have k0 : (0 : Int) ≤ (k : Int) := by omega
      have k1 : (k : Int) < s.size := by omega
      have e2 : wrap64 (k : Int) = (k : Nat) := IntWalk.wrap64_in _ (by have := HS.out.1; omega)
      have HBk := Lib.hid (And.intro hpk hkE)
      cases hb : bk x with
      | true =>
        rw [hb, if_pos rfl] at hR
        have HR2 := Lib.hid hR
        have HB1 := Lib.hid (fun W => by have h := HB.out x W; rw [hb] at h; exact h)
        clear hb hx0 hR hpk hkE
        go_wp2_with (go_at_call 24; ((with_reducible refine (HB1.out _).mono ?_); rintro e3 w3 ⟨rfl, rfl⟩))
        go_roundg (k - p)
        case measure => rw [HG.out]; omega
        case rel => exact ⟨rfl, k, rfl, by go_num, Lib.hid ⟨HBk.out.1, by have := HBk.out.2; omega⟩, HR2⟩
      | false =>
        rw [hb, if_neg (by decide)] at hR
        have HR2 := Lib.hid (show k + 1 = V by omega)
        have HB1 := Lib.hid (fun W => by have h := HB.out x W; rw [hb] at h; exact h)
        clear hb hx0 hR hpk hkE
        go_wp2_with (go_at_call 24; ((with_reducible refine (HB1.out _).mono ?_); rintro e3 w3 ⟨rfl, rfl⟩))
        go_ret
        exact ⟨ret_int (by have := HR2.out; omega), rfl⟩
    · obtain rfl : q = p := by have := HQ.out; omega
      have hR := HR.out
      rw [List.drop_of_length_le (by rw [List.length_take]; omega)] at hR
      have HR2 := Lib.hid (show q = V from hR)
      clear hR hlt
      go_wp2
      go_ret
      exact ⟨ret_int (by rw [← HR2.out]), rfl⟩
set_option maxRecDepth 100000 in
set_option maxHeartbeats 2000000 in
theorem rBehind_any (s : ByteArray) (p : Nat) (c : Nat) (w : World) (hs : (s.size : Int) ≤ 1000000) (hp : p < (ownB s).size) (hc : bt s p = c) :
    Calls Tryd.prog 37 #[.string s, .int .i64 (p : Nat)] w fun e w' => e = .returned (.int .i64 ((p + rwL (· == c) ((bl (ownB s)).drop p) : Nat) : Int)) ∧ DrN w w' := by
  obtain ⟨V, hV⟩ : ∃ V, p + rwL (· == c) ((bl (ownB s)).drop p) = V := ⟨_, rfl⟩
  rw [hV]
  have HE := Lib.hid (fun W => endO_any s W hs)
  have hO := own_le s
  obtain ⟨E, hE⟩ : ∃ E, (ownB s).size = E := ⟨_, rfl⟩
  have HD := Lib.hid (fun i (h : i < E) => blo_drop hE h)
  have HN := Lib.hid (show (bl (ownB s)).drop E = [] from bl_end (by omega))
  obtain ⟨X, hX⟩ : ∃ X, bl (ownB s) = X := ⟨_, rfl⟩
  rw [hX] at HD HN hV
  rw [hE] at HE hp hO
  have HV := Lib.hid hV
  have hps : p < s.size := by omega
  have hx0 : s[p].toNat = c := by rw [bt_eq hps]; exact hc
  have p0 : (0 : Int) ≤ (p : Int) := by omega
  have p1 : (p : Int) < s.size := by omega
  have HS := Lib.hid (And.intro hs hO)
  have HP := Lib.hid hp
  clear hV hX hE hs hO hp hc
  go_enter Tryd.func37, Tryd.ntmps37
  go_wp2
  go_loopg [5] (E - p) (fun g tv wr => ∃ q : Nat, g = E - q ∧ tv = .int .i64 (q : Nat) ∧ Hid (q ≤ E) ∧ Hid (q + rwL (· == c) (X.drop q) = V) ∧ Hid (DrN w wr))
  case atStart => exact ⟨p, rfl, rfl, Lib.hid (by have := HP.out; omega), HV, Lib.hid (DrN.refl _)⟩
  case round =>
    clear HV
    obtain ⟨q, hg, rfl, HQ, HR, HU⟩ := hrel
    have HG := Lib.hid hg
    have HU2 := Lib.hid HU.out.drew
    have HR0 := Lib.hid HU.out
    clear hg HU
    by_cases hlt : q < E
    · have hks : q < s.size := by have := HS.out.2; omega
      obtain ⟨x, hx1⟩ : ∃ x, bt s q = x := ⟨_, rfl⟩
      have hx : s[q].toNat = x := by rw [bt_eq hks]; exact hx1
      have hR := HR.out
      rw [HD.out q hlt, rwL_cons, hx1] at hR
      have k0 : (0 : Int) ≤ (q : Int) := by omega
      have k1 : (q : Int) < s.size := by omega
      have k2 : (q : Int) < (E : Int) := by omega
      have HBk := Lib.hid hlt
      have e1 : IntKind.i64.wrap ((q : Int) + 1) = (q : Int) + 1 := IntWalk.i64_in _ (by have := HS.out.1; omega)
      by_cases hxc : x = c
      · rw [if_pos (by simpa using hxc)] at hR
        have hqq : ((x : Int) == (c : Int)) = true := by rw [hxc]; exact beq_self_eq_true _
        have HR2 := Lib.hid (show q + 1 + rwL (· == c) (X.drop (q + 1)) = V by omega)
        clear hR hx1 hxc hlt
        go_wp2
        go_region_held3 (fun w' => DrN w w')
          (first | assumption | with_reducible exact DrN.drew (by assumption))
          (first | (go_at_call 25; ((with_reducible refine (HE.out _).mono ?_); rintro e1 w1 ⟨rfl, rfl⟩)))
        all_goals
          go_wp2
          go_roundg (E - (q + 1))
          case measure => rw [HG.out]; have := HBk.out; omega
          case rel => exact ⟨q + 1, rfl, by go_num, Lib.hid HBk.out, HR2, HU2⟩
      · rw [if_neg (by simpa using hxc)] at hR
        have hqq : ((x : Int) == (c : Int)) = false := beq_eq_false_iff_ne.2 (by omega)
        have HR2 := Lib.hid (show q = V by omega)
        clear hR hx1 hxc hlt
        go_wp2
        go_region_held3 (fun w' => DrN w w')
          (first | assumption | with_reducible exact DrN.drew (by assumption))
          (first | (go_at_call 25; ((with_reducible refine (HE.out _).mono ?_); rintro e1 w1 ⟨rfl, rfl⟩)))
        all_goals
          go_wp2
          go_ret
          exact ⟨ret_int (by rw [← HR2.out]), HU2.out⟩
    · have hq : q = E := by have := HQ.out; omega
      have hR := HR.out
      rw [hq, HN.out] at hR
      have HR2 := Lib.hid (show q = V from hq.trans hR)
      have f1 : ¬ ((q : Int) < (E : Int)) := by omega
      have f2 : decide ((q : Int) < (E : Int)) = false := decide_eq_false f1
      have f3 : decide (q < E) = false := decide_eq_false hlt
      clear hR hq f1 hlt
      go_wp2
      have HU4 := Lib.hid (fun m => HR0.out.trans ⟨m, rfl⟩)
      go_quiet (first | (go_at_call 25; with_reducible exact quietE (HE.out _)))
      go_wp2
      go_ret
      exact ⟨ret_int (by rw [← HR2.out]), HU4.out _⟩
end Go.Proofs.YtiamanaiineglaaDoor
