/- The program's stack: a tree of a row of leaves. -/
import Derived.Test.YtcbmigkdmmmahaaDoorStackMath
import Derived.Test.YtcbmigkdmmmahaaDoorLevelAny
namespace Go.Proofs.YtcbmigkdmmmahaaDoor
open Go.RowKit

/-- A row of pointers to leaves. -/
def LeafRow (w : World) (b off : Nat) (ts : List ByteArray) : Prop := ∀ i x, ts[i]? = some x → ∃ c, w.cell? ⟨b, off + i, none⟩ = some (.pointer (some ⟨c, 0, none⟩)) ∧ Node w (.leaf x) c
theorem LeafRow.up {w w' : World} {b off : Nat} {ts : List ByteArray} (h : LeafRow w b off ts) (hu : Up w w') : LeafRow w' b off ts := fun i x hx => by
  obtain ⟨c, h1, h2⟩ := h i x hx
  exact ⟨c, cell_up hu h1, h2.up hu⟩
def StkPost (ts : List ByteArray) (w : World) (e : Ending) (w' : World) : Prop := ∃ t, StkSpec ts t ∧ NewT t w e w'

set_option maxRecDepth 100000 in
set_option maxHeartbeats 1000000 in
theorem stack_two (w : World) (b off len cap h : Nat) (l m : List ByteArray) (hT : Tabs w) (h2 : (2 : Int) ≤ len) (hc : (len : Int) ≤ cap) (hc2 : (cap : Int) ≤ 9223372036854775807) (hh : (len : Int) / 2 = h)
    (P1 : ∀ W, Up w W → Tabs W → Calls Tryd.prog 41 #[.slice (some ⟨b, off, none⟩) h cap] W (StkPost l W))
    (P2 : ∀ W, Up w W → Tabs W → Calls Tryd.prog 41 #[.slice (some ⟨b, off + h, none⟩) (len - h) (cap - h)] W (StkPost m W))
    (P3 : ∀ W b1 b2 ta tb, Up w W → Tabs W → StkSpec l ta → StkSpec m tb → Node W ta b1 → Node W tb b2 → Calls Tryd.prog 46 #[.pointer (some ⟨b1, 0, none⟩), .pointer (some ⟨b2, 0, none⟩)] W (NewT (.node ta tb) W))
    (h3 : ∀ ta tb, StkSpec l ta → StkSpec m tb → StkSpec (l ++ m) (.node ta tb)) :
    Calls Tryd.prog 41 #[.slice (some ⟨b, off, none⟩) len cap] w (StkPost (l ++ m) w) := by
  have HP1 := Lib.hid P1
  have HP2 := Lib.hid P2
  have HP3 := Lib.hid P3
  have H3 := Lib.hid h3
  have z0 : ((len : Int) == 0) = false := by simp; omega
  have z1 : ((len : Int) == 1) = false := by simp; omega
  have b0 : (0 : Int) ≤ h := by omega
  have b1 : (h : Int) ≤ len := by omega
  have b2 : (h : Int) ≤ cap := by omega
  clear P1 P2 P3 h3
  go_enter Tryd.func41, Tryd.ntmps41
  go_wp2_with fail
  have hS : Up w w ∧ Tabs w := ⟨Up.refl w, hT⟩
  go_region_held3 (fun w' => Up w w' ∧ Tabs w')
    (first | assumption | with_reducible exact keep0 hu3 (by assumption) | with_reducible exact keep0 hu2 (by assumption) | with_reducible exact keep0 hu1 (by assumption) | with_reducible exact keep0 (Up.drew _) (by assumption))
    (first | (go_at_call 41; ((with_reducible refine (HP1.out _ ?_ ?_).mono ?_); (exact (by assumption : _ ∧ Tabs _).1); (exact (by assumption : _ ∧ Tabs _).2); rintro e w1 ⟨t1, hs1, g1, rfl, hn1, hu1⟩)) | (go_at_call 41; ((with_reducible refine (HP2.out _ ?_ ?_).mono ?_); (exact (by assumption : _ ∧ Tabs _).1); (exact (by assumption : _ ∧ Tabs _).2); rintro e w2 ⟨t2, hs2, g2, rfl, hn2, hu2⟩)) | (go_at_call 46; ((with_reducible refine (HP3.out _ _ _ _ _ ?_ ?_ hs1 hs2 ?_ ?_).mono ?_); (exact (by assumption : _ ∧ Tabs _).1); (exact (by assumption : _ ∧ Tabs _).2); (exact hn1.up hu2); (exact hn2); rintro e w3 ⟨g3, rfl, hn3, hu3⟩)))
  have HF := Lib.hid (by assumption : Up w w3 ∧ _).1
  go_wp2
  go_ret
  exact ⟨_, H3.out _ _ hs1 hs2, g3, rfl, hn3, HF.out⟩

set_option maxRecDepth 100000 in
set_option maxHeartbeats 1000000 in
theorem stack_one (w : World) (b off cap c : Nat) (x : ByteArray) (h0 : w.cell? ⟨b, off, none⟩ = some (.pointer (some ⟨c, 0, none⟩))) (hn : Node w (.leaf x) c) :
    Calls Tryd.prog 41 #[.slice (some ⟨b, off, none⟩) 1 cap] w (StkPost [x] w) := by
  have HN := Lib.hid hn
  clear hn
  go_enter Tryd.func41, Tryd.ntmps41
  go_wp2
  go_ret
  exact ⟨_, stk_one x, c, rfl, HN.out, Up.refl _⟩

theorem stack_any : ∀ (n : Nat) (ts : List ByteArray) (b off cap : Nat) (w : World), ts.length = n → 1 ≤ n → n ≤ cap → (cap : Int) ≤ 9223372036854775807 → (2 ≤ n → ∀ x ∈ ts, Piece x) → ((cat ts).size : Int) ≤ 1048576 → Tabs w → LeafRow w b off ts →
    Calls Tryd.prog 41 #[.slice (some ⟨b, off, none⟩) n cap] w (StkPost ts w) := by
  intro n
  induction n using Nat.strongRecOn with
  | ind n ih =>
    intro ts b off cap w hl h1 hcap hc2 hp hs hT hrow
    by_cases e : n = 1
    · subst e
      match ts, hl with
      | [x], _ =>
        obtain ⟨c, hc, hn⟩ := hrow 0 x rfl
        exact stack_one w b off cap c x hc hn
    · have hpp := hp (by omega)
      have hcp := cat_pieces hpp
      obtain ⟨l, m, rfl, hll⟩ : ∃ l m, ts = l ++ m ∧ l.length = n / 2 := ⟨ts.take (n / 2), ts.drop (n / 2), (List.take_append_drop _ _).symm, by rw [List.length_take]; omega⟩
      rw [List.length_append] at hl
      have hlm : m.length = n - n / 2 := by omega
      rw [cat_append, ByteArray.size_append] at hs
      have hpl : ∀ x ∈ l, Piece x := fun x hx => hpp x (List.mem_append.2 (.inl hx))
      have hpm : ∀ x ∈ m, Piece x := fun x hx => hpp x (List.mem_append.2 (.inr hx))
      have rl : LeafRow w b off l := fun i x hx => hrow i x (by rw [List.getElem?_append_left (List.getElem?_eq_some_iff.1 hx).1]; exact hx)
      have rm : LeafRow w b (off + n / 2) m := fun i x hx => by
        have := hrow (n / 2 + i) x (by rw [List.getElem?_append_right (by omega), hll, show n / 2 + i - n / 2 = i from by omega]; exact hx)
        rw [Nat.add_assoc]; exact this
      refine stack_two w b off n cap (n / 2) l m hT (by omega) (by omega) hc2 (by omega)
        (fun W hu ht => ih (n / 2) (by omega) l b off cap W hll (by omega) (by omega) hc2 (fun _ => hpl) (by omega) ht (rl.up hu))
        (fun W hu ht => ih (n - n / 2) (by omega) m b (off + n / 2) (cap - n / 2) W hlm (by omega) (by omega) (by omega) (fun _ => hpm) (by omega) ht (rm.up hu))
        (fun W b1 b2 ta tb hu ht sa sb n1 n2 => pair_big n1 n2 (sa.2.2.1 hpl) (sb.2.2.1 hpm) (by rw [sa.1, sb.1]; omega) ht)
        (fun ta tb sa sb => stk_two sa sb (by omega) (by omega))

set_option maxHeartbeats 1000000 in
theorem stack_nil (w : World) : Calls Tryd.prog 41 #[.slice none 0 0] w fun e w' => e = .returned (.pointer none) ∧ w = w' := by
  go_enter Tryd.func41, Tryd.ntmps41
  go_wp2
  go_ret
  exact ⟨rfl, rfl⟩
end Go.Proofs.YtcbmigkdmmmahaaDoor
