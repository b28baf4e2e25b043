/- The program's cut, at every place of every tree that is in form. -/
import Derived.Test.YtcbmigkdmmmahaaDoorCut
namespace Go.Proofs.YtcbmigkdmmmahaaDoor
open Go.RowKit

theorem bt_ext_in {s : ByteArray} {a c i : Nat} (h1 : a + i < c) (h2 : c ≤ s.size) : bt (s.extract a c) i = bt s (a + i) := by
  have := bt_extract (s := s) (a := a) (n := c - a) (i := i) (by omega) (by omega)
  rw [show a + (c - a) = c from by omega] at this
  exact this
theorem extract_from_append {a b : ByteArray} {i : Nat} (h : i ≤ a.size) : (a ++ b).extract i (a ++ b).size = a.extract i a.size ++ b := by
  have z1 : (a.extract i a.size).size = a.size - i := by rw [ByteArray.size_extract]; omega
  have z2 : (a ++ b).size = a.size + b.size := ByteArray.size_append
  refine ext_bt (by simp only [ByteArray.size_append, ByteArray.size_extract]; omega) fun k hk => ?_
  rw [ByteArray.size_extract, z2] at hk
  rw [bt_ext_in (by omega) (Nat.le_refl _)]
  by_cases hl : k < a.size - i
  · rw [bt_append_left (by omega), bt_append_left (by omega), bt_ext_in (by omega) (Nat.le_refl _)]
  · have e1 := bt_append_right (a := a) (b := b) (i := i + k - a.size) (by omega)
    have e2 := bt_append_right (a := a.extract i a.size) (b := b) (i := k - (a.size - i)) (by omega)
    rw [show a.size + (i + k - a.size) = i + k from by omega] at e1
    rw [z1, show a.size - i + (k - (a.size - i)) = k from by omega] at e2
    rw [e1, e2, show i + k - a.size = k - (a.size - i) from by omega]
theorem extract_to_append {a b : ByteArray} {i : Nat} (h : a.size ≤ i) (hi : i ≤ a.size + b.size) : (a ++ b).extract 0 i = a ++ b.extract 0 (i - a.size) := by
  have z1 : (b.extract 0 (i - a.size)).size = i - a.size := by rw [ByteArray.size_extract]; omega
  have z2 : (a ++ b).size = a.size + b.size := ByteArray.size_append
  refine ext_bt (by simp only [ByteArray.size_append, ByteArray.size_extract]; omega) fun k hk => ?_
  rw [ByteArray.size_extract, z2] at hk
  rw [bt_ext_in (by omega) (by omega), Nat.zero_add]
  by_cases hl : k < a.size
  · rw [bt_append_left hl, bt_append_left hl]
  · have e1 := bt_append_right (a := a) (b := b) (i := k - a.size) (by omega)
    have e2 := bt_append_right (a := a) (b := b.extract 0 (i - a.size)) (i := k - a.size) (by omega)
    rw [show a.size + (k - a.size) = k from by omega] at e1 e2
    rw [e1, e2, bt_ext_in (by omega) (by omega), Nat.zero_add]
theorem extract_all (s : ByteArray) {n : Nat} (h : s.size ≤ n) : s.extract 0 n = s := by
  refine ext_bt (by rw [ByteArray.size_extract]; omega) fun k hk => ?_
  rw [ByteArray.size_extract] at hk
  have h1 : k < (s.extract 0 n).size := by rw [ByteArray.size_extract]; omega
  rw [← bt_eq h1, ← bt_eq (show k < s.size by omega), ByteArray.getElem_extract]
  simp
theorem extract_none (s : ByteArray) {n : Nat} (h : s.size ≤ n) : s.extract n s.size = ⟨#[]⟩ := by
  refine ext_bt (by rw [ByteArray.size_extract]; show _ = 0; omega) fun k hk => ?_
  rw [ByteArray.size_extract] at hk
  omega

theorem cut_any : ∀ (t : T) (b : Nat) (i : Int) (w : World), Ok t → Node w t b → (t.text.size : Int) ≤ 1048576 → Tabs w →
    Calls Tryd.prog 31 #[.pointer (some ⟨b, 0, none⟩), .int .i64 i] w (CutPost (t.text.extract 0 i.toNat) (t.text.extract i.toNat t.text.size) w) := by
  intro t
  induction t with
  | leaf s =>
    intro b i w ha n hs hT
    obtain ⟨c6, c8⟩ := n.leaf_cells
    by_cases h0 : i ≤ 0
    · refine (cut_low b i h0 w).mono ?_
      rintro e w' ⟨rfl, rfl⟩
      have e0 : i.toNat = 0 := by omega
      rw [e0]
      exact ⟨_, none, _, some (.leaf s), rfl, rfl, ⟨b, rfl, n⟩, trivial, ha, by simp [otext]; rfl, (extract_all _ (Nat.le_refl _)).symm, Up.refl _⟩
    by_cases h1 : (s.size : Int) ≤ i
    · refine (cut_high b s.size i (by omega) h1 w n.sz).mono ?_
      rintro e w' ⟨rfl, rfl⟩
      exact ⟨_, some (.leaf s), _, none, rfl, ⟨b, rfl, n⟩, rfl, ha, trivial, (extract_all _ (by show s.size ≤ _; omega)).symm, (extract_none _ (by show s.size ≤ _; omega)).symm, Up.refl _⟩
    · obtain ⟨k, rfl⟩ := Int.eq_ofNat_of_zero_le (show 0 ≤ i by omega)
      refine (cut_leaf b k s w hT (by omega) (by omega) hs n.sz c6 c8).mono ?_
      rintro e w' ⟨g1, g2, rfl, m1, m2, hu⟩
      have z := ha.2
      refine ⟨_, some (.leaf (s.extract 0 k)), _, some (.leaf (s.extract k s.size)), rfl, ⟨g1, rfl, m1⟩, ⟨g2, rfl, m2⟩, ⟨?_, ?_⟩, ⟨?_, ?_⟩, rfl, rfl, hu⟩
      all_goals rw [ByteArray.size_extract]; omega
  | node l r ihl ihr =>
    intro b i w ha n hs hT
    have hbig : Big (.node l r) := ha
    have hsb : 256 ≤ (T.node l r).text.size := Big.size hbig
    have hl := hbig.1
    have hr := hbig.2.1
    obtain ⟨bl, br, hc, nl, nr⟩ := n.mk
    have hz : (T.node l r).text.size = l.text.size + r.text.size := ByteArray.size_append
    have sl := hl.size
    have sr := hr.size
    by_cases h0 : i ≤ 0
    · refine (cut_low b i h0 w).mono ?_
      rintro e w' ⟨rfl, rfl⟩
      have e0 : i.toNat = 0 := by omega
      rw [e0]
      exact ⟨_, none, _, some (.node l r), rfl, rfl, ⟨b, rfl, n⟩, trivial, ha, by simp [otext]; rfl, (extract_all _ (Nat.le_refl _)).symm, Up.refl _⟩
    by_cases h1 : ((T.node l r).text.size : Int) ≤ i
    · refine (cut_high b _ i (by omega) h1 w n.sz).mono ?_
      rintro e w' ⟨rfl, rfl⟩
      have hge : (T.node l r).text.size ≤ i.toNat := by omega
      exact ⟨_, some (.node l r), _, none, rfl, ⟨b, rfl, n⟩, rfl, ha, trivial, (extract_all _ hge).symm, (extract_none _ hge).symm, Up.refl _⟩
    obtain ⟨k, rfl⟩ := Int.eq_ofNat_of_zero_le (show 0 ≤ i by omega)
    by_cases h2 : k < l.text.size
    · have e1 : (T.node l r).text.extract 0 k = l.text.extract 0 k := extract_zero_append (by omega)
      have e2 : (T.node l r).text.extract k (T.node l r).text.size = l.text.extract k l.text.size ++ r.text := extract_from_append (by omega)
      show Calls _ _ _ _ (CutPost ((T.node l r).text.extract 0 k) ((T.node l r).text.extract k (T.node l r).text.size) w)
      rw [e1, e2]
      refine cut_left b bl br k _ l.text.size _ _ _ w hT (by omega) (by omega) (by omega) n.sz (cellOf hc rfl) (cellOf hc rfl) nl.sz ?_ ?_
      · intro W hu ht
        exact ihl bl k W hl.ok (nl.up hu) (by omega) ht
      · intro W v o hu ht hp hk he
        have hb : Ptr W (.pointer (some ⟨br, 0, none⟩)) (some r) := ⟨br, rfl, nr.up hu⟩
        have := join_o hp hb hk hr.ok (by rw [he]; show (_ : Int) + (r.text.size : Int) ≤ _; rw [ByteArray.size_extract]; omega) ht
        rw [he] at this
        exact this
    · have e1 : (T.node l r).text.extract 0 k = l.text ++ r.text.extract 0 (k - l.text.size) := extract_to_append (by omega) (by omega)
      have e2 : (T.node l r).text.extract k (T.node l r).text.size = r.text.extract (k - l.text.size) r.text.size := by
        rw [hz]
        have := extract_right (a := l.text) (b := r.text) (m := k) (n := l.text.size + r.text.size) (by omega) (Nat.le_refl _)
        rw [show l.text.size + r.text.size - l.text.size = r.text.size from by omega] at this
        exact this
      show Calls _ _ _ _ (CutPost ((T.node l r).text.extract 0 k) ((T.node l r).text.extract k (T.node l r).text.size) w)
      rw [e1, e2]
      refine cut_right b bl br k _ l.text.size (k - l.text.size) _ _ _ w hT (by omega) (by omega) hs (by omega) (by omega) n.sz (cellOf hc rfl) (cellOf hc rfl) nl.sz ?_ ?_
      · intro W hu ht
        have := ihr br ((k - l.text.size : Nat) : Int) W hr.ok (nr.up hu) (by omega) ht
        exact this
      · intro W v o hu ht hp hk he
        have hb : Ptr W (.pointer (some ⟨bl, 0, none⟩)) (some l) := ⟨bl, rfl, nl.up hu⟩
        have := join_o hb hp hl.ok hk (by rw [he]; show (l.text.size : Int) + (_ : Int) ≤ _; rw [ByteArray.size_extract]; omega) ht
        rw [he] at this
        exact this

theorem cut_o {v : Value} {o : Option T} {w : World} (i : Int) (hp : Ptr w v o) (hk : OkO o) (hs : ((otext o).size : Int) ≤ 1048576) (hT : Tabs w) :
    Calls Tryd.prog 31 #[v, .int .i64 i] w (CutPost ((otext o).extract 0 i.toNat) ((otext o).extract i.toNat (otext o).size) w) := by
  cases o with
  | none =>
    obtain rfl : v = .pointer none := hp
    refine (cut_nil i w).mono ?_
    rintro e w' ⟨rfl, rfl⟩
    exact ⟨_, none, _, none, rfl, rfl, rfl, trivial, trivial, (extract_all _ (Nat.zero_le _)).symm, (extract_none _ (Nat.zero_le _)).symm, Up.refl _⟩
  | some t =>
    obtain ⟨b, rfl, n⟩ := hp
    exact cut_any t b i w hk n hs hT
end Go.Proofs.YtcbmigkdmmmahaaDoor
