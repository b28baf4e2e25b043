/- The program's join, at whatever two trees that are in form. -/
import Derived.Test.YtcbmigkdmmmahaaDoorJoinW
namespace Go.Proofs.YtcbmigkdmmmahaaDoor
open Go.RowKit

theorem Ok.big {t : T} (h : Ok t) (hs : 256 ≤ t.text.size) : Big t := by
  cases t with
  | leaf s => exact ⟨hs, h.2⟩
  | node l r => exact h
theorem Ok.leaf_of_small {t : T} (h : Ok t) (hs : t.text.size < 256) : ∃ s, t = .leaf s := by
  cases t with
  | leaf s => exact ⟨s, rfl⟩
  | node l r => have := Big.size h; omega
theorem joinSpec_l {al ar tb t : T} (ha : Big (.node al ar)) (hj : JoinSpec ar tb t) (hc : tb.dp + 1 < (T.node al ar).dp ∨ ((T.node al ar).dp ≤ tb.dp + 1 ∧ tb.dp = 1)) :
    (Big al ∧ Big t ∧ al.dp ≤ t.dp + 2 ∧ t.dp ≤ al.dp + 2) ∧ JoinSpec (.node al ar) tb (lev al t) := by
  obtain ⟨hal, har, d1, d2⟩ := ha
  obtain ⟨j1, j2, ⟨j3, j4⟩, j5⟩ := hj
  have hs := har.size
  have hb := j5 (by omega)
  have pl := al.dp_pos
  have pr := ar.dp_pos
  have pb := tb.dp_pos
  rw [T.dp_node] at hc
  have k1 : al.dp ≤ t.dp + 2 := by omega
  have k2 : t.dp ≤ al.dp + 2 := by omega
  obtain ⟨l1, l2, ⟨l3, l4⟩, l5⟩ := lev_spec hal hb k1 k2
  refine ⟨⟨hal, hb, k1, k2⟩, l1.ok, ?_, ?_, fun _ => l1⟩
  · rw [l2, j2, T.text_node, ByteArray.append_assoc]
  · rw [T.dp_node]
    by_cases hd : al.dp ≤ t.dp + 1 ∧ t.dp ≤ al.dp + 1
    · have := l5 hd.1 hd.2; omega
    · omega
theorem joinSpec_r {ta bl br t : T} (hb : Big (.node bl br)) (hj : JoinSpec ta bl t) (hc : ta.dp + 1 < (T.node bl br).dp ∨ ((T.node bl br).dp ≤ ta.dp + 1 ∧ ta.dp = 1)) :
    (Big t ∧ Big br ∧ t.dp ≤ br.dp + 2 ∧ br.dp ≤ t.dp + 2) ∧ JoinSpec ta (.node bl br) (lev t br) := by
  obtain ⟨hbl, hbr, d1, d2⟩ := hb
  obtain ⟨j1, j2, ⟨j3, j4⟩, j5⟩ := hj
  have hs := hbl.size
  have ht := j5 (by omega)
  have pl := bl.dp_pos
  have pr := br.dp_pos
  have pa := ta.dp_pos
  rw [T.dp_node] at hc
  have k1 : t.dp ≤ br.dp + 2 := by omega
  have k2 : br.dp ≤ t.dp + 2 := by omega
  obtain ⟨l1, l2, ⟨l3, l4⟩, l5⟩ := lev_spec ht hbr k1 k2
  refine ⟨⟨ht, hbr, k1, k2⟩, l1.ok, ?_, ?_, fun _ => l1⟩
  · rw [l2, j2, T.text_node, ByteArray.append_assoc]
  · rw [T.dp_node]
    by_cases hd : t.dp ≤ br.dp + 1 ∧ br.dp ≤ t.dp + 1
    · have := l5 hd.1 hd.2; omega
    · omega
theorem joinSpec_p {ta tb : T} (ha : Big ta) (hb : Big tb) (h1 : ta.dp ≤ tb.dp + 1) (h2 : tb.dp ≤ ta.dp + 1) : JoinSpec ta tb (.node ta tb) :=
  ⟨big_node ha hb h1 h2, rfl, by rw [T.dp_node]; omega, fun _ => big_node ha hb h1 h2⟩
theorem joinSpec_g {x y : ByteArray} {t : T} (hx : x.size ≤ 512) (hy : y.size ≤ 512) (hg : GrowSpec (x ++ y) t) : JoinSpec (.leaf x) (.leaf y) t := by
  obtain ⟨g1, g2, g3, g4, g5⟩ := hg
  rw [ByteArray.size_append] at g3 g4 g5
  have p := t.dp_pos
  have := g5 (by omega)
  exact ⟨g1, g2, ⟨by show max 1 1 ≤ t.dp; omega, by show t.dp ≤ max 1 1 + 1; omega⟩, g3⟩

theorem Node.sz {w : World} {t : T} {b : Nat} (h : Node w t b) : w.cell? ⟨b, 0, none⟩ = some (.int .i64 (t.text.size : Nat)) := by
  obtain ⟨l, r, c⟩ := node_cell h
  exact cellOf c rfl
theorem Node.leaf_cells {w : World} {x : ByteArray} {b : Nat} (h : Node w (.leaf x) b) : w.cell? ⟨b, 6, none⟩ = some (.pointer none) ∧ w.cell? ⟨b, 8, none⟩ = some (.string x) := ⟨cellOf h.2 rfl, cellOf h.2 rfl⟩
theorem Ok.dp_small {t : T} (h : Ok t) (hs : (t.text.size : Int) ≤ 1048576) : t.dp ≤ 25 := by
  by_cases h2 : 256 ≤ t.text.size
  · exact Go.Proofs.YtcbmigkdmmmahaaDoor.dp_small (h.big h2) hs
  · obtain ⟨s, rfl⟩ := h.leaf_of_small (by omega)
    show 1 ≤ 25; omega

theorem join_any : ∀ (n : Nat) (ta tb : T) (b1 b2 : Nat) (w : World), ta.dp + tb.dp ≤ n → Ok ta → Ok tb → Node w ta b1 → Node w tb b2 → (ta.text.size : Int) + tb.text.size ≤ 1048576 → Tabs w →
    Calls Tryd.prog 32 #[.pointer (some ⟨b1, 0, none⟩), .pointer (some ⟨b2, 0, none⟩)] w (JoinPost ta tb w) := by
  intro n
  induction n with
  | zero => intro ta tb b1 b2 w h; have := ta.dp_pos; omega
  | succ n ih =>
    intro ta tb b1 b2 w hn ha hb n1 n2 hs hT
    have q1 := ha.dp_small (by omega)
    have q2 := hb.dp_small (by omega)
    have pa := ta.dp_pos
    have pb := tb.dp_pos
    have za := ha.size
    have zb := hb.size
    -- the left one is opened
    have wayL : ∀ al ar, ta = .node al ar → (tb.dp + 1 < ta.dp ∨ (ta.dp ≤ tb.dp + 1 ∧ tb.text.size < 256)) → Calls Tryd.prog 32 #[.pointer (some ⟨b1, 0, none⟩), .pointer (some ⟨b2, 0, none⟩)] w (JoinPost ta tb w) := by
      rintro al ar rfl hc
      obtain ⟨bl, br, hcell, nl, nr⟩ := n1.mk
      have hbig : Big (.node al ar) := ha
      have hal := hbig.1
      have har := hbig.2.1
      have hsl := hal.size
      have hsr := har.size
      rw [T.text_node, ByteArray.size_append] at hs
      rw [T.dp_node] at hn
      have hc' : tb.dp + 1 < (T.node al ar).dp ∨ ((T.node al ar).dp ≤ tb.dp + 1 ∧ tb.dp = 1) := by
        rcases hc with h | ⟨h, h2⟩
        · exact .inl h
        · obtain ⟨x, rfl⟩ := hb.leaf_of_small h2
          exact .inr ⟨h, rfl⟩
      have PJ : ∀ W, Up w W → Tabs W → Calls Tryd.prog 32 #[.pointer (some ⟨br, 0, none⟩), .pointer (some ⟨b2, 0, none⟩)] W (JoinPost ar tb W) := fun W hu ht => ih ar tb br b2 W (by omega) har.ok hb (nr.up hu) (n2.up hu) (by omega) ht
      have PL : ∀ W q t, Up w W → Tabs W → JoinSpec ar tb t → Node W t q → Calls Tryd.prog 45 #[.pointer (some ⟨bl, 0, none⟩), .pointer (some ⟨q, 0, none⟩)] W (NewT (lev al t) W) := fun W q t hu ht hj hq => by
        obtain ⟨⟨k1, k2, k3, k4⟩, _⟩ := joinSpec_l hbig hj hc'
        exact level_any (nl.up hu) hq k1 k2 (by rw [hj.2.1, ByteArray.size_append]; omega) k3 k4 ht
      have fin : ∀ {e w'}, JoinL al ar tb w e w' → JoinPost (.node al ar) tb w e w' := fun {e w'} ⟨t, hj, hn⟩ => ⟨_, (joinSpec_l hbig hj hc').2, hn⟩
      by_cases h1 : tb.dp + 1 < (T.node al ar).dp
      · exact (join_l1 w b1 b2 bl br (T.node al ar).dp tb.dp hT n1.dpth (cellOf hcell rfl) (cellOf hcell rfl) n2.dpth (by omega) (by omega) (by omega) al ar tb PJ PL).mono fun _ _ => fin
      · have h2 : tb.text.size < 256 := by rcases hc with h | h <;> omega
        exact (join_l2 w b1 b2 bl br (T.node al ar).dp tb.text.size tb.dp hT n1.dpth (cellOf hcell rfl) (cellOf hcell rfl) n2.sz n2.dpth (by omega) (by omega) (by omega) (by omega) al ar tb PJ PL).mono fun _ _ => fin
    -- the right one is opened
    have wayR : ∀ bl br, tb = .node bl br → ta.dp ≤ tb.dp + 1 → (ta.dp + 1 < tb.dp ∨ (tb.dp ≤ ta.dp + 1 ∧ ta.text.size < 256)) → Calls Tryd.prog 32 #[.pointer (some ⟨b1, 0, none⟩), .pointer (some ⟨b2, 0, none⟩)] w (JoinPost ta tb w) := by
      rintro bl br rfl h7 hc
      obtain ⟨cl, cr, hcell, nl, nr⟩ := n2.mk
      have hbig : Big (.node bl br) := hb
      have hbl := hbig.1
      have hbr := hbig.2.1
      have hsl := hbl.size
      have hsr := hbr.size
      have hsb : 256 ≤ (T.node bl br).text.size := Big.size hbig
      rw [T.text_node, ByteArray.size_append] at hs
      rw [T.dp_node] at hn
      have hc' : ta.dp + 1 < (T.node bl br).dp ∨ ((T.node bl br).dp ≤ ta.dp + 1 ∧ ta.dp = 1) := by
        rcases hc with h | ⟨h, h2⟩
        · exact .inl h
        · obtain ⟨x, rfl⟩ := ha.leaf_of_small h2
          exact .inr ⟨h, rfl⟩
      have PJ : ∀ W, Up w W → Tabs W → Calls Tryd.prog 32 #[.pointer (some ⟨b1, 0, none⟩), .pointer (some ⟨cl, 0, none⟩)] W (JoinPost ta bl W) := fun W hu ht => ih ta bl b1 cl W (by omega) ha hbl.ok (n1.up hu) (nl.up hu) (by omega) ht
      have PL : ∀ W q t, Up w W → Tabs W → JoinSpec ta bl t → Node W t q → Calls Tryd.prog 45 #[.pointer (some ⟨q, 0, none⟩), .pointer (some ⟨cr, 0, none⟩)] W (NewT (lev t br) W) := fun W q t hu ht hj hq => by
        obtain ⟨⟨k1, k2, k3, k4⟩, _⟩ := joinSpec_r hbig hj hc'
        exact level_any hq (nr.up hu) k1 k2 (by rw [hj.2.1, ByteArray.size_append]; omega) k3 k4 ht
      have fin : ∀ {e w'}, JoinR ta bl br w e w' → JoinPost ta (.node bl br) w e w' := fun {e w'} ⟨t, hj, hn⟩ => ⟨_, (joinSpec_r hbig hj hc').2, hn⟩
      by_cases h1 : ta.dp + 1 < (T.node bl br).dp
      · cases ta with
        | leaf x =>
          obtain ⟨c6, c8⟩ := n1.leaf_cells
          exact (join_r1 w b1 b2 cl cr (T.leaf x).dp (T.node bl br).text.size (T.node bl br).dp hT n1.dpth c6 n2.sz n2.dpth (cellOf hcell rfl) (cellOf hcell rfl) (by omega) (by omega) (by omega) (by omega) (by omega) (.leaf x) bl br PJ PL).mono fun _ _ => fin
        | node al ar =>
          obtain ⟨dl, dr, hcell2, _, _⟩ := n1.mk
          exact (join_r1n w b1 b2 dl cl cr (T.node al ar).dp (T.node bl br).text.size (T.node bl br).dp hT n1.dpth (cellOf hcell2 rfl) n2.sz n2.dpth (cellOf hcell rfl) (cellOf hcell rfl) (by omega) (by omega) (by omega) (by omega) (by omega) (.node al ar) bl br PJ PL).mono fun _ _ => fin
      · have h2 : ta.text.size < 256 := by rcases hc with h | h <;> omega
        obtain ⟨x, rfl⟩ := ha.leaf_of_small h2
        obtain ⟨c6, c8⟩ := n1.leaf_cells
        exact (join_r2 w b1 b2 cl cr (T.leaf x).text.size (T.leaf x).dp (T.node bl br).text.size (T.node bl br).dp hT n1.sz n1.dpth c6 n2.sz n2.dpth (cellOf hcell rfl) (cellOf hcell rfl) (by omega) (by omega) (by omega) (by omega) (by omega) (by omega) (.leaf x) bl br PJ PL).mono fun _ _ => fin
    have wayP : ta.dp ≤ tb.dp + 1 → tb.dp ≤ ta.dp + 1 → 256 ≤ ta.text.size → 256 ≤ tb.text.size → Calls Tryd.prog 32 #[.pointer (some ⟨b1, 0, none⟩), .pointer (some ⟨b2, 0, none⟩)] w (JoinPost ta tb w) := by
      intro g7 g9 g1 g2
      have PP : ∀ W, Up w W → Tabs W → Calls Tryd.prog 46 #[.pointer (some ⟨b1, 0, none⟩), .pointer (some ⟨b2, 0, none⟩)] W (NewT (.node ta tb) W) := fun W hu ht => pair_big (n1.up hu) (n2.up hu) (ha.big g1) (hb.big g2) hs ht
      have fin : ∀ {e w'}, NewT (.node ta tb) w e w' → JoinPost ta tb w e w' := fun {e w'} hn => ⟨_, joinSpec_p (ha.big g1) (hb.big g2) g7 g9, hn⟩
      cases ta with
      | leaf x =>
        obtain ⟨c6, c8⟩ := n1.leaf_cells
        cases tb with
        | leaf y =>
          obtain ⟨d6, d8⟩ := n2.leaf_cells
          exact (join_p1 w b1 b2 (T.leaf x).text.size (T.leaf x).dp (T.leaf y).text.size (T.leaf y).dp hT n1.sz n1.dpth c6 n2.sz n2.dpth d6 (by omega) (by omega) (by omega) (by omega) (by omega) (by omega) (.leaf x) (.leaf y) PP).mono fun _ _ => fin
        | node bl br =>
          obtain ⟨dl, dr, hcell2, _, _⟩ := n2.mk
          exact (join_p3 w b1 b2 dl (T.leaf x).text.size (T.leaf x).dp (T.node bl br).text.size (T.node bl br).dp hT n1.sz n1.dpth c6 n2.sz n2.dpth (cellOf hcell2 rfl) (by omega) (by omega) (by omega) (by omega) (by omega) (by omega) (.leaf x) (.node bl br) PP).mono fun _ _ => fin
      | node al ar =>
        obtain ⟨el, er, hcell1, _, _⟩ := n1.mk
        cases tb with
        | leaf y =>
          exact (join_p2 w b1 b2 el (T.node al ar).text.size (T.node al ar).dp (T.leaf y).text.size (T.leaf y).dp hT n1.sz n1.dpth (cellOf hcell1 rfl) n2.sz n2.dpth (by omega) (by omega) (by omega) (by omega) (by omega) (by omega) (.node al ar) (.leaf y) PP).mono fun _ _ => fin
        | node bl br =>
          exact (join_p4 w b1 b2 el (T.node al ar).text.size (T.node al ar).dp (T.node bl br).text.size (T.node bl br).dp hT n1.sz n1.dpth (cellOf hcell1 rfl) n2.sz n2.dpth (by omega) (by omega) (by omega) (by omega) (by omega) (by omega) (.node al ar) (.node bl br) PP).mono fun _ _ => fin
    by_cases c1 : tb.dp + 1 < ta.dp
    · obtain ⟨al, ar, e⟩ := not_leaf (t := ta) (by omega)
      exact wayL al ar e (.inl c1)
    by_cases c2 : ta.dp + 1 < tb.dp
    · obtain ⟨bl, br, e⟩ := not_leaf (t := tb) (by omega)
      exact wayR bl br e (by omega) (.inl c2)
    by_cases c3 : tb.text.size < 256
    · obtain ⟨y, rfl⟩ := hb.leaf_of_small c3
      cases ta with
      | node al ar => exact wayL al ar rfl (.inr ⟨by omega, c3⟩)
      | leaf x =>
        obtain ⟨c6, c8⟩ := n1.leaf_cells
        obtain ⟨d6, d8⟩ := n2.leaf_cells
        have hs' : (x.size : Int) + y.size ≤ 1048576 := hs
        have za' : 1 ≤ x.size := za
        have fin : ∀ {e w'}, JoinG (x ++ y) w e w' → JoinPost (.leaf x) (.leaf y) w e w' := fun {e w'} ⟨t, hg, hn⟩ => ⟨_, joinSpec_g ha.2 hb.2 hg, hn⟩
        by_cases c4 : x.size < 256
        · exact (join_g1 w b1 b2 x.size x y hT n1.sz c6 c8 d6 d8 (by omega) hs' (by omega)).mono fun _ _ => fin
        · have c3' : y.size < 256 := c3
          exact (join_g2 w b1 b2 x.size y.size x y hT n1.sz c6 c8 n2.sz d6 d8 (by omega) (by omega) hs' (by omega)).mono fun _ _ => fin
    by_cases c4 : ta.text.size < 256
    · obtain ⟨x, rfl⟩ := ha.leaf_of_small c4
      cases tb with
      | node bl br => exact wayR bl br rfl (by omega) (.inr ⟨by omega, c4⟩)
      | leaf y =>
        obtain ⟨c6, c8⟩ := n1.leaf_cells
        obtain ⟨d6, d8⟩ := n2.leaf_cells
        have hs' : (x.size : Int) + y.size ≤ 1048576 := hs
        have za' : 1 ≤ x.size := za
        have c4' : x.size < 256 := c4
        exact (join_g1 w b1 b2 x.size x y hT n1.sz c6 c8 d6 d8 (by omega) hs' (by omega)).mono fun _ _ ⟨t, hg, hn⟩ => ⟨_, joinSpec_g ha.2 hb.2 hg, hn⟩
    · exact wayP (by omega) (by omega) (by omega) (by omega)
end Go.Proofs.YtcbmigkdmmmahaaDoor
