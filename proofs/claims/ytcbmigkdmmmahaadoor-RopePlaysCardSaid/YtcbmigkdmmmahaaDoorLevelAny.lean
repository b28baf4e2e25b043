/- The program's level, at whatever two trees whose depths differ by two at most. -/
import Derived.Test.YtcbmigkdmmmahaaDoorLevel
namespace Go.Proofs.YtcbmigkdmmmahaaDoor
open Go.RowKit

theorem dp_small {t : T} (h : Big t) (hs : (t.text.size : Int) ≤ 1048576) : t.dp ≤ 25 := by
  have h1 := leaves_dp h
  by_cases hd : t.dp ≤ 25
  · exact hd
  · exfalso
    have : 2 ^ 13 ≤ 2 ^ (t.dp / 2) := Nat.pow_le_pow_right (by omega) (by omega)
    omega
theorem pair_big {ta tb : T} {b1 b2 : Nat} {w : World} (n1 : Node w ta b1) (n2 : Node w tb b2) (ha : Big ta) (hb : Big tb) (hs : (ta.text.size : Int) + tb.text.size ≤ 1048576) (hT : Tabs w) :
    Calls Tryd.prog 46 #[.pointer (some ⟨b1, 0, none⟩), .pointer (some ⟨b2, 0, none⟩)] w (NewT (.node ta tb) w) := by
  have := ha.size
  have := hb.size
  have := dp_small ha (by omega)
  have := dp_small hb (by omega)
  exact pair_any ta tb b1 b2 w n1 n2 (by omega) (by omega) hs (by omega) (by omega) hT
theorem Node.mk {w : World} {l r : T} {b : Nat} (h : Node w (.node l r) b) : ∃ bl br, w.heap[b]? = some (.cells (ncells (l.text ++ r.text) (1 + max l.dp r.dp) (.pointer (some ⟨bl, 0, none⟩)) (.pointer (some ⟨br, 0, none⟩)) ⟨#[]⟩) 76) ∧ Node w l bl ∧ Node w r br := h.2
theorem Node.dpth {w : World} {t : T} {b : Nat} (h : Node w t b) : w.cell? ⟨b, 5, none⟩ = some (.int .i64 (t.dp : Nat)) := by
  obtain ⟨l, r, c⟩ := node_cell h
  exact cellOf c rfl

theorem level_any {ta tb : T} {b1 b2 : Nat} {w : World} (n1 : Node w ta b1) (n2 : Node w tb b2) (ha : Big ta) (hb : Big tb) (hs : (ta.text.size : Int) + tb.text.size ≤ 1048576) (d1 : ta.dp ≤ tb.dp + 2) (d2 : tb.dp ≤ ta.dp + 2) (hT : Tabs w) :
    Calls Tryd.prog 45 #[.pointer (some ⟨b1, 0, none⟩), .pointer (some ⟨b2, 0, none⟩)] w (NewT (lev ta tb) w) := by
  have s1 := ha.size
  have s2 := hb.size
  have e1 := dp_small ha (by omega)
  have e2 := dp_small hb (by omega)
  have pa := ta.dp_pos
  have pb := tb.dp_pos
  by_cases c1 : tb.dp + 1 < ta.dp
  · obtain ⟨al, ar, rfl⟩ := not_leaf (t := ta) (by omega)
    obtain ⟨bl, br, hc, nl, nr⟩ := n1.mk
    obtain ⟨hal, har, x1, x2⟩ := ha
    have sl := hal.size
    have sr := har.size
    rw [T.text_node, ByteArray.size_append] at hs
    have pal := al.dp_pos
    by_cases c2 : al.dp < ar.dp
    · obtain ⟨arl, arr, rfl⟩ := not_leaf (t := ar) (by omega)
      obtain ⟨brl, brr, hc2, nrl, nrr⟩ := nr.mk
      obtain ⟨harl, harr, x3, x4⟩ := har
      have y1 := harl.size
      have y2 := harr.size
      rw [T.text_node, ByteArray.size_append] at hs
      rw [lev_left2 c1 c2]
      have g1 : Big (.node al arl) := big_node hal harl (by simp only [T.dp_node] at *; omega) (by simp only [T.dp_node] at *; omega)
      have g2 : Big (.node arr tb) := big_node harr hb (by simp only [T.dp_node] at *; omega) (by simp only [T.dp_node] at *; omega)
      refine level_1 w b1 b2 bl br brl brr (T.node al (T.node arl arr)).dp tb.dp al.dp (T.node arl arr).dp al arl arr tb hT n1.dpth (cellOf hc rfl) (cellOf hc rfl) n2.dpth nl.dpth nr.dpth (cellOf hc2 rfl) (cellOf hc2 rfl) (by omega) (by omega) (by omega) (by omega)
        (fun W hu ht => pair_big (nl.up hu) (nrl.up hu) hal harl (by omega) ht) (fun W hu ht => pair_big (nrr.up hu) (n2.up hu) harr hb (by omega) ht)
        (fun W q1 q2 ht m1 m2 => pair_big m1 m2 g1 g2 (by simp only [T.text_node, ByteArray.size_append]; omega) ht)
    · rw [lev_left c1 c2]
      have g1 : Big (.node ar tb) := big_node har hb (by simp only [T.dp_node] at *; omega) (by simp only [T.dp_node] at *; omega)
      exact level_2 w b1 b2 bl br (T.node al ar).dp tb.dp al.dp ar.dp al ar tb hT n1.dpth (cellOf hc rfl) (cellOf hc rfl) n2.dpth nl.dpth nr.dpth (by omega) (by omega) (by omega) (by omega)
        (fun W hu ht => pair_big (nr.up hu) (n2.up hu) har hb (by omega) ht) (fun W q2 hu ht m2 => pair_big (nl.up hu) m2 hal g1 (by simp only [T.text_node, ByteArray.size_append]; omega) ht)
  · by_cases c3 : ta.dp + 1 < tb.dp
    · obtain ⟨bl, br, rfl⟩ := not_leaf (t := tb) (by omega)
      obtain ⟨bbl, bbr, hc, nl, nr⟩ := n2.mk
      obtain ⟨hbl, hbr, x1, x2⟩ := hb
      have sl := hbl.size
      have sr := hbr.size
      rw [T.text_node, ByteArray.size_append] at hs
      have pbr := br.dp_pos
      by_cases c2 : br.dp < bl.dp
      · obtain ⟨bll, blr, rfl⟩ := not_leaf (t := bl) (by omega)
        obtain ⟨bbll, bblr, hc2, nll, nlr⟩ := nl.mk
        obtain ⟨hbll, hblr, x3, x4⟩ := hbl
        have y1 := hbll.size
        have y2 := hblr.size
        rw [T.text_node, ByteArray.size_append] at hs
        rw [lev_right2 c1 c3 c2]
        have g1 : Big (.node ta bll) := big_node ha hbll (by simp only [T.dp_node] at *; omega) (by simp only [T.dp_node] at *; omega)
        have g2 : Big (.node blr br) := big_node hblr hbr (by simp only [T.dp_node] at *; omega) (by simp only [T.dp_node] at *; omega)
        exact level_3 w b1 b2 bbl bbr bbll bblr ta.dp (T.node (T.node bll blr) br).dp (T.node bll blr).dp br.dp ta bll blr br hT n1.dpth n2.dpth (cellOf hc rfl) (cellOf hc rfl) nl.dpth nr.dpth (cellOf hc2 rfl) (cellOf hc2 rfl) (by omega) (by omega) (by omega) (by omega) (by omega)
          (fun W hu ht => pair_big (n1.up hu) (nll.up hu) ha hbll (by omega) ht) (fun W hu ht => pair_big (nlr.up hu) (nr.up hu) hblr hbr (by omega) ht)
          (fun W q1 q2 ht m1 m2 => pair_big m1 m2 g1 g2 (by simp only [T.text_node, ByteArray.size_append]; omega) ht)
      · rw [lev_right c1 c3 c2]
        have g1 : Big (.node ta bl) := big_node ha hbl (by simp only [T.dp_node] at *; omega) (by simp only [T.dp_node] at *; omega)
        exact level_4 w b1 b2 bbl bbr ta.dp (T.node bl br).dp bl.dp br.dp ta bl br hT n1.dpth n2.dpth (cellOf hc rfl) (cellOf hc rfl) nl.dpth nr.dpth (by omega) (by omega) (by omega) (by omega) (by omega)
          (fun W hu ht => pair_big (n1.up hu) (nl.up hu) ha hbl (by omega) ht) (fun W q1 hu ht m1 => pair_big m1 (nr.up hu) g1 hbr (by simp only [T.text_node, ByteArray.size_append]; omega) ht)
    · rw [lev_mid c1 c3]
      exact level_5 w b1 b2 ta.dp tb.dp ta tb hT n1.dpth n2.dpth (by omega) (by omega) (by omega) (by omega) (fun W hu ht => pair_big (n1.up hu) (n2.up hu) ha hb hs ht)
end Go.Proofs.YtcbmigkdmmmahaaDoor
