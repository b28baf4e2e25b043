/- The program's ways down a tree: byteAt, behind, endsAhead. -/
import Derived.Test.YtcbmigkdmmmahaaDoorCutAny
import Derived.Deep.LoopGhost
import Derived.Deep.DeepCutAuto
namespace Go.Proofs.YtcbmigkdmmmahaaDoor
open Go.RowKit

theorem Node.ends {w : World} {t : T} {b : Nat} (h : Node w t b) : w.cell? ⟨b, 1, none⟩ = some (.int .i64 (nl t.text : Nat)) := by
  obtain ⟨l, r, c⟩ := node_cell h
  exact cellOf c rfl

set_option maxRecDepth 100000 in
set_option maxHeartbeats 1000000 in
theorem byteAt_any (t0 : T) (b0 k0 : Nat) (w : World) (hn : Node w t0 b0) (hk : k0 < t0.text.size) (hs : (t0.text.size : Int) ≤ 1048576) :
    Calls Tryd.prog 33 #[.pointer (some ⟨b0, 0, none⟩), .int .i64 (k0 : Nat)] w fun e w' => e = .returned (.int .u8 (bt t0.text k0 : Nat)) ∧ w = w' := by
  obtain ⟨V, hV⟩ : ∃ V, bt t0.text k0 = V := ⟨_, rfl⟩
  rw [hV]
  go_enter Tryd.func33, Tryd.ntmps33
  go_wp2
  go_loopg [0, 1] t0.dp (fun g n i wr => w = wr ∧ ∃ (t : T) (b k : Nat), g = t.dp ∧ n = .pointer (some ⟨b, 0, none⟩) ∧ i = .int .i64 (k : Nat) ∧ Hid (Node w t b) ∧ Hid (k < t.text.size) ∧ Hid (t.text.size ≤ 1048576) ∧ Hid (bt t.text k = V))
  case atStart => exact ⟨rfl, t0, b0, k0, rfl, rfl, rfl, Lib.hid hn, Lib.hid hk, Lib.hid (by omega), Lib.hid hV⟩
  case round =>
    obtain ⟨rfl, t, b, k, hg, rfl, rfl, hN, hK, hS, hB⟩ := hrel
    cases t with
    | leaf s =>
      obtain ⟨c6, c8⟩ := hN.out.leaf_cells
      have hK' : k < s.size := hK.out
      have hb0 : (0 : Int) ≤ k := by omega
      have hb1 : (k : Int) < s.size := by omega
      have hb2 : (s.size : Int) ≤ 1048576 := by have : s.size ≤ 1048576 := hS.out; omega
      have HG := Lib.hid hg
      clear hg
      go_wp2_with (go_at_call 43; refine (isLeaf_yes _ _ c6).mono ?_; rintro e w' ⟨rfl, rfl⟩)
      go_ret
      exact ⟨ret_int (by have : bt s k = V := hB.out; rw [← this, ← bt_eq hK']), rfl⟩
    | node l r =>
      obtain ⟨bl, br, hc, nl, nr⟩ := hN.out.mk
      have c6 : w.cell? ⟨b, 6, none⟩ = some (.pointer (some ⟨bl, 0, none⟩)) := cellOf hc rfl
      have c7 : w.cell? ⟨b, 7, none⟩ = some (.pointer (some ⟨br, 0, none⟩)) := cellOf hc rfl
      have l0 := nl.sz
      have hz : l.text.size + r.text.size ≤ 1048576 := by have : (l.text ++ r.text).size ≤ 1048576 := hS.out; rw [ByteArray.size_append] at this; exact this
      have hkz : k < l.text.size + r.text.size := by have : k < (l.text ++ r.text).size := hK.out; rw [ByteArray.size_append] at this; exact this
      have hBt : bt (l.text ++ r.text) k = V := hB.out
      have HG : Hid (gk = 1 + max l.dp r.dp) := Lib.hid hg
      have HL := Lib.hid nl
      have HR := Lib.hid nr
      have HZ := Lib.hid hz
      clear nl nr hc hg
      by_cases hl : k < l.text.size
      · have HB2 : Hid (bt l.text k = V) := Lib.hid (by rw [← hBt, bt_append_left hl])
        have HK2 := Lib.hid hl
        clear hBt hkz hz
        go_wp2_with (go_at_call 43; refine (isLeaf_no _ _ _ c6).mono ?_; rintro e w' ⟨rfl, rfl⟩)
        go_roundg l.dp
        case measure => rw [HG.out]; omega
        case rel => exact ⟨rfl, l, bl, k, rfl, rfl, rfl, HL, HK2, Lib.hid (by have := HZ.out; omega), HB2⟩
      · have e1 : IntKind.i64.wrap ((k : Int) - (l.text.size : Nat)) = ((k - l.text.size : Nat) : Int) := (IntWalk.i64_in _ (by omega)).trans (by omega)
        have HB2 : Hid (bt r.text (k - l.text.size) = V) := Lib.hid (by
          have := bt_append_right (a := l.text) (b := r.text) (i := k - l.text.size) (by omega)
          rw [show l.text.size + (k - l.text.size) = k from by omega] at this
          rw [← hBt, this])
        have HK2 : Hid (k - l.text.size < r.text.size) := Lib.hid (by omega)
        have hl' : l.text.size ≤ k := by omega
        have hb2 : (k : Int) ≤ 1048576 := by omega
        clear hBt hkz hz hl
        go_wp2_with (go_at_call 43; refine (isLeaf_no _ _ _ c6).mono ?_; rintro e w' ⟨rfl, rfl⟩)
        go_roundg r.dp
        case measure => rw [HG.out]; omega
        case rel => exact ⟨rfl, r, br, k - l.text.size, rfl, rfl, by go_num, HR, HK2, Lib.hid (by have := HZ.out; omega), HB2⟩
end Go.Proofs.YtcbmigkdmmmahaaDoor
