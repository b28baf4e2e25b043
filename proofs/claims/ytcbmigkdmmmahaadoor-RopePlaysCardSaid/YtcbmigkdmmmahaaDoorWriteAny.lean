/- The program's write, at every tree. -/
import Derived.Test.YtcbmigkdmmmahaaDoorWrite
namespace Go.Proofs.YtcbmigkdmmmahaaDoor
open Go.RowKit

theorem write_any : ∀ (t : T) (B b bb : Nat) (x : ByteArray) (f u : Int) (w : World), NodeIn B w t b → B ≤ w.heap.size → IsB B bb x w → f ≤ u → -(1048576 - (t.text.size : Int)) ≤ f → f ≤ 1048576 → u ≤ 1048576 → x.size + t.text.size ≤ 1048576 →
    Calls Tryd.prog 35 #[.pointer (some ⟨b, 0, none⟩), .pointer (some ⟨bb, 0, none⟩), .int .i64 f, .int .i64 u] w (WrPost B bb (x ++ sl t.text f u) w) := by
  intro t
  induction t with
  | leaf s =>
    intro B b bb x f u w hn hB hi hfu hf hf2 hu hx
    have hx' : x.size + s.size ≤ 1048576 := hx
    have c0 : w.cell? ⟨b, 0, none⟩ = some (.int .i64 (s.size : Nat)) := cellOf hn.2 rfl
    show Calls _ _ _ _ (WrPost B bb (x ++ sl s f u) w)
    by_cases h1 : (s.size : Int) ≤ f
    · rw [sl_none (.inl h1), append_empty']
      refine (write_past b s.size _ f u w c0 h1).mono ?_
      rintro e w' ⟨rfl, rfl⟩
      exact ⟨rfl, hi, Below.refl _ _⟩
    by_cases h2 : u ≤ 0
    · rw [sl_none (.inr h2), append_empty']
      refine (write_low b s.size _ f u w c0 (by omega) h2).mono ?_
      rintro e w' ⟨rfl, rfl⟩
      exact ⟨rfl, hi, Below.refl _ _⟩
    · exact write_leaf B b bb (max f 0).toNat (min u s.size).toNat x s f u w hn.1 hB c0 (cellOf hn.2 rfl) (cellOf hn.2 rfl) (by omega) (by omega) (by omega) (by omega) (by omega) (by omega) (by omega) hx' hi
  | node l r ihl ihr =>
    intro B b bb x f u w hn hB hi hfu hf hf2 hu hx
    have hz : (T.node l r).text.size = l.text.size + r.text.size := ByteArray.size_append
    obtain ⟨h0, bl, br, hc, nl', nr⟩ := hn
    have c0 : w.cell? ⟨b, 0, none⟩ = some (.int .i64 ((T.node l r).text.size : Nat)) := cellOf hc rfl
    have l0 : w.cell? ⟨bl, 0, none⟩ = some (.int .i64 (l.text.size : Nat)) := by
      obtain ⟨p, q, c⟩ := node_cell nl'
      exact cellOf c rfl
    by_cases h1 : ((T.node l r).text.size : Int) ≤ f
    · rw [sl_none (.inl h1), append_empty']
      refine (write_past b _ _ f u w c0 h1).mono ?_
      rintro e w' ⟨rfl, rfl⟩
      exact ⟨rfl, hi, Below.refl _ _⟩
    by_cases h2 : u ≤ 0
    · rw [sl_none (.inr h2), append_empty']
      refine (write_low b _ _ f u w c0 (by omega) h2).mono ?_
      rintro e w' ⟨rfl, rfl⟩
      exact ⟨rfl, hi, Below.refl _ _⟩
    · have e : x ++ sl (T.node l r).text f u = x ++ sl l.text f u ++ sl r.text (f - l.text.size) (u - l.text.size) := by
        rw [ByteArray.append_assoc]
        congr 1
        exact sl_append _ _ _ _
      rw [e]
      have zl := sl_size l.text f u
      refine write_node B b bb bl br _ l.text.size x _ _ f u w h0 nl'.lt c0 (cellOf hc rfl) (cellOf hc rfl) l0 (by omega) (by omega) (by omega) (by omega) hu (by omega) hi ?_ ?_
      · intro W hd hi'
        exact ihl B bl bb x f u W (NodeIn.keep hd (Nat.le_refl _) nl') (Nat.le_trans hB hd.size) hi' hfu (by omega) hf2 hu (by omega)
      · intro W hd hi'
        exact ihr B br bb _ (f - l.text.size) (u - l.text.size) W (NodeIn.keep hd (Nat.le_refl _) nr) (Nat.le_trans hB hd.size) hi' (by omega) (by omega) (by omega) (by omega) (by rw [ByteArray.size_append]; omega)
end Go.Proofs.YtcbmigkdmmmahaaDoor
