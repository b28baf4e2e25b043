/- The program's Put, at every number: the bytes of the character, or nothing. -/
import Derived.Test.YtcbmigkdmmmahaaDoorULen
import Derived.Handy
import Derived.Laws.BytesArg
namespace Go.Proofs.YtcbmigkdmmmahaaDoor
open Go.RowKit

theorem need_at (c : Nat) : (c < 128 ∧ need c = 1) ∨ (128 ≤ c ∧ c < 2048 ∧ need c = 2) ∨ (2048 ≤ c ∧ c < 65536 ∧ need c = 3) ∨ (65536 ≤ c ∧ need c = 4) := by
  unfold need; repeat' split
  all_goals omega

/-- The character's bytes, as a string. -/
def encS (c : Nat) : ByteArray := strOfNums ((enc c).map fun n : Nat => (n : Int))
def putS (c : Int) : ByteArray := if isCI c = true then encS c.toNat else ByteArray.empty
def PutSays (c : Int) (w : World) (e : Ending) (w' : World) : Prop := e = .returned (.tuple #[.string (putS c), .bool (isCI c)]) ∧ Up w w'
theorem putSays {c : Int} {s : ByteArray} {b : Bool} {w w' : World} {e : Ending} (h1 : putS c = s) (h2 : isCI c = b) (he : e = .returned (.tuple #[.string s, .bool b])) (hu : Up w w') : PutSays c w e w' := by
  unfold PutSays; rw [h1, h2]; exact ⟨he, hu⟩
theorem putS_yes {c : Nat} {l : List Int} (hi : isC c = true) (hl : l = (enc c).map fun n : Nat => (n : Int)) : putS c = strOfNums l := by
  unfold putS; rw [if_pos (by rw [isCI_nat]; exact hi), hl]; rfl

theorem wlater (x : Nat) (hx : x < 2147483648) : bits BinOp.or IntKind.u8 128 (bits BinOp.and IntKind.i32 (x : Int) 63 % 256) = ((128 + x % 64 : Nat) : Int) := by
  have e := i32_and_nat x 63 hx (by omega)
  rw [nat_mask6] at e
  rw [show (63 : Int) = ((63 : Nat) : Int) from rfl, e, show ((x % 64 : Nat) : Int) % 256 = ((x % 64 : Nat) : Int) from by omega]
  have h := u8_or_nat 128 (x % 64) (by omega) (by omega)
  rw [nat_join 7 128 (x % 64) (by omega) (by omega)] at h
  exact h
theorem wfirst (l i x : Nat) (hl : l < 256) (hi : l % 2 ^ i = 0) (hx : x < 2 ^ i) (hx2 : x < 256) : bits BinOp.or IntKind.u8 (l : Int) ((x : Int) % 256) = ((l + x : Nat) : Int) := by
  rw [show (x : Int) % 256 = (x : Int) from by omega, u8_or_nat l x hl hx2, nat_join i l x hi hx]

theorem conv_new (w : World) (l : List Int) (n c : Nat) (hn : l.length = n) :
    (convert 70 9 (.slice (some ⟨w.heap.size, 0, none⟩) n c)).run Tryd.prog (w.alloc (.cells (l.map (Value.int .u8)).toArray 5)) = .ok (.string (strOfNums l)) (w.alloc (.cells (l.map (Value.int .u8)).toArray 5)) := by
  refine run_convert_bytes_arg _ 70 5 Tryd.underlying70 Tryd.underlying5 _ 0 n c l hn (fun i hi => ?_) _ Tryd.underlying9
  have h : (w.alloc (.cells (l.map (Value.int .u8)).toArray 5)).heap[w.heap.size]? = some (.cells (l.map (Value.int .u8)).toArray 5) := by
    show (w.heap.push _)[w.heap.size]? = _
    simp
  have hi' : i < l.length := by omega
  unfold World.cell?
  simp only [h]
  simp [hi']

end Go.Proofs.YtcbmigkdmmmahaaDoor
