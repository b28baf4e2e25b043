/- The body of the loop of the document's Scan; the frame at a round's head. -/
import Derived.Test.YtmfcapbllbfjnaaGreatDoorYScanA
namespace Go.Proofs.YtmfcapbllbfjnaaGreatDoor
open Go.RowKit

/-- The first loop of a code. -/
def fLoop : Code → Option Code
  | .loop c => some c
  | .seq a b => (fLoop a).or (fLoop b)
  | .block _ c => fLoop c
  | .scope c => fLoop c
  | .cond _ a b => (fLoop a).or (fLoop b)
  | _ => none
noncomputable def scanBody : Code := ((Tryz.f19.body.bind fLoop).getD .skip)
/-- The frame at a round's head. -/
structure Fr (a : Act) (t : ByteArray) (bo br p : Nat) : Prop where
  size : a.tmps.size = 262
  defs : a.defers = []
  s8 : a.tmps[8]? = some (.pointer (some ⟨br, 0, none⟩))
  s9 : a.tmps[9]? = some (.string t)
  s10 : a.tmps[10]? = some (.pointer (some ⟨bo, 0, none⟩))
  s11 : a.tmps[11]? = some (.int .i64 (p : Nat))
end Go.Proofs.YtmfcapbllbfjnaaGreatDoor
