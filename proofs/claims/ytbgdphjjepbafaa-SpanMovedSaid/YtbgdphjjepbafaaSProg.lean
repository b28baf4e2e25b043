/- The program's functions over ranges answer as the document says. -/
import Derived.Test.YtbgdphjjepbafaaSMoveQ
namespace Go.Proofs.Ytbgdphjjepbafaa
open Go.RowKit

theorem spanC : SpanC where
  norm w A n c L h hn := norm_any w A n c L h.rgs (by omega)
  union w A A' n n' c c' L M h h' hn := union_any w A A' n n' c c' L M h.rgs h'.rgs (by omega)
  minus w A A' n n' c c' L M h h' hn := minus_any w A A' n n' c c' L M h.rgs h'.rgs (by omega)
  both w A A' n n' c c' L M h h' hn := both_any w A A' n n' c c' L M h.rgs h'.rgs (by omega)
  has_ w A n c L p h hn _ := pHas_any w A n c L h.rgs (by omega) p
  size w A n c L h hn := size_any w A n c L h.rgs hn
  move w A n c L a h hn _ := by
    by_cases hE : EdIn a
    · exact pMove_in w A n c L a h.rgs hn hE
    · exact pMove_out w A n c L a h.rgs hn hE
end Go.Proofs.Ytbgdphjjepbafaa
