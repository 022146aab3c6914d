/- A draw keeps what lies below. -/
import Derived.Test.YtdjmidoegidlbaaKm
namespace Go.Proofs.Ytdjmidoegidlbaa
open Go.RowKit

theorem dn {B : Nat} {a w : World} (h : Below B a w) (n : Nat) : Below B a (w.drewN n) := ⟨h.os, h.tape, h.output, h.size, h.block⟩

end Go.Proofs.Ytdjmidoegidlbaa
