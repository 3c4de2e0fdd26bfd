/- Small numbers that came in: no more of them than there is room. -/
import Derived.Test.YtjpimamjcckieaaDoorIe
namespace Go.Proofs.YtjpimamjcckieaaDoor.Cin
open Go.ChangeShapes Go.WideShapes Go.ChangeAt Go.RowKit Ro Se
set_option linter.unusedVariables false

theorem i8s_le {H : Type} {enc : TypeId × Value → H} {W : World} {base : Nat} {sp : Nat → Bool} {hd : Bool} {fuel : Nat} {a : Option Addr} {len cap : Nat} {x : DataW H × List MemPlace}
    (h : DataW.trod enc Tryd.prog W base sp hd fuel 22 [.slice a len cap] = some x) : len ≤ cap := by
  rcases open_ints Tryd.underlying22 Tryd.underlying23 (by kernel_rfl) h with ⟨hcs, hx⟩ | ⟨a', len', cap', zs, hcs, _, hl, _⟩
  · injection hcs with hcs _
    injection hcs with _ h2 h3
    omega
  · injection hcs with hcs _
    injection hcs with _ h2 h3
    omega
end Go.Proofs.YtjpimamjcckieaaDoor.Cin
