/- The walk of RecordOrder. -/
import Derived.Test.YtabdjoljdefjdaaRecOrdB
import Derived.Test.YtabdjoljdefjdaaRecOrdC
import Derived.Test.YtabdjoljdefjdaaRecOrdD
import Derived.Test.YtabdjoljdefjdaaRecOrdE
import Derived.Test.YtabdjoljdefjdaaRecOrdF
import Derived.Test.YtabdjoljdefjdaaRecOrdG
import Derived.Test.YtabdjoljdefjdaaRecOrdH
import Derived.Test.YtabdjoljdefjdaaRecOrdI
namespace Go.Proofs.Ytabdjoljdefjdaa.recordOrder
open Go.RowKit
set_option linter.unusedVariables false
set_option linter.unusedSimpArgs false

theorem walk (ao : Option Addr) (n c : Nat) (xs : List Int) (bo : Option Addr) (m d : Nat) (ys : List Int) (co : Option Addr) (l e : Nat) (zs : List Int) (w : World) (hx : Seen w ao n xs) (hn : n ≤ 140737488351232) (fa : ao = none → c = 0) (hc : n ≤ c) (hy : Seen w bo m ys) (hm : m ≤ 140737488351232) (fb : bo = none → d = 0) (hd' : m ≤ d) (hz : Seen w co l zs) (hl : l ≤ 140737488351232) (fc : co = none → e = 0) (he : l ≤ e) :
    Calls Try.prog 9 #[.slice ao n c, .slice bo m d, .slice co l e] w fun r w' => r = .returned (.bool true) ∧ Below w.heap.size w w' := by
  cases hr : (isR xs && isR ys) with
  | false => exact walk_bad ao n c xs bo m d ys co l e zs w hx hn fa hc hy hm fb hd' hz hl fc he hr
  | true =>
    rw [Bool.and_eq_true] at hr
    have lX : (psX xs).live = 0 ∨ (psX xs).live = 1 := by rw [psX, if_pos hr.1]; exact (isR_first hx.bytes hr.1).1
    have lY : (psX ys).live = 0 ∨ (psX ys).live = 1 := by rw [psX, if_pos hr.2]; exact (isR_first hy.bytes hr.2).1
    by_cases hi : (psX xs).index = (psX ys).index
    · rcases lX with x0 | x0 <;> rcases lY with y0 | y0
      · exact walk_eq00 ao n c xs bo m d ys co l e zs w hx hn fa hc hy hm fb hd' hz hl fc he hr.1 hr.2 hi x0 y0
      · exact walk_eq01 ao n c xs bo m d ys co l e zs w hx hn fa hc hy hm fb hd' hz hl fc he hr.1 hr.2 hi x0 y0
      · exact walk_eq10 ao n c xs bo m d ys co l e zs w hx hn fa hc hy hm fb hd' hz hl fc he hr.1 hr.2 hi x0 y0
      · exact walk_eq11 ao n c xs bo m d ys co l e zs w hx hn fa hc hy hm fb hd' hz hl fc he hr.1 hr.2 hi x0 y0
    · rcases lX with x0 | x0 <;> rcases lY with y0 | y0
      · exact walk_ne00 ao n c xs bo m d ys co l e zs w hx hn fa hc hy hm fb hd' hz hl fc he hr.1 hr.2 hi x0 y0
      · exact walk_ne01 ao n c xs bo m d ys co l e zs w hx hn fa hc hy hm fb hd' hz hl fc he hr.1 hr.2 hi x0 y0
      · exact walk_ne10 ao n c xs bo m d ys co l e zs w hx hn fa hc hy hm fb hd' hz hl fc he hr.1 hr.2 hi x0 y0
      · exact walk_ne11 ao n c xs bo m d ys co l e zs w hx hn fa hc hy hm fb hd' hz hl fc he hr.1 hr.2 hi x0 y0
end Go.Proofs.Ytabdjoljdefjdaa.recordOrder
