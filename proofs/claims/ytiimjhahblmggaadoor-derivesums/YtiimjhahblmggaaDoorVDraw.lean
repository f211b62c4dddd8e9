/- A Draw of the statements: three lists and a number. -/
import Derived.Test.YtiimjhahblmggaaDoorOBase
namespace Go.Proofs.YtiimjhahblmggaaDoor
open Go.RowKit
set_option linter.unusedVariables false
set_option linter.unusedSimpArgs false

def dC (so : Option Addr) (sn sc : Nat) (xo : Option Addr) (xn xc : Nat) (io : Option Addr) (im ic : Nat) (N : Int) : List Value := [.slice so sn sc, .slice xo xn xc, .slice io im ic, .int .i64 N]
structure Dr (w : World) (so : Option Addr) (sn sc : Nat) (salt : List Int) (xo : Option Addr) (xn xc : Nat) (sec : List Int) (io : Option Addr) (im ic : Nat) (info : List Int) : Prop where
  fs : Seen w so sn salt
  fsc : sn ≤ sc
  fs0 : so = none → sc = 0
  fsn : sn ≤ 1048576
  fx : Seen w xo xn sec
  fxc : xn ≤ xc
  fx0 : xo = none → xc = 0
  fxn : xn ≤ 1048576
  fi : Seen w io im info
  fic : im ≤ ic
  fi0 : io = none → ic = 0
  fim : im ≤ 1048576
theorem Dr.later {w w' : World} {so : Option Addr} {sn sc : Nat} {salt : List Int} {xo : Option Addr} {xn xc : Nat} {sec : List Int} {io : Option Addr} {im ic : Nat} {info : List Int} (d : Dr w so sn sc salt xo xn xc sec io im ic info) (l : Below w.heap.size w w') : Dr w' so sn sc salt xo xn xc sec io im ic info :=
  ⟨d.fs.later l (Nat.le_refl _), d.fsc, d.fs0, d.fsn, d.fx.later l (Nat.le_refl _), d.fxc, d.fx0, d.fxn, d.fi.later l (Nat.le_refl _), d.fic, d.fi0, d.fim⟩
end Go.Proofs.YtiimjhahblmggaaDoor
