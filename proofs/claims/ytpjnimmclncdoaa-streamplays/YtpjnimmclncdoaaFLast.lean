/- The last operation of a region: a value. -/
import Derived.Test.YtpjnimmclncdoaaRInv
namespace Go.Proofs.Ytpjnimmclncdoaa
open Go.RowKit
theorem last_value {o : Oper} {a : Act} {w : World} {K : Act → World → Prop} {Q : Exit → Act → World → Prop} (d : Option Tmp) (hdst : o.dst = d) (v : Value) (hv : (execOp a.eval o).run Try.prog w = .ok (.value v) w) (h : K (a.put d v) w) : o.wp Try.prog a w K Q := by
  subst hdst
  unfold Oper.wp
  rw [hv]
  exact h
end Go.Proofs.Ytpjnimmclncdoaa
