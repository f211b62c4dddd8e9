/- The document's numbers of ladder: product, its ground. -/
import Derived.Test.YtnifolefhelmcaaQTim
import Derived.Test.YtnifolefhelmcaaQOf2
import Derived.Test.YtnifolefhelmcaaQClp
import Derived.Test.YtnifolefhelmcaaLdMath
namespace Go.Proofs.Ytnifolefhelmcaa
open Go.RowKit
set_option linter.unusedVariables false
set_option linter.unusedSimpArgs false

def isNd (x : Int) (v : Value) (w : World) : Prop := ∃ l, v = .agg (i64s l).toArray ∧ Nd l x
theorem isNd_later (x : Int) : ∀ v w w', Below w.heap.size w w' → isNd x v w → isNd x v w' := fun _ _ _ _ h => h
def isNw (x : Int) (v : Value) (w : World) : Prop := ∃ l, v = .agg (i64s l).toArray ∧ Nw l x
theorem isNw_later (x : Int) : ∀ v w w', Below w.heap.size w w' → isNw x v w → isNw x v w' := fun _ _ _ _ h => h
theorem Nw.len {l : List Int} {x : Int} (h : Nw l x) : l.length = 16 := h.dg.1
theorem qplusN (a b : List Int) (x y : Int) (ha : Nd a x) (hb : Nd b y) (w : World) :
    Calls Try.prog 124 #[.agg (i64s a).toArray, .agg (i64s b).toArray] w fun e w' => ∃ r, e = .returned (.agg (i64s r).toArray) ∧ Nw r ((x + y) % PR) ∧ Below w.heap.size w w' := by
  refine (qplus_any a b ha.big hb.big w).mono ?_
  rintro e w' ⟨rfl, l⟩
  exact ⟨_, rfl, nplus ha hb, l⟩
theorem qminusN (a b : List Int) (x y : Int) (ha : Nd a x) (hb : Nd b y) (w : World) :
    Calls Try.prog 125 #[.agg (i64s a).toArray, .agg (i64s b).toArray] w fun e w' => ∃ r, e = .returned (.agg (i64s r).toArray) ∧ Nw r ((x - y) % PR) ∧ Below w.heap.size w w' := by
  refine (qminus_any a b ha.big hb.big w).mono ?_
  rintro e w' ⟨rfl, l⟩
  exact ⟨_, rfl, nminus ha hb, l⟩
theorem qtimesC (a b : List Int) (x y : Int) (ha : Nw a x) (hb : Nw b y) (w : World) :
    Calls Try.prog 114 #[.agg (i64s a).toArray, .agg (i64s b).toArray] w fun e w' => ∃ r, e = .returned (.agg (i64s r).toArray) ∧ Nd r (y * x % PR) ∧ Below w.heap.size w w' := by
  rw [Int.mul_comm y x]; exact qtimes_any a b x y ha hb w
theorem qsmallN (n : Int) (h : 0 ≤ n ∧ n ≤ 65600) (w : World) :
    Calls Try.prog 123 #[.int .i64 n] w fun e w' => ∃ r, e = .returned (.agg (i64s r).toArray) ∧ Nd r n ∧ Below w.heap.size w w' := by
  refine (qsmall_any n w).mono ?_
  rintro e w' ⟨rfl, l⟩
  exact ⟨_, rfl, sm_nd n h, l⟩
theorem qsmallW (n : Int) (h : 0 ≤ n ∧ n ≤ 262144) (w : World) :
    Calls Try.prog 123 #[.int .i64 n] w fun e w' => ∃ r, e = .returned (.agg (i64s r).toArray) ∧ Nw r n ∧ Below w.heap.size w w' := by
  refine (qsmall_any n w).mono ?_
  rintro e w' ⟨rfl, l⟩
  exact ⟨_, rfl, sm_nw n h, l⟩
/-- Four numbers in the document's digits. -/
structure Nd4 (a b c d : List Int) (s : Int × Int × Int × Int) : Prop where
  a : Nd a s.1
  b : Nd b s.2.1
  c : Nd c s.2.2.1
  d : Nd d s.2.2.2
end Go.Proofs.Ytnifolefhelmcaa
