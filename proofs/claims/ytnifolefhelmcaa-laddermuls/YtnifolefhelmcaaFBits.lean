/- Layer field: bitsFromTop and the function that it makes. -/
import Derived.Test.YtnifolefhelmcaaFOf
namespace Go.Proofs.Ytnifolefhelmcaa
open Go.RowKit
set_option linter.unusedVariables false
set_option linter.unusedSimpArgs false

set_option maxRecDepth 20000 in
set_option maxHeartbeats 1000000 in
theorem bits_any (es : List Int) (hl : es.length = 32) (w : World) :
    Calls Try.prog 116 #[.agg (u8s es).toArray] w fun e w' => ∃ gL gE, e = .returned (.func (.func 129) #[] #[.pointer (some ⟨gL, 0, none⟩), .pointer (some ⟨gE, 0, none⟩)]) ∧ w.heap.size ≤ gL ∧ w.heap.size ≤ gE ∧ Blk w' gL 3 [.int .i64 256] ∧ Blk w' gE 29 (u8s es) ∧ Below w.heap.size w w' := by
  clear hl
  go_enter Try.func116, Try.ntmps116
  go_wp2_with (refine wpList_box_new rfl 29 (.tmp 0) rfl (u8s es) rfl ?_; intro x1 z1 s1 l1)
  have l2 : Below x1.heap.size x1 (x1.alloc (Obj.cells #[Value.int IntKind.i64 256] 3)) := (Below.refl _ _).alloc (Nat.le_refl _) _
  have b2 : Blk (x1.alloc (Obj.cells #[Value.int IntKind.i64 256] 3)) (w.heap.size + 1) 3 [.int .i64 256] := by
    rw [← s1]
    exact heap_alloc_new x1 _
  go_ret
  exact ⟨w.heap.size + 1, w.heap.size, rfl, by omega, Nat.le_refl _, b2, z1.later l2 (by omega), below_chain l1 l2 (by omega)⟩
/-- The bit of a number in 32 bytes. -/
theorem bit_of (es : List Int) (hl : es.length = 32) (hb : Bytes es) (n : Nat) (hn : n < 256) : (es.getD (n / 8) 0 / 2 ^ (n % 8)) % 2 = (((le es).toNat / 2 ^ n % 2 : Nat) : Int) := by
  have h0 := (le_bd es hb).1
  obtain ⟨E, hE⟩ := Int.eq_ofNat_of_zero_le h0
  have e1 : es.getD (n / 8) 0 = le es / 256 ^ (n / 8) % 256 := by
    have h := leB_at 32 (le es) (n / 8) (by omega)
    rw [← hl, leB_le es hb] at h
    exact h
  rw [e1, hE]
  have e2 : (E : Int) / 256 ^ (n / 8) = ((E / 256 ^ (n / 8) : Nat) : Int) := by simp
  have e3 : E / 2 ^ n = E / 256 ^ (n / 8) / 2 ^ (n % 8) := by
    rw [Nat.div_div_eq_div_mul]
    congr 1
    rw [show (256 : Nat) = 2 ^ 8 from rfl, ← Nat.pow_mul, ← Nat.pow_add]
    congr 1
    omega
  rw [e2, Int.toNat_natCast, e3]
  generalize E / 256 ^ (n / 8) = A
  have hf : n % 8 < 8 := Nat.mod_lt _ (by decide)
  generalize n % 8 = f at hf
  have : f = 0 ∨ f = 1 ∨ f = 2 ∨ f = 3 ∨ f = 4 ∨ f = 5 ∨ f = 6 ∨ f = 7 := by omega
  rcases this with rfl | rfl | rfl | rfl | rfl | rfl | rfl | rfl <;> simp only [Int.reducePow, Nat.reducePow] <;> omega
set_option maxRecDepth 20000 in
set_option maxHeartbeats 1000000 in
theorem clo_any (es : List Int) (hl : es.length = 32) (hb : Bytes es) (n : Nat) (hn : n < 256) (gL gE : Nat) (w : World) (hL : Blk w gL 3 [.int .i64 ((n : Int) + 1)]) (hE : Blk w gE 29 (u8s es)) :
    Calls Try.prog 129 #[.pointer (some ⟨gL, 0, none⟩), .pointer (some ⟨gE, 0, none⟩)] w fun e w' => e = .returned (.int .u64 (es.getD (n / 8) 0 / 2 ^ (n % 8))) ∧ Blk w' gL 3 [.int .i64 (n : Int)] ∧ Kept (fun k => k = gL) w w' := by
  have hne : gE ≠ gL := fun e => by
    subst e
    unfold Blk at hL hE
    rw [hE] at hL
    simp at hL
  obtain ⟨q, hq⟩ : ∃ q : Nat, n / 8 = q := ⟨_, rfl⟩
  obtain ⟨f, hf⟩ : ∃ f : Nat, n % 8 = f := ⟨_, rfl⟩
  have hq32 : q < 32 := by omega
  have hf8 : f < 8 := by omega
  have hX : 0 ≤ es.getD q 0 ∧ es.getD q 0 < 256 := by have := hb.at q (by rw [hl]; exact hq32); omega
  have cL : w.cell? ⟨gL, 0, none⟩ = some (.int .i64 ((n : Int) + 1)) := hL.cell 0
  have cE : w.cell? ⟨gE, q, none⟩ = some (.int .u8 (es.getD q 0)) := u8s_cell hE q (by rw [hl]; exact hq32)
  have fL := hL.frozen 0
  rw [hq, hf]
  obtain ⟨X, hXX⟩ : ∃ z, es.getD q 0 = z := ⟨_, rfl⟩
  rw [hXX] at hX cE ⊢
  have j1 : IntKind.i64.wrap ((n : Int) + 1 - 1) = (n : Int) := by simp only [IntKind.wrap, IntKind.bits, IntKind.signed]; simp; omega
  have j0 : (n : Int) + 1 - 1 = (n : Int) := by omega
  have j9 : IntKind.i64.wrap (n : Int) = (n : Int) := by simp only [IntKind.wrap, IntKind.bits, IntKind.signed]; simp; omega
  have j2 : Int.tdiv (n : Int) 8 = (q : Int) := by rw [Int.tdiv_eq_ediv_of_nonneg (by omega)]; omega
  have j3 : Int.tmod (n : Int) 8 = (f : Int) := by rw [Int.tmod_eq_emod_of_nonneg (by omega)]; omega
  have j4 : (q : Int) < 32 := by omega
  have j5 : (0 : Int) ≤ (q : Int) := by omega
  have j7 : (0 : Int) ≤ (f : Int) := by omega
  have hD : 0 ≤ X / 2 ^ f ∧ X / 2 ^ f < 256 := by
    have : f = 0 ∨ f = 1 ∨ f = 2 ∨ f = 3 ∨ f = 4 ∨ f = 5 ∨ f = 6 ∨ f = 7 := by omega
    rcases this with rfl | rfl | rfl | rfl | rfl | rfl | rfl | rfl <;> simp only [Int.reducePow] <;> omega
  have j8 : IntKind.u64.wrap (X / 2 ^ f) = X / 2 ^ f := by rw [IntKind.wrap_u64]; omega
  have HB : Hid (Blk w gL 3 [.int .i64 ((n : Int) + 1)]) := hL
  clear hL hE hq hf hXX hl hb hX hn
  go_enter Try.func129, Try.ntmps129
  go_wp2_with fail
  go_quiet (fail)
  go_wp2_with fail
  go_ret
  refine ⟨rfl, ?_, ?_⟩
  · exact (HB.out.set 0 (.int .i64 (n : Int))).drewN nq
  · exact ((Kept.refl (fun k => k = gL) w).setCell rfl _).drewN nq
end Go.Proofs.Ytnifolefhelmcaa
