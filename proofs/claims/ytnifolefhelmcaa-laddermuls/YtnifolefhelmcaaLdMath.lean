/- Layer ladder: plain facts: what is clamped, which of two ratios is which. -/
import Derived.Test.YtnifolefhelmcaaLdClamp
import Derived.Test.YtnifolefhelmcaaECInt
import Derived.Test.YtnifolefhelmcaaOPlain
namespace Go.Proofs.Ytnifolefhelmcaa
open Go.RowKit
set_option linter.unusedVariables false
set_option linter.unusedSimpArgs false

/-- Two ratios, or the other way round. -/
def swI (b : Bool) (s : Int × Int × Int × Int) : Int × Int × Int × Int := if b then (s.2.2.1, s.2.2.2, s.1, s.2.1) else s
theorem swI_step (u : Int) (b : Bool) (s : Int × Int × Int × Int) : stI u (swI b s).1 (swI b s).2.1 (swI b s).2.2.1 (swI b s).2.2.2 = swI b (bstI u b s) := by
  cases b <;> rfl
theorem swI_swI (a b : Bool) (s : Int × Int × Int × Int) : swI (a != b) (swI a s) = swI b s := by
  cases a <;> cases b <;> rfl
/-- Four rows of limbs that stand for four numbers. -/
structure Fe4 (a b c d : List Int) (s : Int × Int × Int × Int) : Prop where
  a : Fe a s.1
  b : Fe b s.2.1
  c : Fe c s.2.2.1
  d : Fe d s.2.2.2
theorem xor_par (x y : Int) (hx : Word x) (hy : Word y) : Word (bits .xor .u64 x y) ∧ (bits .xor .u64 x y % 2 == 1) = ((x % 2 == 1) != (y % 2 == 1)) := by
  rw [u64_xor x y hx.1 hx.2 hy.1 hy.2]
  have h1 : x.toNat < 2 ^ 64 := by have := hx.2; have := hx.1; omega
  have h2 : y.toNat < 2 ^ 64 := by have := hy.2; have := hy.1; omega
  have h3 := Nat.xor_lt_two_pow h1 h2
  have h4 : (x.toNat ^^^ y.toNat) % 2 = (x.toNat + y.toNat) % 2 := by
    have h := Nat.testBit_xor x.toNat y.toNat 0
    rw [Nat.testBit_zero, Nat.testBit_zero, Nat.testBit_zero] at h
    rcases Nat.mod_two_eq_zero_or_one x.toNat with q | q <;> rcases Nat.mod_two_eq_zero_or_one y.toNat with r | r <;> rcases Nat.mod_two_eq_zero_or_one (x.toNat ^^^ y.toNat) with s | s <;> rw [Nat.add_mod, q, r, s] <;> rw [q, r, s] at h <;> first | rfl | (exfalso; revert h; decide)
  generalize x.toNat ^^^ y.toNat = z at *
  refine ⟨⟨by omega, by omega⟩, ?_⟩
  obtain ⟨a, rfl⟩ := Int.eq_ofNat_of_zero_le hx.1
  obtain ⟨b, rfl⟩ := Int.eq_ofNat_of_zero_le hy.1
  simp only [Int.toNat_natCast] at h4
  have e : ∀ n : Nat, ((n : Int) % 2 == 1) = (n % 2 == 1) := fun n => by
    rcases Nat.mod_two_eq_zero_or_one n with q | q
    · rw [q, show (n : Int) % 2 = 0 by omega]; rfl
    · rw [q, show (n : Int) % 2 = 1 by omega]; rfl
  rw [e, e, e, h4]
  rcases Nat.mod_two_eq_zero_or_one a with q | q <;> rcases Nat.mod_two_eq_zero_or_one b with r | r <;> rw [q, r, Nat.add_mod, q, r] <;> rfl
theorem clampL_bytes (ks : List Int) (hb : Bytes ks) (hl : ks.length = 32) : Bytes (clampL ks) := by
  have h0 := hb.at 0 (by omega)
  have h1 := hb.at 31 (by omega)
  intro z hz
  unfold clampL at hz
  rcases List.mem_or_eq_of_mem_set hz with h | h
  · rcases List.mem_or_eq_of_mem_set h with h | h
    · exact hb z h
    · omega
  · omega
theorem le_cons (a : Int) (l : List Int) : le (a :: l) = a + 256 * le l := rfl
theorem ends (ks : List Int) (hl : ks.length = 32) : ∃ a m z, ks = a :: (m ++ [z]) ∧ m.length = 30 := by
  match ks, hl with
  | a :: l, h =>
    have h1 : l.length = 31 := by simpa using h
    refine ⟨a, l.take 30, l.getD 30 0, ?_, by simp [h1]⟩
    have e : l = l.take 30 ++ l.drop 30 := (List.take_append_drop 30 l).symm
    have e2 : l.drop 30 = [l.getD 30 0] := by
      have h2 : (l.drop 30).length = 1 := by simp [h1]
      match hd : l.drop 30, h2 with
      | [z], _ =>
        have : l[30]? = some z := by rw [show (30 : Nat) = 30 + 0 from rfl, ← List.getElem?_drop, hd]; rfl
        simp [List.getD, this]
    rw [← e2, ← e]
theorem clamp_ends (a z : Int) (m : List Int) (hm : m.length = 30) : clampL (a :: (m ++ [z])) = (a - a % 8) :: (m ++ [z % 64 + 64]) := by
  unfold clampL
  have e : (a :: (m ++ [z])).getD 31 0 = z := by
    simp [List.getD, List.getElem?_append_right, hm]
  rw [e]
  show ((a - a % 8) :: (m ++ [z])).set 31 (z % 64 + 64) = _
  rw [List.set_cons_succ, List.set_append_right _ _ (by omega), hm]
  rfl
theorem le_last (m : List Int) (z : Int) : le (m ++ [z]) = le m + 256 ^ m.length * z := by
  induction m with
  | nil => show z + 256 * 0 = 0 + 256 ^ 0 * z; rw [Int.pow_zero]; omega
  | cons a m ih =>
    show a + 256 * le (m ++ [z]) = a + 256 * le m + 256 ^ (m.length + 1) * z
    rw [ih, Int.mul_add, Int.pow_succ, Int.mul_comm (256 ^ m.length) 256, Int.mul_assoc]; omega
theorem le_ends (a z : Int) (m : List Int) (hm : m.length = 30) : le (a :: (m ++ [z])) = a + 256 * le m + 452312848583266388373324160190187140051835877600158453279131187530910662656 * z := by
  rw [le_cons, le_last, hm, Int.mul_add, ← Int.mul_assoc]
  rw [show (256 : Int) * 256 ^ 30 = 452312848583266388373324160190187140051835877600158453279131187530910662656 by decide]; omega
theorem cl_of (ks : List Int) (hl : ks.length = 32) (hb : Bytes ks) : EC.Cl (le (clampL ks)).toNat := by
  obtain ⟨a, m, z, rfl, hm⟩ := ends ks hl
  have ha := hb a (by simp)
  have hz := hb z (by simp)
  have hmb : Bytes m := fun y hy => hb y (by simp [hy])
  have h1 := le_bd m hmb
  rw [hm, show (256 : Int) ^ 30 = 1766847064778384329583297500742918515827483896875618958121606201292619776 by decide] at h1
  rw [clamp_ends a z m hm, le_ends _ _ m hm]
  generalize le m = L at *
  refine ⟨?_, ?_, ?_⟩
  · rw [show (2 : Nat) ^ 255 = 57896044618658097711785492504343953926634992332820282019728792003956564819968 by decide]; omega
  · rw [show (2 : Nat) ^ 254 = 28948022309329048855892746252171976963317496166410141009864396001978282409984 by decide]; omega
  · omega
theorem clamp_twice (ks : List Int) (hl : ks.length = 32) : clampL (clampL ks) = clampL ks := by
  obtain ⟨a, m, z, rfl, hm⟩ := ends ks hl
  rw [clamp_ends a z m hm, clamp_ends _ _ m hm]
  congr 1
  · omega
  · congr 2; omega
/-- A public key's number. -/
def pubN (us : List Int) : Int := le us % 57896044618658097711785492504343953926634992332820282019728792003956564819968 % PR
/-- The product of two keys. -/
def prodN (ks us : List Int) : Int := mulI (le (clampL ks)).toNat (pubN us)
def prodL (ks us : List Int) : List Int := leB 32 (prodN ks us)
theorem pubN_bd (us : List Int) : 0 ≤ pubN us ∧ pubN us < PR := ⟨Int.emod_nonneg _ (by decide), Int.emod_lt_of_pos _ (by decide)⟩
theorem prodN_bd (ks us : List Int) : 0 ≤ prodN ks us ∧ prodN ks us < PR := mulI_bd _ _
theorem pub_leB (x : Int) (h : 0 ≤ x ∧ x < PR) : pubN (leB 32 x) = x := by
  unfold pubN
  rw [le_leB, show (256 : Int) ^ 32 = 115792089237316195423570985008687907853269984665640564039457584007913129639936 by decide]
  unfold PR at *
  omega
theorem pub_prod (ks us : List Int) : pubN (prodL ks us) = prodN ks us := pub_leB _ (prodN_bd _ _)
theorem prodL_length (ks us : List Int) : (prodL ks us).length = 32 := leB_length _ _
theorem prodL_bytes (ks us : List Int) : Bytes (prodL ks us) := leB_bytes _ _
theorem prodL_zero (ks us : List Int) : prodL ks us = List.replicate 32 0 ↔ prodN ks us = 0 := by
  refine ⟨fun h => ?_, fun h => by unfold prodL; rw [h]; decide +kernel⟩
  have := congrArg pubN h
  rw [pub_prod] at this
  rw [this]; decide +kernel
theorem tb_of (n m : Nat) : n.testBit m = (((n / 2 ^ m % 2 : Nat) : Int) == 1) := by
  rw [Nat.testBit_eq_decide_div_mod_eq]
  rcases Nat.mod_two_eq_zero_or_one (n / 2 ^ m) with q | q <;> rw [q] <;> rfl
end Go.Proofs.Ytnifolefhelmcaa
