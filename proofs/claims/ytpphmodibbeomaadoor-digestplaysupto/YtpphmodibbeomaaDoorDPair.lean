/- DigestPlays: a nil hash; a pair in memory; within. -/
import Derived.Test.YtpphmodibbeomaaDoorDSpare
import Derived.Test.YtpphmodibbeomaaDoorRDSum
import Derived.Test.YtpphmodibbeomaaDoorDHeld
namespace Go.Proofs.YtpphmodibbeomaaDoor
open Go.RowKit
set_option linter.unusedVariables false
set_option linter.unusedSimpArgs false

set_option maxRecDepth 20000 in
theorem write_nil (ao : Option Addr) (n c : Nat) (w : World) : Calls Tryd.prog 18 #[.pointer none, .slice ao n c] w fun e w' => e = .returned (.tuple #[.int .i64 0, .iface 63 (.int .i64 1)]) ∧ w = w' := by
  go_enter Tryd.func18, Tryd.ntmps18
  go_wp2
  go_ret2
  exact ⟨rfl, rfl⟩
theorem build32 (w : World) : (Instr.build 26 #[]).run Tryd.prog w = .ok (.agg (u8s (zer 32)).toArray) w := by kernel_rfl
set_option maxRecDepth 20000 in
theorem sum_nil (w : World) : Calls Tryd.prog 20 #[.pointer none] w fun e w' => e = .returned (.agg (u8s (zer 32)).toArray) ∧ Below w.heap.size w w' := by
  go_enter Tryd.func20, Tryd.ntmps20
  go_wp2_with (first | (refine wpList_alloc_new rfl 26 rfl 32 _ zeroAH ?_; intro w1 b1 s1 l1) | (refine wpList_build rfl 26 _ rfl #[] (by simp) _ (build32 _) ?_) | (refine wpList_store_blk rfl 26 26 _ _ rfl _ rfl _ (u8s (zer 32)) rfl b1 rfl (by rw [u8s_length, zer_length]; exact sizeAH) (u8s_one _) ?_; intro w2 b2 s2 k2))
  exact ret_blk rfl w.heap.size (u8s (zer 32)) _ rfl b2 Tryd.underlying26 rfl (by rw [u8s_length, zer_length]; exact sizeAH) rfl ⟨rfl, below_kept l1 k2 (by omega) (fun j hj => by omega)⟩
theorem len_nil (w : World) : Calls Tryd.prog 21 #[.pointer none] w fun e w' => e = .returned (.int .u64 0) ∧ w = w' := by
  go_enter Tryd.func21, Tryd.ntmps21
  go_wp2
  go_ret
  exact ⟨rfl, rfl⟩
theorem copy_nil (w : World) : Calls Tryd.prog 16 #[.pointer none] w fun e w' => e = .returned (.pointer none) ∧ w = w' := by
  go_enter Tryd.func16, Tryd.ntmps16
  go_wp2
  go_ret
  exact ⟨rfl, rfl⟩
theorem reset_nil (w : World) : Calls Tryd.prog 29 #[.pointer none] w fun e w' => e = .returned (.tuple #[]) ∧ w = w' := by
  go_enter Tryd.func29, Tryd.ntmps29
  go_wp2
  go_end0
  exact ⟨rfl, rfl⟩
/-- A number from 0 to 2. -/
def inThree (i : Int) : Nat := (i % 3).toNat
theorem inThree_lt (i : Int) : inThree i < 3 := by unfold inThree; omega
theorem tmod3 (i : Int) : (0 ≤ i ∧ i.tmod 3 = i % 3) ∨ (i < 0 ∧ i.tmod 3 = -((-i) % 3)) := by
  rcases Int.lt_or_le i 0 with h | h
  · right
    refine ⟨h, ?_⟩
    have := Int.neg_tmod (-i) 3
    rw [Int.neg_neg] at this
    rw [this, Int.tmod_eq_emod_of_nonneg (by omega)]
  · exact .inl ⟨h, Int.tmod_eq_emod_of_nonneg h⟩
theorem within_any (i : Int) (hi : -9223372036854775808 ≤ i ∧ i ≤ 9223372036854775807) (w : World) : Calls Tryd.prog 15 #[.int .i64 i, .int .i64 3] w fun e w' => e = .returned (.int .i64 (inThree i)) ∧ w = w' := by
  have e0 : ((inThree i : Nat) : Int) = i % 3 := by unfold inThree; omega
  rw [e0]
  by_cases h : i.tmod 3 < 0
  · have e1 : i.tmod 3 + 3 = i % 3 := by have := tmod3 i; omega
    have e2 : -3 < i.tmod 3 := by have := tmod3 i; omega
    obtain ⟨y, hy⟩ : ∃ y, i.tmod 3 = y := ⟨_, rfl⟩
    rw [hy] at h e1 e2
    have HE : Hid (y + 3 = i % 3) := e1
    clear e1 e0
    go_enter Tryd.func15, Tryd.ntmps15
    go_wp2
    go_ret
    exact ⟨by rw [← HE.out]; rfl, rfl⟩
  · have e1 : i.tmod 3 = i % 3 := by have := tmod3 i; omega
    obtain ⟨y, hy⟩ : ∃ y, i.tmod 3 = y := ⟨_, rfl⟩
    rw [hy] at h e1
    have HE : Hid (y = i % 3) := e1
    clear e1 e0
    go_enter Tryd.func15, Tryd.ntmps15
    go_wp2
    go_ret
    exact ⟨by rw [← HE.out]; rfl, rfl⟩
/-- The bytes m in a row of their own, or none. -/
def AllAt (w : World) (so : Option Addr) (m : List Int) : Prop := m = [] ∨ ∃ b, so = some ⟨b, 0, none⟩ ∧ RowAt w b m
theorem AllAt.seen {w : World} {so : Option Addr} {m : List Int} (h : AllAt w so m) (hb : Bytes m) (ht : m.length ≤ 140737488355328) : Seen w so m.length m := by
  rcases h with rfl | ⟨b, rfl, hr⟩
  · exact Seen.empty _ _
  · have := Seen.of_row (n := m.length) hr (Nat.le_refl _) ht hb
    rwa [List.take_length] at this
theorem AllAt.kept {S : Nat → Prop} {w w' : World} {so : Option Addr} {m : List Int} (h : AllAt w so m) (hk : Kept S w w') (hS : ∀ b, S b → ∃ t vs, Blk w b t vs ∧ t ≠ 5) : AllAt w' so m := by
  rcases h with rfl | ⟨b, rfl, hr⟩
  · exact .inl rfl
  · refine .inr ⟨b, rfl, hr.kept hk fun hs => ?_⟩
    obtain ⟨t, vs, hb, ht⟩ := hS b hs
    obtain ⟨rest, h1⟩ := hr
    unfold Blk at hb
    rw [h1] at hb
    simp at hb
    exact ht hb.2.symm
/-- A pair in block P: its hash in block h, or nil; what it holds. -/
def pairC (h : Nat) (so : Option Addr) (c : Nat) : Option (List Int) → List Value
  | none => [.pointer none, .slice none 0 0, .bool true]
  | some m => [.pointer (some ⟨h, 0, none⟩), .slice so m.length c, .bool false]
structure PairAt (w : World) (P h : Nat) (so : Option Addr) (c : Nat) (st : Option (List Int)) : Prop where
  blk : Blk w P 39 (pairC h so c st)
  held : ∀ m, st = some m → Holds w h m ∧ AllAt w so m ∧ Bytes m ∧ m.length ≤ c ∧ m.length ≤ 1048576
theorem PairAt.kept {S : Nat → Prop} {w w' : World} {P h : Nat} {so : Option Addr} {c : Nat} {st : Option (List Int)} (p : PairAt w P h so c st) (hk : Kept S w w') (hP : ¬ S P) (hh : st ≠ none → ¬ S h) (hS : ∀ b, S b → ∃ t vs, Blk w b t vs ∧ t ≠ 5) : PairAt w' P h so c st :=
  ⟨p.blk.kept hk hP, fun m e => ⟨(p.held m e).1.kept hk (hh (by rw [e]; intro h; cases h)), (p.held m e).2.1.kept hk hS, (p.held m e).2.2⟩⟩
end Go.Proofs.YtpphmodibbeomaaDoor
