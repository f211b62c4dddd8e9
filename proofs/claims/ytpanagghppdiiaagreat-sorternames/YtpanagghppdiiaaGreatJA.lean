/- Joined by program: what the theorem reaches. -/
import Derived.Test.YtpanagghppdiiaaGreatRows
import Derived.WalkKit
import Derived.WalkSpells
import Derived.WalkLawsBesides
import Derived.RowKit
import Derived.Laws.BitsAllLaws
import Derived.Deep.RegionHeld3
import Derived.Deep.DrawnRows
import Derived.BigRegion
import Derived.Deep.Draws
import Derived.Deep.QuietTactic
import Derived.BigQuiet
import Derived.OpenShut
import Derived.Deep.AppendLies
import Derived.Laws.AppendOwnNone
import Derived.Deep.WholeRow
import Derived.Deep.MidRow
import Derived.Laws.OwnMore
import Derived.Lib.SliceRun
import Derived.Maps.AppendAt
import Derived.Laws.CopyOwn
namespace Go.Proofs.YtpanagghppdiiaaGreat
open Go.RowKit
set_option linter.unusedVariables false
set_option linter.unusedSimpArgs false
set_option maxRecDepth 20000
set_option maxHeartbeats 2000000
theorem sqA {α : Type} (l : List α) (i : Nat) (a : α) : l.toArray.setIfInBounds i a = (l.set i a).toArray := List.setIfInBounds_toArray ..
theorem sqB {α : Type} (x : α) (l : List α) (a : α) : (x :: l).set 0 a = a :: l := rfl
theorem sqC {α : Type} (x : α) (l : List α) (i : Nat) (a : α) : (x :: l).set (i + 1) a = x :: l.set i a := rfl
attribute [local go_sem ↓] Go.wp_at_zero Go.wp_at_succ
abbrev Word (x : Int) : Prop := 0 ≤ x ∧ x < 18446744073709551616
theorem ret_int {k : IntKind} {a b : Int} (h : a = b) : Ending.returned (.int k a) = .returned (.int k b) := by rw [h]
structure Kept (S : Nat → Prop) (w w' : World) : Prop where
 os : w'.os = w.os
 tape : w'.tape = w.tape
 output : w'.output = w.output
 size : w.heap.size ≤ w'.heap.size
 block : ∀ k, k < w.heap.size → ¬ S k → w'.heap[k]? = w.heap[k]?
theorem Kept.refl (S : Nat → Prop) (w : World) : Kept S w w := ⟨rfl, rfl, rfl, Nat.le_refl _, fun _ _ _ => rfl⟩
theorem Kept.trans {S : Nat → Prop} {a b c : World} (h : Kept S a b) (k : Kept S b c) : Kept S a c :=
 ⟨k.os.trans h.os, k.tape.trans h.tape, k.output.trans h.output, Nat.le_trans h.size k.size, fun i hi hs => (k.block i (Nat.lt_of_lt_of_le hi h.size) hs).trans (h.block i hi hs)⟩
theorem Kept.mono {S T : Nat → Prop} {a b : World} (h : Kept S a b) (hST : ∀ k, S k → T k) : Kept T a b :=
 ⟨h.os, h.tape, h.output, h.size, fun i hi hs => h.block i hi (fun x => hs (hST i x))⟩
theorem Kept.drew {S : Nat → Prop} {a w : World} (h : Kept S a w) : Kept S a w.drew := ⟨h.os, h.tape, h.output, h.size, h.block⟩
theorem Kept.setCell {S : Nat → Prop} {a w : World} (h : Kept S a w) {p : Addr} (hp : S p.block) (u : Value) : Kept S a (w.setCell p u) :=
 h.trans ⟨rfl, rfl, rfl, by simp [World.setCell], fun k _ hs => Below.heap_setCell _ _ _ _ (fun e => hs (e ▸ hp))⟩
theorem Kept.below {S : Nat → Prop} {a w : World} (h : Kept S a w) {B : Nat} (hB : B ≤ a.heap.size) (hS : ∀ k, S k → B ≤ k) : Below B a w :=
 ⟨h.os, h.tape, h.output, h.size, fun k hk => h.block k (by omega) (fun x => by have := hS k x; omega)⟩
def RowAt (w : World) (g : Nat) (zs : List Int) : Prop := ∃ rest : List Value, w.heap[g]? = some (.cells (zs.map (Value.int .u8) ++ rest).toArray 5 (0, 0))
theorem RowAt.cell {w : World} {g : Nat} {zs : List Int} (h : RowAt w g zs) (j : Nat) (hj : j < zs.length) : w.cell? ⟨g, j, none⟩ = some (.int .u8 (zs.getD j 0)) := by
 obtain ⟨rest, h⟩ := h
 rw [cell_of_row w g j _ 5 (0, 0) h]
 simp [hj, List.getElem?_append]
theorem RowAt.frozen {w : World} {g : Nat} {zs : List Int} (h : RowAt w g zs) (j : Nat) : w.frozen? ⟨g, j, none⟩ = false := by
 obtain ⟨rest, h⟩ := h
 exact frozen_of_row w g j _ 5 h
theorem RowAt.lt {w : World} {g : Nat} {zs : List Int} (h : RowAt w g zs) : g < w.heap.size := by
 obtain ⟨rest, h⟩ := h
 rcases Nat.lt_or_ge g w.heap.size with h' | h'
 ·exact h'
 ·rw [Array.getElem?_eq_none h'] at h; cases h
theorem RowAt.block {w w' : World} {g : Nat} {zs : List Int} (h : RowAt w g zs) (e : w'.heap[g]? = w.heap[g]?) : RowAt w' g zs := by
 obtain ⟨rest, h⟩ := h
 exact ⟨rest, by rw [e]; exact h⟩
theorem RowAt.of_own {w : World} {base : Nat} {g n cap : Nat} {zs : List Int} (h : w.ownsRow base 5 1 (.slice (some ⟨g, 0, none⟩) n cap) n (zs.map (Value.int .u8))) : RowAt w g zs ∧ base ≤ g ∧ n ≤ cap ∧ cap ≤ maxLen ∧ zs.length = n := by
 obtain ⟨hl, h⟩ := h
 rcases h with ⟨h, _⟩ | ⟨g', cap', cur, h, hb, hh, hc, hm, hs, ht⟩
 ·cases h
 ·simp only [Value.slice.injEq, Option.some.injEq, Addr.mk.injEq, and_true, true_and] at h
  obtain ⟨rfl, rfl⟩ := h
  rw [Nat.mul_one] at ht
  refine ⟨⟨cur.toList.drop n, ?_⟩, hb, hc, hm, by simpa using hl⟩
  rw [← ht, List.take_append_drop]; simpa using hh
def Bytes (zs : List Int) : Prop := ∀ z ∈ zs, 0 ≤ z ∧ z < 256
theorem Bytes.at {zs : List Int} (h : Bytes zs) (j : Nat) (hj : j < zs.length) : 0 ≤ zs.getD j 0 ∧ zs.getD j 0 < 256 := by
 have e : zs.getD j 0 = zs[j] := by simp [List.getD, hj]
 rw [e]; exact h _ (List.getElem_mem hj)
theorem Kept.cell {S : Nat → Prop} {w w' : World} (h : Kept S w w') {p : Addr} (hp : p.block < w.heap.size) (hS : ¬ S p.block) : w'.cell? p = w.cell? p := World.cell?_of_block (w := w) (h.block p.block hp hS)
theorem ret_bool {a b : Bool} (h : a = b) : Ending.returned (.bool a) = .returned (.bool b) := by rw [h]
structure Seen (w : World) (ao : Option Addr) (n : Nat) (zs : List Int) : Prop where
 len : zs.length = n
 top : n ≤ 140737488355328
 bytes : Bytes zs
 cells : 0 < n → ∃ b o, ao = some ⟨b, o, none⟩ ∧ b < w.heap.size ∧ ∀ i, i < n → w.cell? ⟨b, o + i, none⟩ = some (.int .u8 (zs.getD i 0))
theorem Seen.later {w w' : World} {ao : Option Addr} {n : Nat} {zs : List Int} (h : Seen w ao n zs) {B : Nat} (hb : Below B w w') (hB : w.heap.size ≤ B) : Seen w' ao n zs :=
 ⟨h.len, h.top, h.bytes, fun hn => by
  obtain ⟨b, o, e, hlt, hc⟩ := h.cells hn
  exact ⟨b, o, e, Nat.lt_of_lt_of_le hlt hb.size, fun i hi => (hb.cell (p := ⟨b, o + i, none⟩) (Nat.lt_of_lt_of_le hlt hB)).trans (hc i hi)⟩⟩
theorem Seen.drewN {w : World} {ao : Option Addr} {n : Nat} {zs : List Int} (h : Seen w ao n zs) (k : Nat) : Seen (w.drewN k) ao n zs := ⟨h.len, h.top, h.bytes, h.cells⟩
theorem Seen.of_row {w : World} {g n : Nat} {zs : List Int} (h : RowAt w g zs) (hl : n ≤ zs.length) (ht : n ≤ 140737488355328) (hb : Bytes zs) : Seen w (some ⟨g, 0, none⟩) n (zs.take n) :=
 ⟨by simp; omega, ht, fun z hz => hb z (List.mem_of_mem_take hz), fun _ => ⟨g, 0, rfl, h.lt, fun i hi => by
  rw [Nat.zero_add, h.cell i (by omega)]
  simp [List.getD, hi]⟩⟩
theorem Seen.empty (w : World) (ao : Option Addr) : Seen w ao 0 [] := ⟨rfl, by decide, fun z hz => (by cases hz), fun h => (by omega)⟩
theorem below_dn {B : Nat} {a w : World} (h : Below B a w) (n : Nat) : Below B a (w.drewN n) := h.trans ⟨rfl, rfl, rfl, Nat.le_refl _, fun _ _ => rfl⟩
theorem below_ahead {B : Nat} {W w' : World} {k : Nat} (h : Below B (W.drewN k) w') : Below B W w' := ⟨h.os, h.tape, h.output, h.size, h.block⟩
theorem info_byte : (Tryz.prog.info? 5).map (fun i => (i.zero, i.size, i.bytes)) = some (some (.int .u8 0), 1, 1) := by kernel_rfl
theorem own_cases {w : World} {base : Nat} {v : Value} {zs : List Int} (h : w.ownsRow base 5 1 v zs.length (zs.map (Value.int .u8))) :
  (v = .slice none 0 0 ∧ zs = []) ∨ ∃ g cap, v = .slice (some ⟨g, 0, none⟩) zs.length cap ∧ RowAt w g zs ∧ base ≤ g ∧ zs.length ≤ cap ∧ cap ≤ maxLen := by
 rcases h.2 with ⟨h1, h2⟩ | ⟨g, cap, cur, rfl, r⟩
 ·left; exact ⟨h1, List.length_eq_zero_iff.1 h2⟩
 ·right
  have := RowAt.of_own h
  exact ⟨g, cap, rfl, this.1, this.2.1, this.2.2.1, this.2.2.2.1⟩
theorem step_own {w wr w1 : World} {v v' : Value} {zs : List Int} {z : Int} {k : Nat}
  (hb : Below w.heap.size w wr) (hown : wr.ownsRow w.heap.size 5 1 v k ((zs.map (Value.int .u8)).take k)) (hk : k < zs.length) (hz : zs.getD k 0 = z)
  (hown' : w1.ownsRow w.heap.size 5 1 v' (k + 1) ((zs.map (Value.int .u8)).take k ++ [.int .u8 z])) (hg : (wr.alloc (.cells #[.int .u8 z] 5)).grownBy w1 v.ownBlock) :
  w1.ownsRow w.heap.size 5 1 v' (k + 1) ((zs.map (Value.int .u8)).take (k + 1)) ∧ Below w.heap.size w w1 := by
 constructor
 ·rw [List.take_succ_eq_append_getElem (by simpa using hk)]
  have e : zs[k] = z := by rw [← hz]; simp [List.getD, hk]
  rw [List.getElem_map, e]; exact hown'
 ·exact (hb.alloc hb.size _).grown hg (by have := hb.size; simp; omega) (fun j hj => (hown.lt j hj).1)
theorem own_len {w : World} {base : Nat} {v : Value} {n : Nat} {zs : List Int} (hl : zs.length = n) (h : w.ownsRow base 5 1 v n (zs.map (Value.int .u8))) :
  (v = .slice none 0 0 ∧ n = 0) ∨ ∃ g cap, v = .slice (some ⟨g, 0, none⟩) n cap ∧ RowAt w g zs ∧ base ≤ g ∧ n ≤ cap ∧ cap ≤ maxLen := by
 subst hl
 rcases own_cases h with ⟨h1, h2⟩ | h
 ·left; exact ⟨h1, by rw [h2]; rfl⟩
 ·right; exact h
theorem RowAt.later {w w' : World} {g : Nat} {zs : List Int} (h : RowAt w g zs) {B : Nat} (hb : Below B w w') (hB : w.heap.size ≤ B) : RowAt w' g zs := h.block (hb.block g (Nat.lt_of_lt_of_le h.lt hB))
theorem RowAt.kept {S : Nat → Prop} {w w' : World} {g : Nat} {zs : List Int} (h : RowAt w g zs) (hk : Kept S w w') (hS : ¬ S g) : RowAt w' g zs := h.block (hk.block g h.lt hS)
theorem Seen.drew {w : World} {ao : Option Addr} {n : Nat} {zs : List Int} (h : Seen w ao n zs) : Seen w.drew ao n zs := h.drewN 1
theorem Seen.kept {S : Nat → Prop} {w w' : World} {ao : Option Addr} {n : Nat} {zs : List Int} (h : Seen w ao n zs) (hk : Kept S w w') (hS : ∀ b o, 0 < n → ao = some ⟨b, o, none⟩ → ¬ S b) : Seen w' ao n zs :=
 ⟨h.len, h.top, h.bytes, fun hn => by
  obtain ⟨b, o, e, hlt, hc⟩ := h.cells hn
  exact ⟨b, o, e, Nat.lt_of_lt_of_le hlt hk.size, fun i hi => (hk.cell (p := ⟨b, o + i, none⟩) hlt (hS b o hn e)).trans (hc i hi)⟩⟩
theorem Seen.old {w : World} {ao : Option Addr} {n : Nat} {zs : List Int} (h : Seen w ao n zs) {B : Nat} (hB : w.heap.size ≤ B) : ∀ b o, 0 < n → ao = some ⟨b, o, none⟩ → b < B := by
 intro b o hn e
 obtain ⟨b', o', e', hlt, _⟩ := h.cells hn
 rw [e] at e'
 simp at e'
 omega
theorem own_seen {w : World} {base : Nat} {v : Value} {n : Nat} {zs : List Int} (hl : zs.length = n) (hb : Bytes zs) (ht : n ≤ 140737488355328) (h : w.ownsRow base 5 1 v n (zs.map (Value.int .u8))) :
  ∃ vo cap, v = .slice vo n cap ∧ Seen w vo n zs ∧ ∀ b o, vo = some ⟨b, o, none⟩ → base ≤ b := by
 rcases own_len hl h with ⟨rfl, rfl⟩ | ⟨g, cap, rfl, hr, hg, _, _⟩
 ·have e : zs = [] := List.length_eq_zero_iff.1 hl
  subst e
  exact ⟨none, 0, rfl, Seen.empty _ _, fun b o h => by cases h⟩
 ·refine ⟨_, cap, rfl, ?_, fun b o h => by simp at h; omega⟩
  have := Seen.of_row (n := n) hr (by omega) ht hb
  rwa [List.take_of_length_le (by omega)] at this
theorem ownsRow_below {w w' : World} {base : Nat} {e : TypeId} {size : Nat} {v : Value} {n : Nat} {xs : List Value} (h : w.ownsRow base e size v n xs) (hb : Below w.heap.size w w') : w'.ownsRow base e size v n xs := by
 refine ⟨h.1, ?_⟩
 rcases h.2 with h2 | ⟨g, cap, cur, hv, hg, hh, r⟩
 ·exact .inl h2
 ·exact .inr ⟨g, cap, cur, hv, hg, by rw [hb.block g (lt_of_block hh)]; exact hh, r⟩
theorem ownsRow_base {w : World} {base base' : Nat} {e : TypeId} {size : Nat} {v : Value} {n : Nat} {xs : List Value} (h : w.ownsRow base e size v n xs) (hb : base' ≤ base) : w.ownsRow base' e size v n xs := by
 refine ⟨h.1, ?_⟩
 rcases h.2 with h2 | ⟨g, cap, cur, hv, hg, r⟩
 ·exact .inl h2
 ·exact .inr ⟨g, cap, cur, hv, by omega, r⟩
def le : List Int → Int
 | [] => 0
 | z :: zs => z + 256 * le zs
def leB : Nat → Int → List Int
 | 0, _ => []
 | k + 1, v => v % 256 :: leB k (v / 256)
theorem leB_length (k : Nat) (v : Int) : (leB k v).length = k := by
 induction k generalizing v with
 | zero => rfl
 | succ k ih => simp [leB, ih]
theorem leB_bytes (k : Nat) (v : Int) : Bytes (leB k v) := by
 induction k generalizing v with
 | zero => intro z hz; cases hz
 | succ k ih =>
  intro z hz
  simp only [leB, List.mem_cons] at hz
  rcases hz with rfl | hz
  ·omega
  ·exact ih _ z hz
theorem le_bd (zs : List Int) (h : Bytes zs) : 0 ≤ le zs ∧ le zs < 256 ^ zs.length := by
 induction zs with
 | nil => simp [le]
 | cons z zs ih =>
  have hz := h z (by simp)
  have := ih (fun y hy => h y (by simp [hy]))
  simp only [le, List.length_cons, Int.pow_succ]
  omega
theorem le_leB (k : Nat) (v : Int) : le (leB k v) = v % 256 ^ k := by
 induction k generalizing v with
 | zero => simp [leB, le]
 | succ k ih =>
  simp only [leB, le, ih]
  have hp : (0 : Int) < 256 ^ k := Int.pow_pos (by decide)
  have h1 := Int.mul_ediv_add_emod v 256
  have h2 := Int.mul_ediv_add_emod (v / 256) (256 ^ k)
  have b1 := Int.emod_nonneg (v / 256) (Int.ne_of_gt hp)
  have b2 := Int.emod_lt_of_pos (v / 256) hp
  have e : (256 : Int) ^ (k + 1) = 256 ^ k * 256 := Int.pow_succ ..
  have key : v = (256 ^ k * 256) * (v / 256 / 256 ^ k) + (v % 256 + 256 * (v / 256 % 256 ^ k)) := by
   have : (256 ^ k * 256) * (v / 256 / 256 ^ k) = 256 * (256 ^ k * (v / 256 / 256 ^ k)) := by
    rw [Int.mul_comm (256 ^ k) 256, Int.mul_assoc]
   rw [this]; omega
  rw [e]
  have g : v % (256 ^ k * 256) = v % 256 + 256 * (v / 256 % 256 ^ k) := by
   conv => lhs; rw [key]
   rw [Int.mul_add_emod_self_left]
   exact Int.emod_eq_of_lt (by omega) (by omega)
  exact g.symm
theorem leB_le (zs : List Int) (h : Bytes zs) : leB zs.length (le zs) = zs := by
 induction zs with
 | nil => rfl
 | cons z zs ih =>
  have hz := h z (by simp)
  simp only [List.length_cons, leB, le]
  have e1 : (z + 256 * le zs) % 256 = z := by omega
  have e2 : (z + 256 * le zs) / 256 = le zs := by omega
  rw [e1, e2, ih (fun y hy => h y (by simp [hy]))]
theorem leB_at (k : Nat) (v : Int) (i : Nat) (hi : i < k) : (leB k v).getD i 0 = v / 256 ^ i % 256 := by
 induction k generalizing v i with
 | zero => omega
 | succ k ih =>
  cases i with
  | zero => simp [leB]
  | succ i =>
   simp only [leB, List.getD_cons_succ]
   rw [ih _ _ (by omega), Int.ediv_ediv_of_nonneg (by decide)]
   congr 2
   rw [Int.pow_succ, Int.mul_comm]
theorem le_drop (zs : List Int) (k : Nat) (hk : k < zs.length) : le (zs.drop k) = zs.getD k 0 + 256 * le (zs.drop (k + 1)) := by
 rw [List.drop_eq_getElem_cons hk]
 simp [le, List.getD, hk]
theorem bytes_drop {zs : List Int} (h : Bytes zs) (k : Nat) : Bytes (zs.drop k) := fun z hz => h z (List.mem_of_mem_drop hz)
theorem bytes_take {zs : List Int} (h : Bytes zs) (k : Nat) : Bytes (zs.take k) := fun z hz => h z (List.mem_of_mem_take hz)
theorem bytes_app {xs ys : List Int} (hx : Bytes xs) (hy : Bytes ys) : Bytes (xs ++ ys) := fun z hz => by
 rcases List.mem_append.1 hz with h | h
 ·exact hx z h
 ·exact hy z h
theorem or_low (a b : Int) (ha : 0 ≤ a ∧ a * 256 < 18446744073709551616) (hb : 0 ≤ b ∧ b < 256) : bits .or .u64 (a * 256) b = b + 256 * a := by
 rw [u64_or _ _ (by omega) ha.2 hb.1 (by omega)]
 obtain ⟨a, rfl⟩ := Int.eq_ofNat_of_zero_le ha.1
 obtain ⟨b, rfl⟩ := Int.eq_ofNat_of_zero_le hb.1
 have h := Nat.shiftLeft_add_eq_or_of_lt (i := 8) (b := b) (by omega) a
 have e1 : ((a : Int) * 256).toNat = a <<< 8 := by rw [Nat.shiftLeft_eq]; omega
 rw [e1, Int.toNat_natCast, ← h, Nat.shiftLeft_eq]; omega
theorem le_drop_bd (zs : List Int) (h : Bytes zs) (n k : Nat) (hl : zs.length = n) (hn : n ≤ 8) (hk : 0 < k) : 0 ≤ le (zs.drop k) ∧ le (zs.drop k) * 256 < 18446744073709551616 := by
 have b := le_bd _ (bytes_drop h k)
 have hle : (256 : Int) ^ (zs.drop k).length ≤ 256 ^ 7 := by
  rw [List.length_drop]
  have : 256 ^ (zs.length - k) ≤ 256 ^ 7 := Nat.pow_le_pow_right (by decide) (by omega)
  show ((256 : Nat) : Int) ^ _ ≤ ((256 : Nat) : Int) ^ 7
  rw [← Int.natCast_pow, ← Int.natCast_pow]
  exact Int.ofNat_le.2 this
 omega
theorem len64_8 (w : World) : Calls Tryz.prog 92 #[.int .u64 255] w fun e w' => e = .returned (.int .i64 8) ∧ w = w' := by
 go_enter Tryz.func92, Tryz.ntmps92
 go_wp2
 go_ret
 exact ⟨by kernel_rfl, rfl⟩
theorem len64_16 (w : World) : Calls Tryz.prog 92 #[.int .u64 65535] w fun e w' => e = .returned (.int .i64 16) ∧ w = w' := by
 go_enter Tryz.func92, Tryz.ntmps92
 go_wp2
 go_ret
 exact ⟨by kernel_rfl, rfl⟩
theorem len64_32 (w : World) : Calls Tryz.prog 92 #[.int .u64 4294967295] w fun e w' => e = .returned (.int .i64 32) ∧ w = w' := by
 go_enter Tryz.func92, Tryz.ntmps92
 go_wp2
 go_ret
 exact ⟨by kernel_rfl, rfl⟩
theorem len64_64 (w : World) : Calls Tryz.prog 92 #[.int .u64 18446744073709551615] w fun e w' => e = .returned (.int .i64 64) ∧ w = w' := by
 go_enter Tryz.func92, Tryz.ntmps92
 go_wp2
 go_ret
 exact ⟨by kernel_rfl, rfl⟩
def fit (n k : Nat) : Int := if n < k then 20 else if k < n then 21 else 0
theorem fit_short {n k : Nat} (h : n < k) : fit n k = 20 := by unfold fit; rw [if_pos h]
theorem fit_rest {n k : Nat} (h : k < n) : fit n k = 21 := by unfold fit; rw [if_neg (by omega), if_pos h]
theorem fit_ok (n : Nat) : fit n n = 0 := by unfold fit; rw [if_neg (by omega), if_neg (by omega)]
theorem byteAt_eq (v : Int) (i : Nat) : v / 2 ^ (8 * i) % 256 = v / 256 ^ i % 256 := by
 have : (256 : Int) ^ i = 2 ^ (8 * i) := by rw [Int.pow_mul]; rfl
 rw [this]
theorem width_32 (w : World) : Calls Tryz.prog 106 #[] w fun e w' => e = .returned (.int .i64 4) ∧ w = w' := by
 go_enter Tryz.func106, Tryz.ntmps106
 go_wp2_with (go_at_call 92; refine (len64_32 _).mono ?_; rintro e w' ⟨rfl, rfl⟩)
 go_ret
 exact ⟨rfl, rfl⟩
theorem fits_32 (ao : Option Addr) (n c : Nat) (hn : n ≤ 140737488355328) (w : World) :
  Calls Tryz.prog 113 #[.slice ao n c] w fun e w' => e = .returned (.int .i64 (fit n 4)) ∧ w = w' := by
 rcases Nat.lt_trichotomy n 4 with h | h | h
 ·rw [fit_short h]
  have h1 : (n : Int) < 4 := by omega
  go_enter Tryz.func113, Tryz.ntmps113
  go_wp2_with (go_at_call 106; refine (width_32 _).mono ?_; rintro e w' ⟨rfl, rfl⟩)
  go_ret
  exact ⟨rfl, rfl⟩
 ·subst h
  rw [fit_ok]
  go_enter Tryz.func113, Tryz.ntmps113
  go_wp2_with (go_at_call 106; refine (width_32 _).mono ?_; rintro e w' ⟨rfl, rfl⟩)
  go_ret
  exact ⟨rfl, rfl⟩
 ·rw [fit_rest h]
  have h1 : (4 : Int) < (n : Int) := by omega
  go_enter Tryz.func113, Tryz.ntmps113
  go_wp2_with (go_at_call 106; refine (width_32 _).mono ?_; rintro e w' ⟨rfl, rfl⟩)
  go_ret
  exact ⟨rfl, rfl⟩
theorem byteAt_32 (v : Int) (hv : 0 ≤ v ∧ v < 4294967296) (i : Nat) (hi : i < 4) (w : World) :
  Calls Tryz.prog 107 #[.int .u32 v, .int .i64 i] w fun e w' => e = .returned (.int .u8 (v / 256 ^ i % 256)) ∧ w = w' := by
 go_enter Tryz.func107, Tryz.ntmps107
 go_wp2
 go_ret
 exact ⟨by rw [← byteAt_eq]; rfl, rfl⟩
theorem width_64 (w : World) : Calls Tryz.prog 139 #[] w fun e w' => e = .returned (.int .i64 8) ∧ w = w' := by
 go_enter Tryz.func139, Tryz.ntmps139
 go_wp2_with (go_at_call 92; refine (len64_64 _).mono ?_; rintro e w' ⟨rfl, rfl⟩)
 go_ret
 exact ⟨rfl, rfl⟩
theorem fits_64 (ao : Option Addr) (n c : Nat) (hn : n ≤ 140737488355328) (w : World) :
  Calls Tryz.prog 156 #[.slice ao n c] w fun e w' => e = .returned (.int .i64 (fit n 8)) ∧ w = w' := by
 rcases Nat.lt_trichotomy n 8 with h | h | h
 ·rw [fit_short h]
  have h1 : (n : Int) < 8 := by omega
  go_enter Tryz.func156, Tryz.ntmps156
  go_wp2_with (go_at_call 139; refine (width_64 _).mono ?_; rintro e w' ⟨rfl, rfl⟩)
  go_ret
  exact ⟨rfl, rfl⟩
 ·subst h
  rw [fit_ok]
  go_enter Tryz.func156, Tryz.ntmps156
  go_wp2_with (go_at_call 139; refine (width_64 _).mono ?_; rintro e w' ⟨rfl, rfl⟩)
  go_ret
  exact ⟨rfl, rfl⟩
 ·rw [fit_rest h]
  have h1 : (8 : Int) < (n : Int) := by omega
  go_enter Tryz.func156, Tryz.ntmps156
  go_wp2_with (go_at_call 139; refine (width_64 _).mono ?_; rintro e w' ⟨rfl, rfl⟩)
  go_ret
  exact ⟨rfl, rfl⟩
theorem byteAt_64 (v : Int) (hv : 0 ≤ v ∧ v < 18446744073709551616) (i : Nat) (hi : i < 8) (w : World) :
  Calls Tryz.prog 140 #[.int .u64 v, .int .i64 i] w fun e w' => e = .returned (.int .u8 (v / 256 ^ i % 256)) ∧ w = w' := by
 go_enter Tryz.func140, Tryz.ntmps140
 go_wp2
 go_ret
 exact ⟨by rw [← byteAt_eq]; rfl, rfl⟩
def leV (k n : Nat) (zs : List Int) : Int := if n = k then le zs else 0
theorem leV_ok (n : Nat) (zs : List Int) : leV n n zs = le zs := by simp [leV]
theorem leV_no {n k : Nat} (zs : List Int) (h : n ≠ k) : leV k n zs = 0 := by simp [leV, h]
theorem little_32 (ao : Option Addr) (n c : Nat) (zs : List Int) (w : World) (hx : Seen w ao n zs) :
  Calls Tryz.prog 102 #[.slice ao n c] w fun e w' => e = .returned (.tuple #[.int .u32 (leV 4 n zs), .int .i64 (fit n 4)]) ∧ w = w' := by
 have t1 := hx.top
 by_cases hn : n = 4
 ·subst hn
  have HL : Hid (zs.length = 4) := hx.len
  have HB : Hid (Bytes zs) := hx.bytes
  rw [leV_ok, fit_ok]
  have hf := fits_32 ao 4 c (by decide) w
  rw [fit_ok] at hf
  go_enter Tryz.func102, Tryz.ntmps102
  go_wp2_with (go_at_call 113; refine hf.mono ?_; rintro e w' ⟨rfl, rfl⟩)
  go_loopw [5, 6] (fun v i wr => ∃ (m : Nat) (I : Int), m ≤ 4 ∧ I + 1 = m ∧ i = .int .i64 I ∧ v = .int .u64 (le (zs.drop m)) ∧ wr = w) (fun _ i _ => (intOf i + 1).toNat)
  case atStart => exact ⟨4, 4 - 1, by omega, by omega, rfl, by rw [List.drop_of_length_le (by have := HL.out; omega)]; rfl, rfl⟩
  case round =>
   obtain ⟨m, I, hm, hI, rfl, rfl, rfl⟩ := hrel
   by_cases hlt : 0 < m
   ·obtain ⟨b, o, rfl, hb, hc⟩ := hx.cells (by decide)
    obtain ⟨p, rfl⟩ : ∃ p, m = p + 1 := ⟨m - 1, by omega⟩
    obtain rfl : I = (p : Int) := by omega
    have c1 := hc p (by omega)
    have hd := le_drop zs p (by have := HL.out; omega)
    have hbd := le_drop_bd zs HB.out 4 (p + 1) HL.out (by decide) (by omega)
    have hz := HB.out.at p (by have := HL.out; omega)
    obtain ⟨Z, hZ⟩ : ∃ Z, zs.getD p 0 = Z := ⟨_, rfl⟩
    obtain ⟨A, hA⟩ : ∃ A, le (zs.drop (p + 1)) = A := ⟨_, rfl⟩
    rw [hZ] at c1 hd hz
    rw [hA] at hd hbd
    have HO : Hid (bits .or .u64 (A * 256) Z = le (zs.drop p)) := by show _ = _; rw [or_low A Z hbd hz, hd]
    have HA : Hid (le (zs.drop (p + 1)) = A) := hA
    rw [hA]
    have w1 : A * 256 % 18446744073709551616 = A * 256 := by omega
    have i1 : (0 : Int) ≤ (p : Int) := by omega
    have i2 : (p : Int) < 4 := by omega
    clear hZ hA hc hx hd hf
    go_wp2
    go_roundw
    case rel => exact ⟨p, (p : Int) - 1, by omega, by omega, by go_num, by rw [← HO.out], by first | rfl | trivial⟩
    case measure => simp [intOf] <;> omega
   ·obtain rfl : m = 0 := by omega
    obtain rfl : I = -1 := by omega
    have hbd := le_bd zs HB.out
    rw [HL.out] at hbd
    have hbd' : 0 ≤ le zs ∧ le zs < 4294967296 := by simpa using hbd
    rw [List.drop_zero]
    obtain ⟨A, hA⟩ : ∃ A, le zs = A := ⟨_, rfl⟩
    rw [hA] at hbd' ⊢
    have HA : Hid (le zs = A) := hA
    clear hx hf hbd hA
    go_wp2
    go_ret2
    exact ⟨by rw [HA.out]; rfl, rfl⟩
 ·rw [leV_no zs hn]
  have hf := fits_32 ao n c t1 w
  have he : (fit n 4 != 0) = true := by
   rcases Nat.lt_or_gt_of_ne hn with h | h
   ·rw [fit_short h]; rfl
   ·rw [fit_rest h]; rfl
  generalize fit n 4 = E at *
  go_enter Tryz.func102, Tryz.ntmps102
  go_wp2_with (go_at_call 113; refine hf.mono ?_; rintro e w' ⟨rfl, rfl⟩)
  go_ret2
  exact ⟨rfl, rfl⟩
theorem little_64 (ao : Option Addr) (n c : Nat) (zs : List Int) (w : World) (hx : Seen w ao n zs) :
  Calls Tryz.prog 145 #[.slice ao n c] w fun e w' => e = .returned (.tuple #[.int .u64 (leV 8 n zs), .int .i64 (fit n 8)]) ∧ w = w' := by
 have t1 := hx.top
 by_cases hn : n = 8
 ·subst hn
  have HL : Hid (zs.length = 8) := hx.len
  have HB : Hid (Bytes zs) := hx.bytes
  rw [leV_ok, fit_ok]
  have hf := fits_64 ao 8 c (by decide) w
  rw [fit_ok] at hf
  go_enter Tryz.func145, Tryz.ntmps145
  go_wp2_with (go_at_call 156; refine hf.mono ?_; rintro e w' ⟨rfl, rfl⟩)
  go_loopw [5, 6] (fun v i wr => ∃ (m : Nat) (I : Int), m ≤ 8 ∧ I + 1 = m ∧ i = .int .i64 I ∧ v = .int .u64 (le (zs.drop m)) ∧ wr = w) (fun _ i _ => (intOf i + 1).toNat)
  case atStart => exact ⟨8, 8 - 1, by omega, by omega, rfl, by rw [List.drop_of_length_le (by have := HL.out; omega)]; rfl, rfl⟩
  case round =>
   obtain ⟨m, I, hm, hI, rfl, rfl, rfl⟩ := hrel
   by_cases hlt : 0 < m
   ·obtain ⟨b, o, rfl, hb, hc⟩ := hx.cells (by decide)
    obtain ⟨p, rfl⟩ : ∃ p, m = p + 1 := ⟨m - 1, by omega⟩
    obtain rfl : I = (p : Int) := by omega
    have c1 := hc p (by omega)
    have hd := le_drop zs p (by have := HL.out; omega)
    have hbd := le_drop_bd zs HB.out 8 (p + 1) HL.out (by decide) (by omega)
    have hz := HB.out.at p (by have := HL.out; omega)
    obtain ⟨Z, hZ⟩ : ∃ Z, zs.getD p 0 = Z := ⟨_, rfl⟩
    obtain ⟨A, hA⟩ : ∃ A, le (zs.drop (p + 1)) = A := ⟨_, rfl⟩
    rw [hZ] at c1 hd hz
    rw [hA] at hd hbd
    have HO : Hid (bits .or .u64 (A * 256) Z = le (zs.drop p)) := by show _ = _; rw [or_low A Z hbd hz, hd]
    have HA : Hid (le (zs.drop (p + 1)) = A) := hA
    rw [hA]
    have w1 : A * 256 % 18446744073709551616 = A * 256 := by omega
    have i1 : (0 : Int) ≤ (p : Int) := by omega
    have i2 : (p : Int) < 8 := by omega
    clear hZ hA hc hx hd hf
    go_wp2
    go_roundw
    case rel => exact ⟨p, (p : Int) - 1, by omega, by omega, by go_num, by rw [← HO.out], by first | rfl | trivial⟩
    case measure => simp [intOf] <;> omega
   ·obtain rfl : m = 0 := by omega
    obtain rfl : I = -1 := by omega
    have hbd := le_bd zs HB.out
    rw [HL.out] at hbd
    have hbd' : 0 ≤ le zs ∧ le zs < 18446744073709551616 := by simpa using hbd
    rw [List.drop_zero]
    obtain ⟨A, hA⟩ : ∃ A, le zs = A := ⟨_, rfl⟩
    rw [hA] at hbd' ⊢
    have HA : Hid (le zs = A) := hA
    clear hx hf hbd hA
    go_wp2
    go_ret2
    exact ⟨by rw [HA.out]; rfl, rfl⟩
 ·rw [leV_no zs hn]
  have hf := fits_64 ao n c t1 w
  have he : (fit n 8 != 0) = true := by
   rcases Nat.lt_or_gt_of_ne hn with h | h
   ·rw [fit_short h]; rfl
   ·rw [fit_rest h]; rfl
  generalize fit n 8 = E at *
  go_enter Tryz.func145, Tryz.ntmps145
  go_wp2_with (go_at_call 156; refine hf.mono ?_; rintro e w' ⟨rfl, rfl⟩)
  go_ret2
  exact ⟨rfl, rfl⟩
theorem add_at (b o j : Nat) : (⟨b, o, none⟩ : Addr).add j = ⟨b, o + j, none⟩ := by
 unfold Addr.add
 split
 ·next h => subst h; rfl
 ·rfl
theorem seen_news {w : World} {ao : Option Addr} {n : Nat} {zs : List Int} (hx : Seen w ao n zs) {ad : Addr} (e : ao = some ad) :
  ∀ j u, (zs.map (Value.int .u8))[j]? = some u → w.cell? (ad.add j) = some u := by
 intro j u hj
 have hlt : j < n := by
  rcases Nat.lt_or_ge j n with h | h
  ·exact h
  ·rw [List.getElem?_eq_none (by have := hx.len; simp; omega)] at hj; cases hj
 obtain ⟨b, o, e', _, hc⟩ := hx.cells (by omega)
 rw [e] at e'
 cases e'
 rw [add_at, hc j hlt, ← hj, List.getElem?_map]
 have : j < zs.length := by have := hx.len; omega
 simp [List.getD, this]
theorem one_bytes (zs : List Int) : ∀ u ∈ zs.map (Value.int .u8), u.oneCell' = true := by
 intro u hu
 obtain ⟨z, _, rfl⟩ := List.mem_map.1 hu
 rfl
theorem seen_nil {w : World} {n : Nat} {zs : List Int} (hx : Seen w none n zs) : n = 0 ∧ zs = [] := by
 have h : n = 0 := by
  rcases Nat.eq_zero_or_pos n with h | h
  ·exact h
  ·obtain ⟨b, o, e, _⟩ := hx.cells h; cases e
 exact ⟨h, List.length_eq_zero_iff.1 (by rw [hx.len]; exact h)⟩
theorem below_grown {w w1 w2 : World} {v : Value} {n : Nat} {xs : List Value} (hb : Below w.heap.size w w1) (ho : w1.ownsRow w.heap.size 5 1 v n xs) (hg : w1.grownBy w2 v.ownBlock) : Below w.heap.size w w2 :=
 hb.grown hg hb.size (fun j hj => (ho.lt j hj).1)
theorem own_made (w : World) (c : Nat) (hc : c ≤ maxLen) (cs : Array Value) (hs : cs.size = c) : (w.alloc (.cells cs 5)).ownsRow w.heap.size 5 1 (.slice (some ⟨w.heap.size, 0, none⟩) 0 c) 0 [] :=
 World.ownsRow_made w _ c (Nat.le_refl _) hc (by rw [hs, Nat.mul_one])
theorem wpList_append_seen {ops : Array Oper} {rest : List Oper} {o : Oper} {a : Act} {Q : Exit → Act → World → Prop} {w : World} (hgd : o.guard = none) (s x : Operand)
  (ho : o.op = .call { callee := .builtin .append, args := #[s, x], argTypes := #[37, 37] }) (base : Nat) (v : Value) (n : Nat) (xs : List Value) (hs : a.eval s = v) (hown : w.ownsRow base 5 1 v n xs)
  (ao : Option Addr) (m c : Nat) (zs : List Int) (hx : a.eval x = .slice ao m c) (hsn : Seen w ao m zs) (hc : ao = none → c = 0) (hb : n + m ≤ 140737488355328) (hbase : base ≤ w.heap.size)
  (h : ∀ v' w', w'.ownsRow base 5 1 v' (n + m) (xs ++ zs.map (Value.int .u8)) → w.grownBy w' v.ownBlock → wpList Tryz.prog ops Q rest (a.put o.dst v') w') : wpList Tryz.prog ops Q (o :: rest) a w := by
 obtain ⟨i0, hi, hz0, hz1, hz2⟩ := info_parts info_byte
 cases ao with
 | none =>
  obtain ⟨rfl, rfl⟩ := seen_nil hsn
  obtain rfl := hc rfl
  refine wpList_append_own_none hgd s x 37 ho base 5 i0 1 Tryz.underlying37 hi v n xs hs hown hx (h v w ?_ ?_)
  ·simpa using hown
  ·exact ⟨rfl, rfl, rfl, Nat.le_refl _, fun _ _ _ => rfl⟩
 | some ad =>
  refine wpList_append_own _ hgd s x 37 ho base 5 i0 (.int .u8 0) 1 1 Tryz.underlying37 hi hz0 hz1 hz2 rfl (by decide) v n xs hs hown ad m c (zs.map (Value.int .u8)) hx ?_ (seen_news hsn rfl) (one_bytes zs) ?_ ?_ hbase (fun v' w' h1 h2 _ => h v' w' h1 h2)
  ·rw [List.length_map, hsn.len, Nat.mul_one]
  ·unfold maxLen; omega
  ·omega
theorem clone_any (ao : Option Addr) (n c : Nat) (zs : List Int) (w : World) (hx : Seen w ao n zs) :
  Calls Tryz.prog 55 #[.slice ao n c] w fun e w' => ∃ v, e = .returned v ∧ w'.ownsRow w.heap.size 5 1 v n (zs.map (Value.int .u8)) ∧ Below w.heap.size w w' := by
 have t1 := hx.top
 obtain ⟨i0, hi, hz0, hz1, hz2⟩ := info_parts info_byte
 cases ao with
 | none =>
  obtain ⟨rfl, rfl⟩ := seen_nil hx
  have hq : ∀ wx, (binOp .eql 37 (.slice none 0 c) (.slice none 0 0)).run Tryz.prog wx = .ok (.bool true) wx := fun wx => Lib.run_eql_slice_nil wx 37 5 none 0 c 0 0 Tryz.underlying37
  go_enter Tryz.func55, Tryz.ntmps55
  go_wp2
  go_ret
  exact ⟨_, rfl, World.ownsRow_nil _ _ _ _, Below.refl _ _⟩
 | some ad =>
  have hb1 : Below w.heap.size w (w.alloc (.cells #[] 5)) := (Below.refl _ _).alloc (Nat.le_refl _) _
  have ho1 := own_made w 0 (Nat.zero_le _) #[] rfl
  have HN : Hid _ := seen_news (hx.later hb1 (Nat.le_refl _)) rfl
  have HL : Hid (zs.length = n) := hx.len
  have hq : ∀ wx, (binOp .eql 37 (.slice (some ad) n c) (.slice none 0 0)).run Tryz.prog wx = .ok (.bool false) wx := fun wx => Lib.run_eql_slice_nil wx 37 5 (some ad) n c 0 0 Tryz.underlying37
  go_enter Tryz.func55, Tryz.ntmps55
  go_wp2_with (at_builtin; refine wpList_append_own _ rfl _ _ 37 rfl w.heap.size 5 i0 (.int .u8 0) 1 1 Tryz.underlying37 hi hz0 hz1 hz2 rfl (by decide) _ 0 [] rfl ho1 ad n c (zs.map (Value.int .u8)) rfl ?c0 HN.out (one_bytes zs) ?c3 ?c4 hb1.size ?_)
  case c0 => simp [HL.out]
  case c3 => unfold maxLen; omega
  case c4 => omega
  ·intro v' w1 hown hgrow _
   have R : Hid (Below w.heap.size w w1) := below_grown hb1 ho1 hgrow
   try simp only [Nat.zero_add, List.nil_append] at hown
   have HO : Hid _ := hown
   clear hown hgrow ho1
   go_wp2
   go_ret
   exact ⟨_, rfl, HO.out, R.out⟩
theorem room_any (ao : Option Addr) (n c m : Nat) (zs : List Int) (w : World) (hx : Seen w ao n zs) (hc : ao = none → c = 0) (hm : m ≤ 8) :
  Calls Tryz.prog 105 #[.slice ao n c, .int .i64 m] w fun e w' => ∃ v, e = .returned v ∧ w'.ownsRow w.heap.size 5 1 v n (zs.map (Value.int .u8)) ∧ Below w.heap.size w w' := by
 have t1 := hx.top
 obtain ⟨i0, hi, hz0, hz1, hz2⟩ := info_parts info_byte
 obtain ⟨w0, hmk, ho1, hg0⟩ := run_make_own (P := Tryz.prog) w w.heap.size 37 5 i0 (.int .u8 0) 1 Tryz.underlying37 hi hz0 hz1 .i64 .i64 (n + m) (by rw [hz2]; omega) (by unfold maxLen; omega) (Nat.le_refl _)
 have hb1 : Below w.heap.size w w0 := (Below.refl _ _).grown hg0 (Nat.le_refl _) (fun j hj => by cases hj)
 have ec : ((n + m : Nat) : Int) = (n : Int) + (m : Int) := by omega
 rw [ec] at hmk
 have HL : Hid (zs.length = n) := hx.len
 have hs := hx.later hb1 (Nat.le_refl _)
 cases ao with
 | none =>
  obtain ⟨rfl, rfl⟩ := seen_nil hx
  obtain rfl := hc rfl
  rw [Nat.zero_add] at ho1
  simp at hmk
  have HO : Hid (w0.ownsRow w.heap.size 5 1 (.slice (some ⟨w.heap.size, 0, none⟩) 0 m) 0 []) := ho1
  clear ho1
  go_enter Tryz.func105, Tryz.ntmps105
  go_wp2_with (at_builtin; refine wpList_append_own_none rfl _ _ 37 rfl w.heap.size 5 i0 1 Tryz.underlying37 hi _ 0 [] rfl HO.out rfl ?_)
  go_ret
  exact ⟨_, rfl, HO.out, hb1⟩
 | some ad =>
  have HN : Hid _ := seen_news hs rfl
  have HO1 : Hid (w0.ownsRow w.heap.size 5 1 (.slice (some ⟨w.heap.size, 0, none⟩) 0 (n + m)) 0 []) := ho1
  have HB1 : Hid _ := hb1
  clear ho1 hs
  go_enter Tryz.func105, Tryz.ntmps105
  go_wp2_with (at_builtin; refine wpList_append_own _ rfl _ _ 37 rfl w.heap.size 5 i0 (.int .u8 0) 1 1 Tryz.underlying37 hi hz0 hz1 hz2 rfl (by decide) _ 0 [] rfl HO1.out ad n c (zs.map (Value.int .u8)) rfl ?c0 HN.out (one_bytes zs) ?c3 ?c4 HB1.out.size ?_)
  case c0 => simp [HL.out]
  case c3 => unfold maxLen; omega
  try case c4 => omega
  ·intro v' w1 hown hgrow _
   have R : Hid (Below w.heap.size w w1) := below_grown HB1.out HO1.out hgrow
   try simp only [Nat.zero_add, List.nil_append] at hown
   have HO : Hid _ := hown
   clear hown hgrow hb1 hg0
   go_wp2
   go_ret
   exact ⟨_, rfl, HO.out, R.out⟩
theorem app_getD (xs ys : List Int) (n k : Nat) (hl : xs.length = n) : (xs ++ ys).getD (n + k) 0 = ys.getD k 0 := by
 subst hl
 simp [List.getD, List.getElem?_append_right]
theorem app_take (xs ys : List Int) (n : Nat) (hl : xs.length = n) : ((xs ++ ys).map (Value.int .u8)).take n = xs.map (Value.int .u8) := by
 rw [List.map_append, List.take_append_of_le_length (by simp; omega), List.take_of_length_le (by simp; omega)]
theorem app_all (xs ys : List Int) (n k : Nat) (hl : xs.length = n) (hk : ys.length = k) : ((xs ++ ys).map (Value.int .u8)).take (n + k) = (xs ++ ys).map (Value.int .u8) :=
 List.take_of_length_le (by simp; omega)
theorem put_32 (ao : Option Addr) (n c : Nat) (zs : List Int) (x : Int) (w : World) (hx : Seen w ao n zs) (hc : ao = none → c = 0) (hn : n + 8 ≤ 140737488355328) (hv : 0 ≤ x ∧ x < 4294967296) :
  Calls Tryz.prog 90 #[.slice ao n c, .int .u32 x] w fun e w' => ∃ v, e = .returned v ∧ w'.ownsRow w.heap.size 5 1 v (n + 4) ((zs ++ leB 4 x).map (Value.int .u8)) ∧ Below w.heap.size w w' := by
 obtain ⟨i0, hi, hz0, hz1, hz2⟩ := info_parts info_byte
 have A1 : Hid (∀ k, k < 4 → (zs ++ leB 4 x).getD (n + k) 0 = x / 256 ^ k % 256) := fun k hk => by rw [app_getD _ _ _ _ hx.len, leB_at _ _ _ hk]
 have A2 : Hid (((zs ++ leB 4 x).map (Value.int .u8)).take n = zs.map (Value.int .u8)) := app_take _ _ _ hx.len
 have A3 : Hid (((zs ++ leB 4 x).map (Value.int .u8)).take (n + 4) = (zs ++ leB 4 x).map (Value.int .u8)) := app_all _ _ _ _ hx.len (leB_length _ _)
 have A4 : Hid ((zs ++ leB 4 x).length = n + 4) := by show _ = _; rw [List.length_append, hx.len, leB_length]
 generalize zs ++ leB 4 x = zm at *
 have hr := room_any ao n c 4 zs w hx hc (by decide)
 go_enter Tryz.func90, Tryz.ntmps90
 go_wp2_with (first | (go_at_call 106; with_reducible refine (width_32 _).mono ?_; rintro e w' ⟨rfl, rfl⟩) | (go_at_call 105; refine hr.mono ?_; rintro e w1 ⟨v, rfl, hown, hbel⟩))
 go_loopw [5, 11] (fun v i wr => ∃ k : Nat, k ≤ 4 ∧ i = .int .i64 k ∧ wr.ownsRow w.heap.size 5 1 v (n + k) ((zm.map (Value.int .u8)).take (n + k)) ∧ Below w.heap.size w wr) (fun _ i _ => 4 - (intOf i).toNat)
 case atStart => exact ⟨0, Nat.zero_le _, rfl, by rw [Nat.add_zero, A2.out]; exact hown, hbel⟩
 case round =>
  clear hown hbel hx hr
  obtain ⟨k, hk, rfl, hown, hbel⟩ := hrel
  by_cases hlt : k < 4
  ·have hsz := hbel.size
   have HZ : Hid (zm.getD (n + k) 0 = x / 256 ^ k % 256) := A1.out k hlt
   have i1 : (k : Int) < 4 := by omega
   go_wp2_with fail
   refine (byteAt_32 x hv k hlt wr).mono ?_
   rintro e w' ⟨rfl, rfl⟩
   go_wp2_with (at_builtin; refine wpList_append_own _ rfl _ _ 37 rfl w.heap.size 5 i0 (.int .u8 0) 1 1 Tryz.underlying37 hi hz0 hz1 hz2 rfl (by decide) _ _ _ rfl (hown.alloc _) ⟨wr.heap.size, 0, none⟩ 1 1 [.int .u8 (x / 256 ^ k % 256)] rfl rfl ?c1 ?c2 ?c3 ?c4 ?c5 ?_)
   case c1 => exact cell_one_new _ _ _
   case c2 => intro u hu; simp at hu; subst hu; rfl
   case c3 => unfold maxLen; omega
   case c4 => omega
   case c5 => simp; omega
   ·intro v' w1 hown' hgrow _
    have R := step_own hbel hown (by have := A4.out; omega) HZ.out hown' hgrow
    clear hown' hgrow hown hbel
    go_wp2
    go_roundw
    case rel => exact ⟨k + 1, by omega, by go_num, R.1, R.2⟩
    case measure => simp [intOf] <;> omega
  ·have e : k = 4 := by omega
   subst e
   have HO : Hid _ := hown
   have HB : Hid _ := hbel
   clear hown hbel
   go_wp2
   go_ret
   refine ⟨_, rfl, ?_, HB.out⟩
   have h := HO.out
   rwa [A3.out] at h
theorem put_64 (ao : Option Addr) (n c : Nat) (zs : List Int) (x : Int) (w : World) (hx : Seen w ao n zs) (hc : ao = none → c = 0) (hn : n + 8 ≤ 140737488355328) (hv : 0 ≤ x ∧ x < 18446744073709551616) :
  Calls Tryz.prog 129 #[.slice ao n c, .int .u64 x] w fun e w' => ∃ v, e = .returned v ∧ w'.ownsRow w.heap.size 5 1 v (n + 8) ((zs ++ leB 8 x).map (Value.int .u8)) ∧ Below w.heap.size w w' := by
 obtain ⟨i0, hi, hz0, hz1, hz2⟩ := info_parts info_byte
 have A1 : Hid (∀ k, k < 8 → (zs ++ leB 8 x).getD (n + k) 0 = x / 256 ^ k % 256) := fun k hk => by rw [app_getD _ _ _ _ hx.len, leB_at _ _ _ hk]
 have A2 : Hid (((zs ++ leB 8 x).map (Value.int .u8)).take n = zs.map (Value.int .u8)) := app_take _ _ _ hx.len
 have A3 : Hid (((zs ++ leB 8 x).map (Value.int .u8)).take (n + 8) = (zs ++ leB 8 x).map (Value.int .u8)) := app_all _ _ _ _ hx.len (leB_length _ _)
 have A4 : Hid ((zs ++ leB 8 x).length = n + 8) := by show _ = _; rw [List.length_append, hx.len, leB_length]
 generalize zs ++ leB 8 x = zm at *
 have hr := room_any ao n c 8 zs w hx hc (by decide)
 go_enter Tryz.func129, Tryz.ntmps129
 go_wp2_with (first | (go_at_call 139; with_reducible refine (width_64 _).mono ?_; rintro e w' ⟨rfl, rfl⟩) | (go_at_call 105; refine hr.mono ?_; rintro e w1 ⟨v, rfl, hown, hbel⟩))
 go_loopw [5, 11] (fun v i wr => ∃ k : Nat, k ≤ 8 ∧ i = .int .i64 k ∧ wr.ownsRow w.heap.size 5 1 v (n + k) ((zm.map (Value.int .u8)).take (n + k)) ∧ Below w.heap.size w wr) (fun _ i _ => 8 - (intOf i).toNat)
 case atStart => exact ⟨0, Nat.zero_le _, rfl, by rw [Nat.add_zero, A2.out]; exact hown, hbel⟩
 case round =>
  clear hown hbel hx hr
  obtain ⟨k, hk, rfl, hown, hbel⟩ := hrel
  by_cases hlt : k < 8
  ·have hsz := hbel.size
   have HZ : Hid (zm.getD (n + k) 0 = x / 256 ^ k % 256) := A1.out k hlt
   have i1 : (k : Int) < 8 := by omega
   go_wp2_with fail
   refine (byteAt_64 x hv k hlt wr).mono ?_
   rintro e w' ⟨rfl, rfl⟩
   go_wp2_with (at_builtin; refine wpList_append_own _ rfl _ _ 37 rfl w.heap.size 5 i0 (.int .u8 0) 1 1 Tryz.underlying37 hi hz0 hz1 hz2 rfl (by decide) _ _ _ rfl (hown.alloc _) ⟨wr.heap.size, 0, none⟩ 1 1 [.int .u8 (x / 256 ^ k % 256)] rfl rfl ?c1 ?c2 ?c3 ?c4 ?c5 ?_)
   case c1 => exact cell_one_new _ _ _
   case c2 => intro u hu; simp at hu; subst hu; rfl
   case c3 => unfold maxLen; omega
   case c4 => omega
   case c5 => simp; omega
   ·intro v' w1 hown' hgrow _
    have R := step_own hbel hown (by have := A4.out; omega) HZ.out hown' hgrow
    clear hown' hgrow hown hbel
    go_wp2
    go_roundw
    case rel => exact ⟨k + 1, by omega, by go_num, R.1, R.2⟩
    case measure => simp [intOf] <;> omega
  ·have e : k = 8 := by omega
   subst e
   have HO : Hid _ := hown
   have HB : Hid _ := hbel
   clear hown hbel
   go_wp2
   go_ret
   refine ⟨_, rfl, ?_, HB.out⟩
   have h := HO.out
   rwa [A3.out] at h
def Blk (w : World) (g : Nat) (t : TypeId) (vs : List Value) : Prop := w.heap[g]? = some (.cells vs.toArray t (0, 0))
theorem Blk.cell {w : World} {g : Nat} {t : TypeId} {vs : List Value} (h : Blk w g t vs) (j : Nat) : w.cell? ⟨g, j, none⟩ = vs[j]? := by
 rw [cell_of_row w g j _ t (0, 0) h]; simp
theorem Blk.frozen {w : World} {g : Nat} {t : TypeId} {vs : List Value} (h : Blk w g t vs) (j : Nat) : w.frozen? ⟨g, j, none⟩ = false := frozen_of_row w g j _ t h
theorem Blk.lt {w : World} {g : Nat} {t : TypeId} {vs : List Value} (h : Blk w g t vs) : g < w.heap.size := by
 rcases Nat.lt_or_ge g w.heap.size with h' | h'
 ·exact h'
 ·unfold Blk at h; rw [Array.getElem?_eq_none h'] at h; cases h
theorem Blk.block {w w' : World} {g : Nat} {t : TypeId} {vs : List Value} (h : Blk w g t vs) (e : w'.heap[g]? = w.heap[g]?) : Blk w' g t vs := e.trans h
theorem Blk.later {w w' : World} {g : Nat} {t : TypeId} {vs : List Value} (h : Blk w g t vs) {B : Nat} (hb : Below B w w') (hB : g < B) : Blk w' g t vs := h.block (hb.block g hB)
theorem Blk.kept {S : Nat → Prop} {w w' : World} {g : Nat} {t : TypeId} {vs : List Value} (h : Blk w g t vs) (hk : Kept S w w') (hS : ¬ S g) : Blk w' g t vs := h.block (hk.block g h.lt hS)
theorem Blk.drew {w : World} {g : Nat} {t : TypeId} {vs : List Value} (h : Blk w g t vs) : Blk w.drew g t vs := h
theorem Blk.set {w : World} {g : Nat} {t : TypeId} {vs : List Value} (h : Blk w g t vs) (j : Nat) (u : Value) : Blk (w.setCell ⟨g, j, none⟩ u) g t (vs.set j u) := by
 unfold Blk
 rw [heap_setCell_same w g j _ t _ h]; simp
theorem Blk.other {w : World} {g : Nat} {t : TypeId} {vs : List Value} (h : Blk w g t vs) {p : Addr} (hp : g ≠ p.block) (u : Value) : Blk (w.setCell p u) g t vs := h.block (Below.heap_setCell _ _ _ _ hp)
theorem Blk.range {w : World} {g : Nat} {t : TypeId} {xs ys zs : List Value} (h : Blk w g t (xs ++ (ys ++ zs))) : w.rangeAt g xs.length ys := fun j v hv => by
 have hj : j < ys.length := (List.getElem?_eq_some_iff.1 hv).1
 rw [h.cell, List.getElem?_append_right (Nat.le_add_right _ _), Nat.add_sub_cancel_left, List.getElem?_append_left hj]; exact hv
theorem Blk.there {w : World} {g : Nat} {t : TypeId} {vs : List Value} (h : Blk w g t vs) {o n : Nat} (hn : o + n ≤ vs.length) : w.there g o n := fun j hj =>
 ⟨by rw [h.cell, List.getElem?_eq_getElem (by omega)]; rfl, h.frozen _⟩
theorem set_mid (xs ys zs : List Value) (v y : Value) : (xs ++ (y :: (ys ++ zs))).set xs.length v = xs ++ [v] ++ (ys ++ zs) := by
 rw [List.set_append_right _ _ (Nat.le_refl _), Nat.sub_self, List.set_cons_zero]; simp
theorem Blk.setCells {g : Nat} {t : TypeId} : ∀ (us ys : List Value) {w : World} {xs zs : List Value}, us.length = ys.length → Blk w g t (xs ++ (ys ++ zs)) → Blk (w.setCells g xs.length us) g t (xs ++ (us ++ zs))
 | [], [], w, xs, zs, _, h => h
 | u :: us, y :: ys, w, xs, zs, hl, h => by
  have h1 := h.set xs.length u
  rw [List.cons_append, set_mid] at h1
  have := Blk.setCells us ys (xs := xs ++ [u]) (zs := zs) (by simpa using hl) h1
  rw [List.length_append] at this
  simpa [World.setCells] using this
theorem setCells_heap_other (b : Nat) : ∀ (vs : List Value) (o : Nat) (w : World) (k : Nat), k ≠ b → (w.setCells b o vs).heap[k]? = w.heap[k]?
 | [], _, _, _, _ => rfl
 | v :: r, o, w, k, h => by
  rw [World.setCells, setCells_heap_other b r _ _ k h]
  exact Below.heap_setCell _ _ _ _ h
theorem setCells_size (b : Nat) : ∀ (vs : List Value) (o : Nat) (w : World), (w.setCells b o vs).heap.size = w.heap.size
 | [], _, _ => rfl
 | v :: r, o, w => by
  rw [World.setCells, setCells_size b r]
  simp [World.setCell]
theorem setCells_rest (b : Nat) : ∀ (vs : List Value) (o : Nat) (w : World), (w.setCells b o vs).os = w.os ∧ (w.setCells b o vs).tape = w.tape ∧ (w.setCells b o vs).output = w.output
 | [], _, _ => ⟨rfl, rfl, rfl⟩
 | v :: r, o, w => by
  rw [World.setCells]
  exact setCells_rest b r _ _
theorem Kept.setCells {S : Nat → Prop} {a w : World} (h : Kept S a w) {b : Nat} (hb : S b) (o : Nat) (vs : List Value) : Kept S a (w.setCells b o vs) :=
 h.trans ⟨(setCells_rest b vs o w).1, (setCells_rest b vs o w).2.1, (setCells_rest b vs o w).2.2, by rw [setCells_size]; exact Nat.le_refl _, fun k _ hs => setCells_heap_other b vs o w k (fun e => hs (e ▸ hb))⟩
theorem Kept.of_below {S : Nat → Prop} {w w' : World} {B : Nat} (h : Below B w w') (hS : ∀ k, k < w.heap.size → B ≤ k → S k) : Kept S w w' :=
 ⟨h.os, h.tape, h.output, h.size, fun k hk hs => h.block k (by
  rcases Nat.lt_or_ge k B with h1 | h1
  ·exact h1
  ·exact absurd (hS k hk h1) hs)⟩
theorem Kept.new {w w' : World} (S : Nat → Prop) (h : Below w.heap.size w w') : Kept S w w' := Kept.of_below h (fun k h1 h2 => by omega)
theorem one_ints (k : IntKind) (zs : List Int) : ∀ v ∈ zs.map (Value.int k), v.oneCell' = true := by
 intro v hv
 obtain ⟨z, _, rfl⟩ := List.mem_map.1 hv
 rfl
theorem wpList_alloc_new {ops : Array Oper} {rest : List Oper} {o : Oper} {a : Act} {Q : Exit → Act → World → Prop} {w : World} (hgd : o.guard = none) (t : TypeId) (ho : o.op = .alloc t) (n : Nat) (vs : List Value)
  (hz : (Tryz.prog.info? t).map (fun i => (i.zero, i.size)) = some (some (.agg vs.toArray), n))
  (h : ∀ w', Blk w' w.heap.size t vs → w'.heap.size = w.heap.size + 1 → Below w.heap.size w w' → wpList Tryz.prog ops Q rest (a.put o.dst (.pointer (some ⟨w.heap.size, 0, none⟩))) w') : wpList Tryz.prog ops Q (o :: rest) a w := by
 refine wpList_plain hgd fun K hK => ?_
 unfold Oper.wp execOp
 simp only [ho, Sem.run_bind, Instr.alloc, (zero_of_info hz).1, newVar, newRow, run_newObj_alloc, Sem.run_pure, Result.andThen_ok]
 exact hK _ _ (h _ (heap_alloc_new w _) (by simp) ((Below.refl _ _).alloc (Nat.le_refl _) _))
theorem wpList_box_new {ops : Array Oper} {rest : List Oper} {o : Oper} {a : Act} {Q : Exit → Act → World → Prop} {w : World} (hgd : o.guard = none) (t : TypeId) (x : Operand) (ho : o.op = .box t x) (vs : List Value) (hx : a.eval x = .agg vs.toArray)
  (h : ∀ w', Blk w' w.heap.size t vs → w'.heap.size = w.heap.size + 1 → Below w.heap.size w w' → wpList Tryz.prog ops Q rest (a.put o.dst (.pointer (some ⟨w.heap.size, 0, none⟩))) w') : wpList Tryz.prog ops Q (o :: rest) a w := by
 refine wpList_plain hgd fun K hK => ?_
 unfold Oper.wp execOp
 simp only [ho, hx, Sem.run_bind, Instr.box, Value.cells, newVar, newRow, run_newObj_alloc, Sem.run_pure, Result.andThen_ok]
 exact hK _ _ (h _ (heap_alloc_new w _) (by simp) ((Below.refl _ _).alloc (Nat.le_refl _) _))
theorem wpList_load_blk {ops : Array Oper} {rest : List Oper} {o : Oper} {a : Act} {Q : Exit → Act → World → Prop} {w : World} (hgd : o.guard = none) (t : TypeId) (x : Operand) (ho : o.op = .load t x) (g : Nat) (hx : a.eval x = .pointer (some ⟨g, 0, none⟩))
  (vs : List Value) (d : TypeDesc) (hb : Blk w g t vs) (hu : Tryz.prog.underlying t = some d) (hd : d.isRow = true) (hi : (Tryz.prog.info? t).map (·.size) = some vs.length)
  (h : wpList Tryz.prog ops Q rest (a.put o.dst (.agg vs.toArray)) w) : wpList Tryz.prog ops Q (o :: rest) a w :=
 wpList_load_mid hgd t x ho g 0 hx vs d (fun j v hv => by rw [Nat.zero_add, hb.cell]; exact hv) hu hd hi h
theorem wpList_store_blk {ops : Array Oper} {rest : List Oper} {o : Oper} {a : Act} {Q : Exit → Act → World → Prop} {w : World} (hgd : o.guard = none) (t t' : TypeId) (x y : Operand) (ho : o.op = .store t x y) (g : Nat) (hx : a.eval x = .pointer (some ⟨g, 0, none⟩))
  (vs us : List Value) (hy : a.eval y = .agg us.toArray) (hb : Blk w g t' vs) (hl : us.length = vs.length) (hi : (Tryz.prog.info? t).map (·.size) = some us.length) (h1 : ∀ v ∈ us, v.oneCell' = true)
  (h : ∀ w', Blk w' g t' us → w'.heap.size = w.heap.size → Kept (fun k => k = g) w w' → wpList Tryz.prog ops Q rest (a.put o.dst undef) w') : wpList Tryz.prog ops Q (o :: rest) a w := by
 refine wpList_store_mid hgd t x y ho g 0 us.toArray hx hy (hb.there (by simp; omega)) (by simpa using hi) (all_oneCell_toArray h1) (h _ ?_ ?_ ?_)
 ·have := Blk.setCells (xs := []) (zs := []) us vs hl (by simpa using hb)
  simpa using this
 ·exact setCells_size ..
 ·exact (Kept.refl _ _).setCells (S := fun k => k = g) rfl _ _
theorem take_op {md : Region.Mode} {ops : Array Oper} {Q : Exit → Act → World → Prop} {oi : Oper} {fuel : Nat} {listed : Array Bool} {a : Act} {w : World} (i : Nat) (d : Option Tmp) (v : Value) (hi : ops[i]? = some oi) (hd : oi.dst = d)
  (hs : Region.noSelect ops = true) (hf : Region.free md ops listed i = true) (hr : (Region.ready md ops listed).contains i = true) (hQ : ∀ c a w, Q (.panic c) (a.put d v) w → Q (.panic c) a w)
  (hw : Region.wanted oi (yielded ops a.tmps) = true) (hy : ∀ w, (execOp a.eval oi).run Tryz.prog w = .ok (.value v) w)
  (h : wpAny Tryz.prog md ops Q fuel (listed.setIfInBounds i true) (a.put d v) w) : wpAny Tryz.prog md ops Q (fuel + 1) listed a w := by
 subst hd
 exact wpAny_take hi hs hf hr hQ (Or.inl ⟨hw, hy⟩) h
theorem step_store {ops : Array Oper} {Q : Exit → Act → World → Prop} {o : Oper} {a : Act} {w : World} {K : Act → World → Prop} {E : Prop} (hdst : o.dst = none) (hw : Region.wanted o (yielded ops a.tmps) = true) (ty : TypeId) (x y : Operand) (ho : o.op = .store ty x y)
  (b off : Nat) (hx : a.eval x = .pointer (some ⟨b, off, none⟩)) (cs : List Value) (hy : a.eval y = .agg cs.toArray) (ht : w.there b off cs.length) (hi : (Tryz.prog.info? ty).map (·.size) = some cs.length) (h1 : ∀ v ∈ cs, v.oneCell' = true)
  (h : K a (w.setCells b off cs)) : if Region.wanted o (yielded ops a.tmps) = true then Oper.wp Tryz.prog o a w K Q else E := by
 rw [if_pos hw]
 refine wp_store_mid ty x y ho b off cs.toArray hx hy (by simpa using ht) (by simpa using hi) (all_oneCell_toArray h1) ?_
 rw [hdst]
 exact h
def Stp (ops : Array Oper) (Q : Exit → Act → World → Prop) (o : Oper) (a : Act) (w : World) (a' : Act) (w' : World) : Prop :=
 ∀ K : Act → World → Prop, K a' w' → if Region.wanted o (yielded ops a.tmps) = true then Oper.wp Tryz.prog o a w K Q else K (a.put o.dst undef) w
theorem one_step {md : Region.Mode} {ops : Array Oper} {Q : Exit → Act → World → Prop} {fuel : Nat} {listed : Array Bool} {a a' : Act} {w w' : World} (i : Nat) {oi : Oper} (hi : ops[i]? = some oi) (hr : Region.ready md ops listed = [i])
  (s : Stp ops Q oi a w a' w') (h : wpAny Tryz.prog md ops Q fuel (listed.setIfInBounds i true) a' w') : wpAny Tryz.prog md ops Q (fuel + 1) listed a w :=
 wpAny_ready hr (by simp) (AllReady.cons hi (fun K hK => s K (hK _ _ h)) AllReady.nil)
theorem wpList_build {ops : Array Oper} {rest : List Oper} {o : Oper} {a : Act} {Q : Exit → Act → World → Prop} {w : World} (hgd : o.guard = none) (t : TypeId) (parts : Array (Nat × Operand)) (ho : o.op = .build t parts) (ps : Array (Nat × Value))
  (hp : (parts.map fun (i, x) => (i, a.eval x)) = ps) (v : Value) (hrun : (Instr.build t ps).run Tryz.prog w = .ok v w) (h : wpList Tryz.prog ops Q rest (a.put o.dst v) w) : wpList Tryz.prog ops Q (o :: rest) a w := by
 refine wpList_plain hgd fun K hK => ?_
 unfold Oper.wp execOp
 simp only [ho, hp, Sem.run_bind, hrun, Sem.run_pure, Result.andThen_ok]
 exact hK _ _ h
theorem ret_blk {fn : Func} {p : Tmp} {ty : TypeId} (h : fn.results = #[.cell p ty]) {R : Ending → World → Prop} {a : Act} {w : World} (g : Nat) (vs : List Value) (d : TypeDesc) (hp : a.tmps.getD p undef = .pointer (some ⟨g, 0, none⟩))
  (hb : Blk w g ty vs) (hu : Tryz.prog.underlying ty = some d) (hd : d.isRow = true) (hi : (Tryz.prog.info? ty).map (·.size) = some vs.length) (hdef : a.defers = []) (hR : R (.returned (.agg vs.toArray)) w) : bodyPost Tryz.prog fn R .ret a w :=
 bodyPost_ret (results_cell_row h _ _ g ty vs.toArray (0, 0) d hp hb hu (by cases d <;> simp_all) (by simpa using hi)) hdef hR
theorem below_kept {S : Nat → Prop} {w w1 w2 : World} {B : Nat} (h : Below B w w1) (k : Kept S w1 w2) (hB : B ≤ w1.heap.size) (hS : ∀ j, j < B → ¬ S j) : Below B w w2 :=
 ⟨by rw [k.os, h.os], by rw [k.tape, h.tape], by rw [k.output, h.output], Nat.le_trans h.size k.size, fun j hj => by rw [k.block j (by omega) (hS j hj), h.block j hj]⟩
theorem below_chain {w w1 w2 : World} {B C : Nat} (h : Below B w w1) (k : Below C w1 w2) (hB : B ≤ C) : Below B w w2 :=
 ⟨by rw [k.os, h.os], by rw [k.tape, h.tape], by rw [k.output, h.output], Nat.le_trans h.size k.size, fun j hj => by rw [k.block j (by omega), h.block j hj]⟩
def u32s (zs : List Int) : List Value := zs.map (Value.int .u32)
def u8s (zs : List Int) : List Value := zs.map (Value.int .u8)
theorem u32s_length (zs : List Int) : (u32s zs).length = zs.length := by simp [u32s]
theorem u8s_length (zs : List Int) : (u8s zs).length = zs.length := by simp [u8s]
theorem u32s_one (zs : List Int) : ∀ v ∈ u32s zs, v.oneCell' = true := one_ints _ _
theorem u8s_one (zs : List Int) : ∀ v ∈ u8s zs, v.oneCell' = true := one_ints _ _
theorem u32s_set (zs : List Int) (j : Nat) (z : Int) : (u32s zs).set j (.int .u32 z) = u32s (zs.set j z) := by simp [u32s, List.map_set]
theorem u8s_set (zs : List Int) (j : Nat) (z : Int) : (u8s zs).set j (.int .u8 z) = u8s (zs.set j z) := by simp [u8s, List.map_set]
theorem u8s_cell {w : World} {g : Nat} {t : TypeId} {zs : List Int} (h : Blk w g t (u8s zs)) (j : Nat) (hj : j < zs.length) : w.cell? ⟨g, j, none⟩ = some (.int .u8 (zs.getD j 0)) := by
 rw [h.cell]; simp [u8s, hj, List.getD]
theorem u32s_cell {w : World} {g : Nat} {t : TypeId} {zs : List Int} (h : Blk w g t (u32s zs)) (j : Nat) (hj : j < zs.length) : w.cell? ⟨g, j, none⟩ = some (.int .u32 (zs.getD j 0)) := by
 rw [h.cell]; simp [u32s, hj, List.getD]
def addW (xs ys : List Int) : List Int := List.zipWith (fun x y => (x + y) % 4294967296) xs ys
theorem addW_length (xs ys : List Int) (n : Nat) (hx : xs.length = n) (hy : ys.length = n) : (addW xs ys).length = n := by simp [addW, hx, hy]
theorem addW_at (xs ys : List Int) (n i : Nat) (hx : xs.length = n) (hy : ys.length = n) (hi : i < n) : (addW xs ys).getD i 0 = (xs.getD i 0 + ys.getD i 0) % 4294967296 := by
 have h1 : i < xs.length := by omega
 have h2 : i < ys.length := by omega
 have h3 : i < (List.zipWith (fun x y => (x + y) % 4294967296) xs ys).length := by simp; omega
 simp only [addW, List.getD]
 rw [List.getElem?_eq_getElem h3, List.getElem?_eq_getElem h1, List.getElem?_eq_getElem h2]
 simp
theorem half_set (xs ys : List Int) (n i : Nat) (hx : xs.length = n) (hy : ys.length = n) (hi : i < n) : (xs.take i ++ ys.drop i).set i (xs.getD i 0) = xs.take (i + 1) ++ ys.drop (i + 1) := by
 have e : (xs.take i).length = i := by simp; omega
 have h1 : i < xs.length := by omega
 have h2 : xs.getD i 0 = xs[i] := by simp [List.getD, h1]
 rw [List.set_append_right _ _ (by omega), e, Nat.sub_self, List.drop_eq_getElem_cons (by omega : i < ys.length), List.set_cons_zero, List.take_succ_eq_append_getElem h1, h2, List.append_assoc]
 rfl
theorem half_at (xs ys : List Int) (n i : Nat) (hx : xs.length = n) (hy : ys.length = n) (hi : i < n) : (xs.take i ++ ys.drop i).getD i 0 = ys.getD i 0 := by
 have e : (xs.take i).length = i := by simp; omega
 simp only [List.getD]
 rw [List.getElem?_append_right (by omega), e, Nat.sub_self, List.getElem?_drop, Nat.add_zero]
theorem half_length (xs ys : List Int) (n i : Nat) (hx : xs.length = n) (hy : ys.length = n) (hi : i ≤ n) : (xs.take i ++ ys.drop i).length = n := by simp; omega
structure PgV where
 st : Value
 key : List Int
 round : Int
 win : Nat
 pages : Nat
 text : Nat
 held : Value
 order : Value
 places : Value
 most : Nat
 writes : Nat
 dead : Int
def pgT (v : PgV) : List Value := [.int .u64 v.round, .int .i64 (v.win : Int), .int .i64 (v.pages : Int), .int .i64 (v.text : Int), v.held, v.order, v.places, .int .i64 (v.most : Int), .int .u32 (v.writes : Int), .int .i64 v.dead]
def pgC (v : PgV) : List Value := v.st :: (u8s v.key ++ pgT v)
theorem pgC_length (v : PgV) (hk : v.key.length = 32) : (pgC v).length = 43 := by simp [pgC, pgT, u8s_length, hk]
structure PgAt (w : World) (p : Nat) (v : PgV) : Prop where
 blk : Blk w p 146 (pgC v)
 klen : v.key.length = 32
 kb : Bytes v.key
theorem PgAt.later {w w' : World} {p : Nat} {v : PgV} (h : PgAt w p v) {B : Nat} (l : Below B w w') (hB : p < B) : PgAt w' p v := ⟨h.blk.later l hB, h.klen, h.kb⟩
theorem PgAt.kept {S : Nat → Prop} {w w' : World} {p : Nat} {v : PgV} (h : PgAt w p v) (k : Kept S w w') (hS : ¬ S p) : PgAt w' p v := ⟨h.blk.kept k hS, h.klen, h.kb⟩
theorem PgAt.cell {w : World} {p : Nat} {v : PgV} (h : PgAt w p v) (i : Nat) (x : Value) (hx : (pgT v)[i]? = some x) : w.cell? ⟨p, 33 + i, none⟩ = some x := by
 rw [h.blk.cell]
 show (pgC v)[33 + i]? = some x
 rw [show 33 + i = (32 + i) + 1 by omega]
 simp only [pgC, List.getElem?_cons_succ]
 rw [List.getElem?_append_right (by rw [u8s_length, h.klen]; omega), u8s_length, h.klen, Nat.add_sub_cancel_left]
 exact hx
theorem pg_set (v : PgV) (hk : v.key.length = 32) (i : Nat) (x : Value) : (pgC v).set (33 + i) x = v.st :: (u8s v.key ++ (pgT v).set i x) := by
 rw [show 33 + i = (32 + i) + 1 by omega]
 simp only [pgC, List.set_cons_succ]
 rw [List.set_append_right _ _ (by rw [u8s_length, hk]; omega), u8s_length, hk, Nat.add_sub_cancel_left]
theorem PgAt.key {w : World} {p : Nat} {v : PgV} (h : PgAt w p v) : w.rangeAt p 1 (u8s v.key) := fun j x hx => by
 rw [h.blk.cell]
 show (pgC v)[1 + j]? = some x
 rw [Nat.add_comm]
 simp only [pgC, List.getElem?_cons_succ]
 rw [List.getElem?_append_left (List.getElem?_eq_some_iff.1 hx).1]
 exact hx
theorem PgAt.put {w : World} {p : Nat} {v v' : PgV} (h : PgAt w p v) (i : Nat) (x : Value) (hs : v'.st = v.st) (hk : v'.key = v.key) (ht : (pgT v).set i x = pgT v') : PgAt (w.setCell ⟨p, 33 + i, none⟩ x) p v' := by
 refine ⟨?_, by rw [hk]; exact h.klen, by rw [hk]; exact h.kb⟩
 have := h.blk.set (33 + i) x
 rw [pg_set v h.klen, ht, ← hs, ← hk] at this
 exact this
theorem alive_any (p : Nat) (v : PgV) (w : World) (h : PgAt w p v) : Calls Tryz.prog 109 #[.pointer (some ⟨p, 0, none⟩)] w fun e w' => e = .returned (.int .i64 v.dead) ∧ w = w' := by
 have c : w.cell? ⟨p, 42, none⟩ = some (.int .i64 v.dead) := h.cell 9 _ rfl
 go_enter Tryz.func109, Tryz.ntmps109
 go_wp2
 go_ret
 exact ⟨rfl, rfl⟩
theorem gpages_any (p : Nat) (v : PgV) (w : World) (h : PgAt w p v) : Calls Tryz.prog 86 #[.pointer (some ⟨p, 0, none⟩)] w fun e w' => e = .returned (.int .i64 (v.pages : Int)) ∧ w = w' := by
 have c : w.cell? ⟨p, 35, none⟩ = some (.int .i64 (v.pages : Int)) := h.cell 2 _ rfl
 go_enter Tryz.func86, Tryz.ntmps86
 go_wp2
 go_ret
 exact ⟨rfl, rfl⟩
theorem gtext_any (p : Nat) (v : PgV) (w : World) (h : PgAt w p v) : Calls Tryz.prog 85 #[.pointer (some ⟨p, 0, none⟩)] w fun e w' => e = .returned (.int .i64 (v.text : Int)) ∧ w = w' := by
 have c : w.cell? ⟨p, 36, none⟩ = some (.int .i64 (v.text : Int)) := h.cell 3 _ rfl
 go_enter Tryz.func85, Tryz.ntmps85
 go_wp2
 go_ret
 exact ⟨rfl, rfl⟩
def chkE (v : PgV) (n : Int) : Int := if v.dead ≠ 0 then v.dead else if n < 0 ∨ (v.pages : Int) ≤ n then 2 else 0
theorem gcheck_any (p : Nat) (v : PgV) (n : Int) (w : World) (h : PgAt w p v) : Calls Tryz.prog 98 #[.pointer (some ⟨p, 0, none⟩), .int .i64 n] w fun e w' => e = .returned (.int .i64 (chkE v n)) ∧ w = w' := by
 have c : w.cell? ⟨p, 35, none⟩ = some (.int .i64 (v.pages : Int)) := h.cell 2 _ rfl
 have HP : Hid (PgAt w p v) := h
 clear h
 by_cases h0 : v.dead = 0
 ·have H0 : Hid (v.dead = 0) := h0
  clear h0
  by_cases h1 : n < 0
  ·have e : chkE v n = 2 := by unfold chkE; rw [if_neg (by have := H0.out; simp [this]), if_pos (.inl h1)]
   rw [e]
   clear e
   go_enter Tryz.func98, Tryz.ntmps98
   go_wp2_with (go_at_call 109; refine (alive_any p v w HP.out).mono ?_; rintro e _ ⟨rfl, rfl⟩; rw [H0.out])
   go_ret
   exact ⟨rfl, rfl⟩
  ·by_cases h2 : (v.pages : Int) ≤ n
   ·have e : chkE v n = 2 := by unfold chkE; rw [if_neg (by have := H0.out; simp [this]), if_pos (.inr h2)]
    rw [e]
    clear e
    go_enter Tryz.func98, Tryz.ntmps98
    go_wp2_with (go_at_call 109; refine (alive_any p v w HP.out).mono ?_; rintro e _ ⟨rfl, rfl⟩; rw [H0.out])
    go_ret
    exact ⟨rfl, rfl⟩
   ·have e : chkE v n = 0 := by unfold chkE; rw [if_neg (by have := H0.out; simp [this]), if_neg (by omega)]
    rw [e]
    clear e
    go_enter Tryz.func98, Tryz.ntmps98
    go_wp2_with (go_at_call 109; refine (alive_any p v w HP.out).mono ?_; rintro e _ ⟨rfl, rfl⟩; rw [H0.out])
    go_ret
    exact ⟨rfl, rfl⟩
 ·have e : chkE v n = v.dead := by unfold chkE; rw [if_pos h0]
  rw [e]
  clear e
  obtain ⟨d, hd⟩ : ∃ d, v.dead = d := ⟨_, rfl⟩
  have HD : Hid (v.dead = d) := hd
  rw [hd] at h0 ⊢
  have h1 : (d != 0) = true := by simpa using h0
  clear hd
  go_enter Tryz.func98, Tryz.ntmps98
  go_wp2_with (go_at_call 109; refine (alive_any p v w HP.out).mono ?_; rintro e _ ⟨rfl, rfl⟩; rw [HD.out])
  go_ret
  exact ⟨rfl, rfl⟩
structure SeenZ (w : World) (ao : Option Addr) (n : Nat) (zs : List Int) : Prop where
 len : zs.length = n
 cells : 0 < n → ∃ b o, ao = some ⟨b, o, none⟩ ∧ b < w.heap.size ∧ ∀ i, i < n → w.cell? ⟨b, o + i, none⟩ = some (.int .i64 (zs.getD i 0))
theorem own_z {w : World} {base : Nat} {v : Value} {zs : List Int} (h : w.ownsRow base 3 1 v zs.length (zs.map (Value.int .i64))) : ∃ ao c, v = .slice ao zs.length c ∧ SeenZ w ao zs.length zs := by
 rcases h.2 with ⟨rfl, h0⟩ | ⟨g, cap, cur, rfl, hg, hh, _⟩
 ·exact ⟨none, 0, by rw [h0], rfl, fun h => by omega⟩
 ·refine ⟨_, cap, rfl, rfl, fun _ => ⟨g, 0, rfl, lt_of_block hh, fun i hi => ?_⟩⟩
  rw [Nat.zero_add, h.cellAt i (by omega)]
  simp [List.getD, hi]
def idxI : List Int → Int → Int
 | [], _ => -1
 | z :: zs, x => if z = x then 0 else if idxI zs x < 0 then -1 else idxI zs x + 1
theorem idxI_none (zs : List Int) (x : Int) (h : ∀ t, t < zs.length → zs.getD t 0 ≠ x) : idxI zs x = -1 := by
 induction zs with
 | nil => rfl
 | cons z zs ih =>
  have h0 : z ≠ x := h 0 (by simp)
  have h1 := ih (fun t ht => h (t + 1) (by simpa using ht))
  simp only [idxI]
  rw [if_neg h0, h1, if_pos (by decide)]
theorem idxI_at (zs : List Int) (x : Int) (k : Nat) (hk : k < zs.length) (h : ∀ t, t < k → zs.getD t 0 ≠ x) (he : zs.getD k 0 = x) : idxI zs x = k := by
 induction zs generalizing k with
 | nil => simp at hk
 | cons z zs ih =>
  cases k with
  | zero =>
   have he' : z = x := he
   simp only [idxI]
   rw [if_pos he']
   rfl
  | succ k =>
   have h0 : z ≠ x := h 0 (by omega)
   have h1 := ih k (by simpa using hk) (fun t ht => h (t + 1) (by omega)) he
   simp only [idxI]
   rw [if_neg h0, h1, if_neg (by omega)]
   omega
theorem sidx_any (ao : Option Addr) (n c : Nat) (zs : List Int) (x : Int) (w : World) (hs : SeenZ w ao n zs) (hn : n ≤ 140737488355328) :
  Calls Tryz.prog 111 #[.slice ao n c, .int .i64 x] w fun e w' => e = .returned (.int .i64 (idxI zs x)) ∧ w = w' := by
 have HS : Hid (SeenZ w ao n zs) := hs
 clear hs
 go_enter Tryz.func111, Tryz.ntmps111
 go_wp2
 go_loopw [8] (fun i wr => ∃ k : Nat, k ≤ n ∧ i = .int .i64 k ∧ (∀ t, t < k → zs.getD t 0 ≠ x) ∧ w = wr) (fun i _ => n - (intOf i).toNat)
 case atStart => exact ⟨0, Nat.zero_le _, rfl, fun t ht => by omega, rfl⟩
 case round =>
  obtain ⟨k, hk, rfl, hno, rfl⟩ := hrel
  by_cases hlt : k < n
  ·obtain ⟨b, o, rfl, hb, hc⟩ := HS.out.cells (by omega)
   have c1 := hc k hlt
   obtain ⟨y, hy⟩ : ∃ y, zs.getD k 0 = y := ⟨_, rfl⟩
   rw [hy] at c1
   have HY : Hid (zs.getD k 0 = y ∧ ∀ t, t < k → zs.getD t 0 ≠ x) := ⟨hy, hno⟩
   have i1 : (0 : Int) ≤ (k : Int) := by omega
   have i2 : (k : Int) < (n : Int) := by omega
   clear hno hy hc
   by_cases hxy : x = y
   ·have h1 : (x == y) = true := by simpa using hxy
    have e : idxI zs x = k := idxI_at zs x k (by have := HS.out.len; omega) HY.out.2 (by rw [HY.out.1, hxy])
    have HE : Hid (idxI zs x = k) := e
    clear e hxy
    go_wp2
    go_ret
    exact ⟨by rw [HE.out]; rfl, rfl⟩
   ·have h1 : (x == y) = false := by simpa using hxy
    have HN : Hid (x ≠ y) := hxy
    clear hxy
    go_wp2
    refine ⟨⟨k + 1, by omega, by go_num, fun t ht => ?_, by first | rfl | trivial⟩, by simp [intOf]; omega⟩
    by_cases e : t = k
    ·subst e; rw [HY.out.1]; exact fun e => HN.out e.symm
    ·exact HY.out.2 t (by omega)
  ·obtain rfl : k = n := by omega
   have HE : Hid (idxI zs x = -1) := idxI_none zs x (fun t ht => hno t (by rw [HS.out.len] at ht; exact ht))
   clear hno
   go_wp2
   go_ret
   exact ⟨by rw [HE.out]; rfl, rfl⟩
theorem info_int : (Tryz.prog.info? 3).map (fun i => (i.zero, i.size, i.bytes)) = some (some (.int .i64 0), 1, 8) := by kernel_rfl
theorem wp_app {o : Oper} {a : Act} {K : Act → World → Prop} {Q : Exit → Act → World → Prop} {w : World} (s x : Operand) (t ty : TypeId) (ho : o.op = .call { callee := .builtin .append, args := #[s, x], argTypes := #[t, t] }) (hty : o.type = ty)
  (va vb : Value) (hs : a.eval s = va) (hx : a.eval x = vb) (v' : Value) (w' : World) (hr : (Builtin.append_ #[t, t] ty #[va, vb]).run Tryz.prog w = .ok v' w') (h : K (a.put o.dst v') w') : o.wp Tryz.prog a w K Q := by
 subst hty
 unfold Oper.wp execOp
 simp only [ho, resolve, invoke, builtin, Sem.run_bind, Sem.run_pure, Result.andThen_ok, List.map_toArray, List.map_cons, List.map_nil, hs, hx, hr]
 exact h
theorem last_assignZ {o : Oper} {a : Act} {w : World} {K : Act → World → Prop} {Q : Exit → Act → World → Prop} (x : Operand) (ho : o.op = .assign x) (d : Option Tmp) (hdst : o.dst = d) (v : Value) (hx : a.eval x = v) (h : K (a.put d v) w) : o.wp Tryz.prog a w K Q := by
 subst hdst
 unfold Oper.wp execOp
 simp only [ho, hx, Sem.run_pure]
 exact h
theorem sizeInt : (Tryz.prog.info? 3).map (·.size) = some 1 := by kernel_rfl
def subZ (ao : Option Addr) (lo c : Nat) : Option Addr := if c = lo then ao else ao.map (·.add lo)
theorem zl_h (ao : Option Addr) (n c h : Nat) (hh : h ≤ c) (w : World) : (Instr.sliceAt 133 (.slice ao n c) none (some (.int .i64 h)) none).run Tryz.prog w = .ok (.slice (subZ ao 0 c) h c) w := by
 rw [run_sliceAt_slice w 133 _ _ _ _ Tryz.underlying133, run_slice_h w 133 ao n c Tryz.underlying133 .i64 h (by omega) (by omega)]
 rw [show Tryz.prog.elem 133 = 3 by kernel_rfl]
 have hs : (sizeOf 3).run Tryz.prog w = .ok 1 w := by
  have h := sizeInt
  cases hq : Tryz.prog.info? 3 with
  | none => simp [hq] at h
  | some i => simp [hq] at h; simp [sizeOf, typeInfo, hq, h]
 simp [hs, Result.andThen, sliced, subZ]
theorem zl_l (ao : Option Addr) (n c l : Nat) (hl : l ≤ n) (w : World) : (Instr.sliceAt 133 (.slice ao n c) (some (.int .i64 l)) none none).run Tryz.prog w = .ok (.slice (subZ ao l c) (n - l) (c - l)) w := by
 rw [run_sliceAt_slice w 133 _ _ _ _ Tryz.underlying133, run_slice_l w 133 ao n c Tryz.underlying133 .i64 l (by omega) (by omega)]
 rw [show Tryz.prog.elem 133 = 3 by kernel_rfl]
 have hs : (sizeOf 3).run Tryz.prog w = .ok 1 w := by
  have h := sizeInt
  cases hq : Tryz.prog.info? 3 with
  | none => simp [hq] at h
  | some i => simp [hq] at h; simp [sizeOf, typeInfo, hq, h]
 simp [hs, Result.andThen, sliced, subZ]
theorem zl_lh (ao : Option Addr) (n c l h : Nat) (hl : l ≤ h) (hh : h ≤ c) (w : World) : (Instr.sliceAt 133 (.slice ao n c) (some (.int .i64 l)) (some (.int .i64 h)) none).run Tryz.prog w = .ok (.slice (subZ ao l c) (h - l) (c - l)) w := by
 rw [run_sliceAt_slice w 133 _ _ _ _ Tryz.underlying133, run_slice_lh w 133 ao n c Tryz.underlying133 .i64 .i64 l h (by omega) (by omega) (by omega)]
 rw [show Tryz.prog.elem 133 = 3 by kernel_rfl]
 have hs : (sizeOf 3).run Tryz.prog w = .ok 1 w := by
  have h := sizeInt
  cases hq : Tryz.prog.info? 3 with
  | none => simp [hq] at h
  | some i => simp [hq] at h; simp [sizeOf, typeInfo, hq, h]
 simp [hs, Result.andThen, sliced, subZ]
theorem wpList_clear_run {ops : Array Oper} {rest : List Oper} {o : Oper} {a : Act} {Q : Exit → Act → World → Prop} {w : World} (hgd : o.guard = none) (s : Operand) (t ty : TypeId) (ho : o.op = .call { callee := .builtin .clear, args := #[s], argTypes := #[t] }) (hty : o.type = ty)
  (va : Value) (hs : a.eval s = va) (v' : Value) (w' : World) (hr : (Builtin.clear_ #[t] ty #[va]).run Tryz.prog w = .ok v' w') (h : wpList Tryz.prog ops Q rest (a.put o.dst v') w') : wpList Tryz.prog ops Q (o :: rest) a w := by
 refine wpList_plain hgd fun K hK => ?_
 subst hty
 unfold Oper.wp execOp
 simp only [ho, resolve, invoke, builtin, Sem.run_bind, Sem.run_pure, Result.andThen_ok, List.map_toArray, List.map_cons, List.map_nil, hs, hr]
 exact hK _ _ h
theorem own_front {w : World} {base g n cap k : Nat} {xs : List Value} (h : w.ownsRow base 3 1 (.slice (some ⟨g, 0, none⟩) n cap) n xs) (hk : k ≤ n) : w.ownsRow base 3 1 (.slice (some ⟨g, 0, none⟩) k cap) k (xs.take k) := by
 have hl := h.1
 rcases h.2 with ⟨h1, _⟩ | ⟨g', cap', cur, e, hb, hh, hn, hm, hs, ht⟩
 ·cases h1
 ·cases e
  refine ⟨by simp; omega, .inr ⟨g, cap, cur, rfl, hb, hh, by omega, hm, hs, ?_⟩⟩
  rw [← ht, List.take_take]
  congr 1
  omega
theorem erase_eq (zs : List Int) (k : Nat) : (zs.map (Value.int .i64)).take k ++ ((zs.drop (k + 1)).map (Value.int .i64)) = (zs.eraseIdx k).map (Value.int .i64) := by
 rw [List.eraseIdx_eq_take_drop_succ, List.map_append, List.map_take]
theorem sdel_any (base g cap k : Nat) (zs : List Int) (w : World) (ho : w.ownsRow base 3 1 (.slice (some ⟨g, 0, none⟩) zs.length cap) zs.length (zs.map (Value.int .i64))) (hk : k < zs.length) (hn : zs.length ≤ 1048576) :
  Calls Tryz.prog 112 #[.slice (some ⟨g, 0, none⟩) zs.length cap, .int .i64 k, .int .i64 ((k : Int) + 1)] w fun e w' => e = .returned (.slice (some ⟨g, 0, none⟩) (zs.length - 1) cap) ∧ w'.ownsRow base 3 1 (.slice (some ⟨g, 0, none⟩) (zs.length - 1) cap) (zs.length - 1) ((zs.eraseIdx k).map (Value.int .i64)) ∧ Kept (fun b => b = g) w w' := by
 obtain ⟨i0, hi, hz0, hz1, hz2⟩ := info_parts info_int
 obtain ⟨n, hnn⟩ : ∃ n, zs.length = n := ⟨_, rfl⟩
 have hcap : n ≤ cap := by
  rcases ho.2 with ⟨h1, _⟩ | ⟨g', cap', cur, e, hb, hh, hc, _⟩
  ·cases h1
  ·cases e; omega
 have HZ : Hid (zs.length = n) := hnn
 rw [hnn] at ho hk hn ⊢
 have HO : Hid (w.ownsRow base 3 1 (.slice (some ⟨g, 0, none⟩) n cap) n (zs.map (Value.int .i64))) := ho
 clear ho hnn
 have i1 : (0 : Int) ≤ (k : Int) := by omega
 have i2 : (k : Int) ≤ (k : Int) + 1 := by omega
 have i3 : (k : Int) + 1 ≤ (n : Int) := by omega
 have i4 : (n : Int) ≤ (cap : Int) := by omega
 have i5 : (k : Int) ≤ (cap : Int) := by omega
 have i6 : ((k : Int) == (k : Int) + 1) = false := by simp; omega
 go_enter Tryz.func112, Tryz.ntmps112
 go_wp2
 obtain ⟨ad, had, hrun5⟩ : ∃ ad : Addr, (k + 1 < n → ad = ⟨g, k + 1, none⟩) ∧ ∀ W, (Instr.sliceAt 133 (.slice (some ⟨g, 0, none⟩) n cap) (some (.int .i64 ((k : Int) + 1))) none none).run Tryz.prog W = .ok (.slice (some ad) (n - (k + 1)) (cap - (k + 1))) W := by
  have h := zl_l (some ⟨g, 0, none⟩) n cap (k + 1) (by omega)
  rw [show ((k + 1 : Nat) : Int) = (k : Int) + 1 by omega] at h
  by_cases hc : cap = k + 1
  ·refine ⟨⟨g, 0, none⟩, fun h => by omega, fun W => ?_⟩
   rw [h W, subZ, if_pos hc]
  ·refine ⟨⟨g, k + 1, none⟩, fun _ => rfl, fun W => ?_⟩
   rw [h W, subZ, if_neg hc]
   simp [Addr.add]
 have hrun2 : ∀ W, (Instr.sliceAt 133 (.slice (some ⟨g, 0, none⟩) n cap) none (some (.int .i64 (k : Int))) none).run Tryz.prog W = .ok (.slice (some ⟨g, 0, none⟩) k cap) W := fun W => by
  rw [zl_h (some ⟨g, 0, none⟩) n cap k (by omega) W, subZ]
  split <;> simp [Addr.add]
 refine wp_region_noPanic (wp_region_any (by kernel_rfl) ?_)
 refine take_op 0 (some 20) (.slice (some ⟨g, 0, none⟩) n cap) rfl rfl (by kernel_rfl) (by kernel_rfl) (by kernel_rfl) (fun _ _ _ h => h) (by rfl) (fun _ => by rfl) ?_
 refine take_op 1 (some 21) (.int .i64 (k : Int)) rfl rfl (by kernel_rfl) (by kernel_rfl) (by kernel_rfl) (fun _ _ _ h => h) (by rfl) (fun _ => by rfl) ?_
 refine take_op 3 (some 23) (.slice (some ⟨g, 0, none⟩) n cap) rfl rfl (by kernel_rfl) (by kernel_rfl) (by kernel_rfl) (fun _ _ _ h => h) (by rfl) (fun _ => by rfl) ?_
 refine take_op 4 (some 24) (.int .i64 ((k : Int) + 1)) rfl rfl (by kernel_rfl) (by kernel_rfl) (by kernel_rfl) (fun _ _ _ h => h) (by rfl) (fun _ => by rfl) ?_
 refine take_op 2 (some 22) (.slice (some ⟨g, 0, none⟩) k cap) rfl rfl (by kernel_rfl) (by kernel_rfl) (by kernel_rfl) (fun _ _ _ h => h) (by rfl) (fun _ => by go_simp) ?_
 refine take_op 5 (some 25) (.slice (some ad) (n - (k + 1)) (cap - (k + 1))) rfl rfl (by kernel_rfl) (by kernel_rfl) (by kernel_rfl) (fun _ _ _ h => h) (by rfl) (fun _ => by go_simp) ?_
 simp only [Act.put, sqA, sqB, sqC]
 have hb : Below w.heap.size w w.drew := below_dn (Below.refl _ _) 1
 obtain ⟨wx, hwx⟩ : ∃ wx, w.drew = wx := ⟨_, rfl⟩
 rw [hwx] at hb
 rw [show ({ heap := w.heap, tape := w.tape, drawn := w.drawn + 1, os := w.os, output := w.output } : World) = wx from hwx]
 clear hwx
 have ox := ownsRow_below HO.out hb
 obtain ⟨w1, hrun, o1, g1⟩ := run_append_fits (P := Tryz.prog) wx base 133 133 3 i0 1 Tryz.underlying133 hi hz1 g k cap _ (own_front ox (by omega)) ad (n - (k + 1)) (cap - (k + 1)) ((zs.drop (k + 1)).map (Value.int .i64)) (by rw [List.length_map, List.length_drop, HZ.out, Nat.mul_one]) (fun j u hj => by
  have hjl : j < n - (k + 1) := by have := (List.getElem?_eq_some_iff.1 hj).1; rw [List.length_map, List.length_drop, HZ.out] at this; exact this
  rw [had (by omega), Addr.add_mid, ox.cellAt (k + 1 + j) (by omega), ← hj]
  simp [List.getElem?_drop]) (fun u hu => by obtain ⟨z, _, rfl⟩ := List.mem_map.1 hu; rfl) (by omega)
 obtain ⟨m, hm⟩ : ∃ m, n - 1 = m := ⟨_, rfl⟩
 have HM : Hid (n - 1 = m ∧ m + 1 = n) := ⟨hm, by omega⟩
 rw [erase_eq, show k + (n - (k + 1)) = m by omega] at o1
 rw [show k + (n - (k + 1)) = m by omega] at hrun
 have hmn : m < n := by omega
 clear hm
 refine wpAny_ready (rs := [6]) (by kernel_rfl) (by simp) (AllReady.cons rfl (fun K hK => ?_) AllReady.nil)
 rw [if_pos (by rfl)]
 refine wp_app (.tmp 22) (.tmp 25) 133 133 rfl rfl _ _ rfl rfl (.slice (some ⟨g, 0, none⟩) m cap) w1 hrun ?_
 refine hK _ _ ?_
 clear hK K hrun
 simp only [Act.put, sqA, sqB, sqC]
 refine wpAny_ready (rs := [7]) (by kernel_rfl) (by simp) (AllReady.cons rfl (fun K hK => ?_) AllReady.nil)
 rw [if_pos (by rfl)]
 refine last_assignZ (.tmp 26) rfl (some 0) rfl (.slice (some ⟨g, 0, none⟩) m cap) rfl ?_
 refine hK _ _ ?_
 clear hK K
 simp only [Act.put, sqA, sqB, sqC]
 refine wpAny_done (by kernel_rfl) (NoPanic.normal ?_) _
 have W1 : Hid (w1.ownsRow base 3 1 (.slice (some ⟨g, 0, none⟩) m cap) m ((zs.eraseIdx k).map (Value.int .i64)) ∧ Kept (fun b => b = g) w w1) := ⟨o1, (Kept.new _ hb).trans ⟨g1.os, g1.tape, g1.output, g1.size, fun b hb' hs => g1.block b hb' (fun e => hs (Option.some.inj e))⟩⟩
 clear o1 g1 ox hb
 have c1 : ∀ j, j < 1 → (w1.cell? ⟨g, m + j, none⟩).isSome = true ∧ w1.frozen? ⟨g, m + j, none⟩ = false := fun j hj => by
  rcases W1.out.1.2 with ⟨h1, _⟩ | ⟨g', cap', cur, e, hb, hh, hc, hmx, hs, ht⟩
  ·cases h1
  ·cases e
   obtain rfl : j = 0 := by omega
   have hlt : m + 0 < cur.size := by omega
   refine ⟨?_, ?_⟩
   ·rw [cell_of_row _ _ (m + 0) _ _ _ hh]
    simp
    omega
   ·simp [World.frozen?, hh]
 have hrun6 : ∀ W, (Instr.sliceAt 133 (.slice (some ⟨g, 0, none⟩) m cap) (some (.int .i64 (m : Int))) (some (.int .i64 (n : Int))) none).run Tryz.prog W = .ok (.slice (some ⟨g, m, none⟩) 1 (cap - m)) W := fun W => by
  rw [zl_lh (some ⟨g, 0, none⟩) m cap m n (by omega) (by omega) W, subZ, if_neg (by omega)]
  simp [Addr.add]
  have := HM.out.2
  omega
 have hclr := Lib.run_clear_slice (P := Tryz.prog) w1 133 3 0 (.int .i64 0) Tryz.underlying133 (fun w => by simp [zeroValue, typeInfo, hi, hz0]) rfl rfl g m 1 (cap - m) (by omega) (fun j hj => (c1 j hj).1) (fun j hj => (c1 j hj).2)
 have W2 : Hid ((w1.setCells g m (List.replicate 1 (.int .i64 0))).ownsRow base 3 1 (.slice (some ⟨g, 0, none⟩) m cap) m ((zs.eraseIdx k).map (Value.int .i64)) ∧ Kept (fun b => b = g) w (w1.setCells g m (List.replicate 1 (.int .i64 0)))) := by
  refine ⟨⟨W1.out.1.1, ?_⟩, W1.out.2.trans ((Kept.refl _ _).setCells (S := fun b => b = g) rfl _ _)⟩
  rcases W1.out.1.2 with ⟨h1, _⟩ | ⟨g', cap', cur, e, hb, hh, hc, hmx, hs, ht⟩
  ·cases h1
  ·cases e
   have hlt : m < cur.toList.length := by rw [Array.length_toList]; omega
   have hB : Blk w1 g 3 (cur.toList.take m ++ ([cur.toList[m]] ++ cur.toList.drop (m + 1))) := by
    unfold Blk
    rw [hh]
    have : cur.toList.take m ++ ([cur.toList[m]] ++ cur.toList.drop (m + 1)) = cur.toList := by rw [List.singleton_append, ← List.drop_eq_getElem_cons hlt, List.take_append_drop]
    rw [this]
   have hS := Blk.setCells [Value.int .i64 0] [cur.toList[m]] rfl hB
   rw [show (cur.toList.take m).length = m by rw [List.length_take]; omega] at hS
   refine .inr ⟨g, cap, _, rfl, hb, hS, hc, hmx, ?_, ?_⟩
   ·simp only [List.size_toArray, List.length_append, List.length_take, List.length_drop, List.length_singleton]
    rw [Array.length_toList] at hlt ⊢
    omega
   ·rw [List.take_append_of_le_length (by rw [List.length_take]; omega), ← ht, List.take_take]
    congr 1
    omega
 go_wp2_with (at_builtin; refine wpList_clear_run rfl _ 133 0 rfl rfl _ rfl _ _ hclr ?_)
 go_ret
 exact ⟨by rw [HM.out.1]; rfl, by rw [HM.out.1]; exact W2.out.1, W2.out.2⟩
theorem own_neP {w : World} {base n : Nat} {v : Value} {xs : List Value} (h : w.ownsRow base 3 1 v n xs) {p : Nat} {vs : List Value} (hb : Blk w p 146 vs) : ¬ v.ownBlock = some p := by
 rcases h.2 with ⟨rfl, _⟩ | ⟨g, cap, cur, rfl, hg, hh, r⟩
 ·intro e; cases e
 ·intro e
  simp [Value.ownBlock] at e
  subst e
  unfold Blk at hb
  rw [hb] at hh
  simp at hh
theorem own_keptP {S : Nat → Prop} {w w' : World} {base : Nat} {e : TypeId} {size : Nat} {v : Value} {n : Nat} {xs : List Value} (h : w.ownsRow base e size v n xs) (hk : Kept S w w') (hS : ∀ k, v.ownBlock = some k → ¬ S k) : w'.ownsRow base e size v n xs := by
 refine ⟨h.1, ?_⟩
 rcases h.2 with h0 | ⟨g, cap, cur, rfl, hg, hh, r⟩
 ·exact .inl h0
 ·exact .inr ⟨g, cap, cur, rfl, hg, by rw [hk.block g (lt_of_block hh) (hS g rfl)]; exact hh, r⟩
theorem one_newI (w : World) (x : Value) (t : TypeId) : ∀ j u, [x][j]? = some u → (w.alloc (.cells #[x] t)).cell? ((⟨w.heap.size, 0, none⟩ : Addr).add j) = some u := by
 intro j u hj
 have h : (w.alloc (.cells #[x] t)).heap[w.heap.size]? = some (.cells #[x] t (0, 0)) := heap_alloc_new w _
 rw [Addr.add_mid, Nat.zero_add, cell_of_row _ _ j _ t (0, 0) h]
 simpa using hj
def Used (base p : Nat) (v : PgV) (zs : List Int) (w w' : World) : Prop := ∃ o', PgAt w' p { v with order := o' } ∧ w'.ownsRow base 3 1 o' zs.length (zs.map (Value.int .i64)) ∧ Kept (fun b => b = p ∨ v.order.ownBlock = some b) w w' ∧ (∀ g, o'.ownBlock = some g → v.order.ownBlock = some g ∨ w.heap.size ≤ g)
theorem Used.of {base p : Nat} {v : PgV} {zs : List Int} {x : Int} {w w1 : World} {o o' : Value} {n : Nat} (ho : o = v.order) (hn : zs.length = n) (P : PgAt w p v) (oW : w.ownsRow base 3 1 o n (zs.map (Value.int .i64))) (t : TypeId)
  (h1 : w1.ownsRow base 3 1 o' (n + 1) (zs.map (Value.int .i64) ++ [.int .i64 x])) (hg : (w.alloc (.cells #[.int .i64 x] t)).grownBy w1 o.ownBlock) (hat : o'.ownBlock = o.ownBlock ∨ o'.ownBlock = some (w.heap.size + 1)) :
  PgAt w1 p v ∧ Used base p v (zs ++ [x]) w (w1.setCell ⟨p, 38, none⟩ o') := by
 have hsz : (w.alloc (.cells #[.int .i64 x] t)).heap.size = w.heap.size + 1 := by simp
 have hSg : ∀ b, b < w.heap.size → ¬ o.ownBlock = some b → w1.heap[b]? = w.heap[b]? := fun b hb' hs => (hg.block b (by omega) (fun e => hs e.symm)).trans (Below.heap_alloc w _ b hb')
 have K1 : Kept (fun b => b = p ∨ v.order.ownBlock = some b) w w1 := ⟨hg.os, hg.tape, hg.output, Nat.le_trans (by omega) hg.size, fun b hb' hs => hSg b hb' (fun e => hs (.inr (by rw [← ho]; exact e)))⟩
 have hpn : ¬ o.ownBlock = some p := own_neP oW P.blk
 have P1 : PgAt w1 p v := by
  have hb1 : w1.heap[p]? = w.heap[p]? := hSg p P.blk.lt hpn
  exact ⟨by have := P.blk; unfold Blk at this ⊢; rw [hb1]; exact this, P.klen, P.kb⟩
 refine ⟨P1, ?_⟩
 have K := (Kept.refl (fun b => b = p) w1).setCell (p := ⟨p, 38, none⟩) rfl o'
 refine ⟨o', P1.put 5 o' rfl rfl rfl, ?_, K1.setCell (.inl rfl) _, fun g hg2 => ?_⟩
 ·have h2 : w1.ownsRow base 3 1 o' (zs ++ [x]).length ((zs ++ [x]).map (Value.int .i64)) := by rw [List.length_append, hn, List.map_append]; exact h1
  exact own_keptP h2 K (fun k hk e => by subst e; exact own_neP h2 P1.blk hk)
 ·rcases hat with e | e
  ·rw [e, ho] at hg2; exact .inl hg2
  ·rw [e] at hg2; simp at hg2; exact .inr (by omega)
theorem use_new (base p : Nat) (v : PgV) (zs : List Int) (x : Int) (w : World) (h : PgAt w p v) (ho : w.ownsRow base 3 1 v.order zs.length (zs.map (Value.int .i64))) (hn : zs.length ≤ 1048575) (hb : base ≤ w.heap.size) (hx : idxI zs x = -1) :
  Calls Tryz.prog 101 #[.pointer (some ⟨p, 0, none⟩), .int .i64 x] w fun e w' => e = .returned (.tuple #[]) ∧ Used base p v (zs ++ [x]) w w' := by
 obtain ⟨i0, hi, hz0, hz1, hz2⟩ := info_parts info_int
 obtain ⟨ao, c, eo, so⟩ := own_z ho
 obtain ⟨n, hnn⟩ : ∃ n, zs.length = n := ⟨_, rfl⟩
 have HN : Hid (zs.length = n ∧ idxI zs x = -1) := ⟨hnn, hx⟩
 have HO : Hid (w.ownsRow base 3 1 v.order n (zs.map (Value.int .i64)) ∧ SeenZ w ao n zs ∧ v.order = .slice ao n c) := ⟨by rw [← hnn]; exact ho, by rw [← hnn]; exact so, by rw [← hnn]; exact eo⟩
 have cO : w.cell? ⟨p, 38, none⟩ = some (.slice ao n c) := h.cell 5 _ (by rw [← HO.out.2.2]; rfl)
 have HP : Hid (PgAt w p v) := h
 rw [hnn] at hn
 clear h ho eo so hx hnn
 have oW := HO.out.1
 rw [HO.out.2.2] at oW
 go_enter Tryz.func101, Tryz.ntmps101
 go_wp2_with (first | (go_at_call 111; refine (sidx_any ao n c zs x w HO.out.2.1 (by omega)).mono ?_; rintro e _ ⟨rfl, rfl⟩; rw [HN.out.2]) | (at_builtin; refine wpList_append_own_at _ rfl _ _ 133 rfl base 3 i0 (.int .i64 0) 1 8 Tryz.underlying133 hi hz0 hz1 hz2 rfl (by decide) _ _ _ rfl (oW.alloc _) ⟨w.heap.size, 0, none⟩ 1 1 [.int .i64 x] rfl rfl (one_newI _ _ _) (by intro u hu; simp at hu; subst hu; rfl) (by unfold maxLen; omega) (by omega) (by simp; omega) ?_))
 intro o' w1 h1 hg _ hat
 have U := Used.of HO.out.2.2.symm HN.out.1 HP.out oW 3 h1 hg hat
 obtain ⟨oa, on, oc, rfl⟩ : ∃ a n c, o' = .slice a n c := by rcases h1.2 with ⟨h, _⟩ | ⟨g, cap, cur, h, _⟩ <;> exact ⟨_, _, _, h⟩
 have cO1 : w1.cell? ⟨p, 38, none⟩ = some (.slice ao n c) := U.1.cell 5 _ (by rw [← HO.out.2.2]; rfl)
 have fO1 := U.1.blk.frozen 38
 have W1 : Hid (Used base p v (zs ++ [x]) w (w1.setCell ⟨p, 38, none⟩ (.slice oa on oc))) := U.2
 clear h1 hg U hat
 go_wp2
 go_end0
 exact ⟨rfl, W1.out⟩
theorem Used.after {base p : Nat} {v : PgV} {o1 : Value} {zs : List Int} {w w1 w2 : World} (h : Used base p { v with order := o1 } zs w1 w2) (hk : Kept (fun b => b = p ∨ v.order.ownBlock = some b) w w1) (ho : o1.ownBlock = v.order.ownBlock) : Used base p v zs w w2 := by
 obtain ⟨o', h1, h2, h3, h4⟩ := h
 refine ⟨o', h1, h2, hk.trans (h3.mono (fun b hb => by simpa [ho] using hb)), fun g hg => ?_⟩
 rcases h4 g hg with e | e
 ·exact .inl (by rw [← ho]; exact e)
 ·exact .inr (Nat.le_trans hk.size e)
theorem use_old (base p : Nat) (v : PgV) (zs : List Int) (x : Int) (k : Nat) (w : World) (h : PgAt w p v) (ho : w.ownsRow base 3 1 v.order zs.length (zs.map (Value.int .i64))) (hn : zs.length ≤ 1048575) (hb : base ≤ w.heap.size) (hx : idxI zs x = k) (hk : k < zs.length) :
  Calls Tryz.prog 101 #[.pointer (some ⟨p, 0, none⟩), .int .i64 x] w fun e w' => e = .returned (.tuple #[]) ∧ Used base p v (zs.eraseIdx k ++ [x]) w w' := by
 obtain ⟨i0, hi, hz0, hz1, hz2⟩ := info_parts info_int
 have so := own_z ho
 obtain ⟨g, c, eo⟩ : ∃ g c, v.order = .slice (some ⟨g, 0, none⟩) zs.length c := by
  rcases ho.2 with ⟨h1, h2⟩ | ⟨g, cap, cur, h1, _⟩
  ·omega
  ·exact ⟨g, cap, h1⟩
 obtain ⟨ao, c', eo', so⟩ := so
 rw [eo] at eo'
 cases eo'
 have D := sdel_any base g c k zs w (by rw [← eo]; exact ho) hk (by omega)
 obtain ⟨n, hnn⟩ : ∃ n, zs.length = n := ⟨_, rfl⟩
 rw [hnn] at D eo ho
 have HD : Hid (Calls Tryz.prog 112 #[.slice (some ⟨g, 0, none⟩) n c, .int .i64 k, .int .i64 ((k : Int) + 1)] w fun e w' => e = .returned (.slice (some ⟨g, 0, none⟩) (n - 1) c) ∧ w'.ownsRow base 3 1 (.slice (some ⟨g, 0, none⟩) (n - 1) c) (n - 1) ((zs.eraseIdx k).map (Value.int .i64)) ∧ Kept (fun b => b = g) w w') := D
 have HN : Hid (zs.length = n ∧ idxI zs x = k ∧ k < n) := ⟨hnn, hx, by omega⟩
 have HO : Hid (w.ownsRow base 3 1 v.order n (zs.map (Value.int .i64)) ∧ SeenZ w (some ⟨g, 0, none⟩) n zs ∧ v.order = .slice (some ⟨g, 0, none⟩) n c) := ⟨ho, by rw [← hnn]; exact so, eo⟩
 have cO : w.cell? ⟨p, 38, none⟩ = some (.slice (some ⟨g, 0, none⟩) n c) := h.cell 5 _ (by rw [← HO.out.2.2]; rfl)
 have HP : Hid (PgAt w p v) := h
 have hgp : Hid (g ≠ p) := fun e => own_neP (show w.ownsRow base 3 1 (.slice (some ⟨g, 0, none⟩) n c) n (zs.map (Value.int .i64)) by rw [← eo]; exact ho) h.blk (by rw [e]; rfl)
 have i1 : (0 : Int) ≤ (k : Int) := by omega
 rw [hnn] at hn
 have i2 : (k : Int) + 1 ≤ 9223372036854775807 := by omega
 clear h ho eo so hx hnn D
 go_enter Tryz.func101, Tryz.ntmps101
 go_wp2_with (first | (go_at_call 111; refine (sidx_any _ n c zs x w HO.out.2.1 (by omega)).mono ?_; rintro e _ ⟨rfl, rfl⟩; rw [HN.out.2.1]) | (go_at_call 112; refine HD.out.mono ?_))
 rintro e w1 ⟨rfl, o1, k1⟩
 have P1 : Hid (PgAt w1 p v) := HP.out.kept k1 (fun e => hgp.out e.symm)
 have cO1 : w1.cell? ⟨p, 38, none⟩ = some (.slice (some ⟨g, 0, none⟩) n c) := P1.out.cell 5 _ (by rw [← HO.out.2.2]; rfl)
 have fO1 := P1.out.blk.frozen 38
 have K2 : Hid (Kept (fun b => b = p) w1 (w1.setCell ⟨p, 38, none⟩ (.slice (some ⟨g, 0, none⟩) (n - 1) c))) := (Kept.refl (fun b => b = p) w1).setCell (p := ⟨p, 38, none⟩) rfl _
 have P2 : Hid (PgAt (w1.setCell ⟨p, 38, none⟩ (.slice (some ⟨g, 0, none⟩) (n - 1) c)) p { v with order := .slice (some ⟨g, 0, none⟩) (n - 1) c }) := P1.out.put 5 _ rfl rfl rfl
 have O2 : (w1.setCell ⟨p, 38, none⟩ (.slice (some ⟨g, 0, none⟩) (n - 1) c)).ownsRow base 3 1 (.slice (some ⟨g, 0, none⟩) (n - 1) c) (n - 1) ((zs.eraseIdx k).map (Value.int .i64)) := own_keptP o1 K2.out (fun j hj e => by subst e; exact own_neP o1 P1.out.blk hj)
 have KW : Hid (Kept (fun b => b = p ∨ v.order.ownBlock = some b) w (w1.setCell ⟨p, 38, none⟩ (.slice (some ⟨g, 0, none⟩) (n - 1) c))) := (k1.mono (fun b e => .inr (by rw [HO.out.2.2, e]; rfl))).trans (K2.out.mono (fun b e => .inl e))
 have hb1 : base ≤ w1.heap.size := Nat.le_trans hb k1.size
 have ON := one_newI (w1.setCell ⟨p, 38, none⟩ (.slice (some ⟨g, 0, none⟩) (n - 1) c)) (.int .i64 x) 3
 have hsz : (w1.setCell ⟨p, 38, none⟩ (.slice (some ⟨g, 0, none⟩) (n - 1) c)).heap.size = w1.heap.size := by simp [World.setCell]
 rw [hsz] at ON
 have HON : Hid _ := ON
 have HSZ : Hid ((w1.setCell ⟨p, 38, none⟩ (.slice (some ⟨g, 0, none⟩) (n - 1) c)).heap.size = w1.heap.size) := hsz
 clear hsz ON
 clear o1 k1
 go_wp2_with (at_builtin; (refine wpList_append_own_at _ rfl _ _ 133 rfl base 3 i0 (.int .i64 0) 1 8 Tryz.underlying133 hi hz0 hz1 hz2 rfl (by decide) _ _ _ rfl (O2.alloc _) ⟨w1.heap.size, 0, none⟩ 1 1 [.int .i64 x] rfl rfl HON.out (by intro u hu; simp at hu; subst hu; rfl) (by unfold maxLen; omega) (by omega) (by simp; omega) ?_))
 intro o' w3 h1 hg _ hat
 have hl : (zs.eraseIdx k).length = n - 1 := by rw [List.length_eraseIdx_of_lt (by rw [HN.out.1]; exact HN.out.2.2), HN.out.1]
 have U := Used.of (x := x) rfl hl P2.out O2 3 h1 hg (by rw [HSZ.out]; exact hat)
 obtain ⟨oa, on, oc, rfl⟩ : ∃ a n c, o' = .slice a n c := by rcases h1.2 with ⟨h, _⟩ | ⟨g, cap, cur, h, _⟩ <;> exact ⟨_, _, _, h⟩
 have cO3 : w3.cell? ⟨p, 38, none⟩ = some (.slice (some ⟨g, 0, none⟩) (n - 1) c) := U.1.cell 5 _ rfl
 have fO3 := U.1.blk.frozen 38
 have W1 : Hid (Used base p v (zs.eraseIdx k ++ [x]) w (w3.setCell ⟨p, 38, none⟩ (.slice oa on oc))) := U.2.after KW.out (by rw [HO.out.2.2]; rfl)
 clear h1 hg U hat hl
 go_wp2
 go_end0
 exact ⟨rfl, W1.out⟩
def usedL (zs : List Int) (x : Int) : List Int := zs.erase x ++ [x]
theorem idxI_cases (zs : List Int) (x : Int) : (idxI zs x = -1 ∧ zs.erase x = zs) ∨ ∃ k : Nat, idxI zs x = k ∧ k < zs.length ∧ zs.eraseIdx k = zs.erase x := by
 induction zs with
 | nil => exact .inl ⟨rfl, rfl⟩
 | cons z zs ih =>
  by_cases h : z = x
  ·subst h
   exact .inr ⟨0, by simp [idxI], by simp, by simp⟩
  ·rcases ih with ⟨h1, h2⟩ | ⟨k, h1, h2, h3⟩
   ·refine .inl ⟨by simp [idxI, h, h1], ?_⟩
    rw [List.erase_cons_tail (by simpa using h), h2]
   ·refine .inr ⟨k + 1, ?_, by simpa using h2, ?_⟩
    ·simp only [idxI, if_neg h, h1]
     rw [if_neg (by omega)]
     omega
    ·rw [List.erase_cons_tail (by simpa using h), List.eraseIdx_cons_succ, h3]
theorem use_any (base p : Nat) (v : PgV) (zs : List Int) (x : Int) (w : World) (h : PgAt w p v) (ho : w.ownsRow base 3 1 v.order zs.length (zs.map (Value.int .i64))) (hn : zs.length ≤ 1048575) (hb : base ≤ w.heap.size) :
  Calls Tryz.prog 101 #[.pointer (some ⟨p, 0, none⟩), .int .i64 x] w fun e w' => e = .returned (.tuple #[]) ∧ Used base p v (usedL zs x) w w' := by
 rcases idxI_cases zs x with ⟨h1, h2⟩ | ⟨k, h1, h2, h3⟩
 ·have := use_new base p v zs x w h ho hn hb h1
  rw [usedL, h2]; exact this
 ·have := use_old base p v zs x k w h ho hn hb h1 h2
  rw [usedL, ← h3]; exact this
theorem sizeByte : (Tryz.prog.info? 5).map (·.size) = some 1 := by kernel_rfl
theorem add_mid (b o j : Nat) : (⟨b, o, none⟩ : Addr).add j = ⟨b, o + j, none⟩ := Addr.add_mid b o j
def subA (ao : Option Addr) (lo c : Nat) : Option Addr := if c = lo then ao else ao.map (·.add lo)
theorem Seen.sub {w : World} {ao : Option Addr} {n : Nat} {zs : List Int} (h : Seen w ao n zs) (lo hi c : Nat) (h1 : lo ≤ hi) (h2 : hi ≤ n) (h3 : n ≤ c) : Seen w (subA ao lo c) (hi - lo) ((zs.drop lo).take (hi - lo)) := by
 have hl := h.len
 refine ⟨by simp; omega, by have := h.top; omega, bytes_take (bytes_drop h.bytes lo) _, fun h0 => ?_⟩
 obtain ⟨b, o, rfl, hb, hc⟩ := h.cells (by omega)
 refine ⟨b, o + lo, ?_, hb, fun i hi' => ?_⟩
 ·unfold subA
  rw [if_neg (by omega)]
  exact congrArg some (add_mid b o lo)
 ·rw [Nat.add_assoc, hc (lo + i) (by omega)]
  have e : lo + i < zs.length := by omega
  simp [List.getD, List.getElem?_take, List.getElem?_drop, hi']
theorem sl_h (ao : Option Addr) (n c h : Nat) (hh : h ≤ c) (w : World) : (Instr.sliceAt 37 (.slice ao n c) none (some (.int .i64 h)) none).run Tryz.prog w = .ok (.slice (subA ao 0 c) h c) w := by
 rw [run_sliceAt_slice w 37 _ _ _ _ Tryz.underlying37, run_slice_h w 37 ao n c Tryz.underlying37 .i64 h (by omega) (by omega)]
 rw [show Tryz.prog.elem 37 = 5 by kernel_rfl]
 have hs : (sizeOf 5).run Tryz.prog w = .ok 1 w := by
  have h := sizeByte
  cases hq : Tryz.prog.info? 5 with
  | none => simp [hq] at h
  | some i => simp [hq] at h; simp [sizeOf, typeInfo, hq, h]
 simp [hs, Result.andThen, sliced, subA]
theorem sl_l (ao : Option Addr) (n c l : Nat) (hl : l ≤ n) (w : World) : (Instr.sliceAt 37 (.slice ao n c) (some (.int .i64 l)) none none).run Tryz.prog w = .ok (.slice (subA ao l c) (n - l) (c - l)) w := by
 rw [run_sliceAt_slice w 37 _ _ _ _ Tryz.underlying37, run_slice_l w 37 ao n c Tryz.underlying37 .i64 l (by omega) (by omega)]
 rw [show Tryz.prog.elem 37 = 5 by kernel_rfl]
 have hs : (sizeOf 5).run Tryz.prog w = .ok 1 w := by
  have h := sizeByte
  cases hq : Tryz.prog.info? 5 with
  | none => simp [hq] at h
  | some i => simp [hq] at h; simp [sizeOf, typeInfo, hq, h]
 simp [hs, Result.andThen, sliced, subA]
theorem sl_lh (ao : Option Addr) (n c l h : Nat) (hl : l ≤ h) (hh : h ≤ c) (w : World) : (Instr.sliceAt 37 (.slice ao n c) (some (.int .i64 l)) (some (.int .i64 h)) none).run Tryz.prog w = .ok (.slice (subA ao l c) (h - l) (c - l)) w := by
 rw [run_sliceAt_slice w 37 _ _ _ _ Tryz.underlying37, run_slice_lh w 37 ao n c Tryz.underlying37 .i64 .i64 l h (by omega) (by omega) (by omega)]
 rw [show Tryz.prog.elem 37 = 5 by kernel_rfl]
 have hs : (sizeOf 5).run Tryz.prog w = .ok 1 w := by
  have h := sizeByte
  cases hq : Tryz.prog.info? 5 with
  | none => simp [hq] at h
  | some i => simp [hq] at h; simp [sizeOf, typeInfo, hq, h]
 simp [hs, Result.andThen, sliced, subA]
theorem run_copy_seen (w : World) (ty : TypeId) (g off dLen dCap : Nat) (dp so : Option Addr) (n c : Nat) (src : List Int) (hx : Seen w so n src) (t : TypeId) (xs ys zs : List Value) (hb : Blk w g t (xs ++ (ys ++ zs))) (hoff : xs.length = off) (k : Nat) (hk : Nat.min n dLen = k) (hy : ys.length = k)
  (hdp : 0 < k → dp = some ⟨g, off, none⟩) : ∃ w', (Builtin.copy_ #[37, 37] ty #[.slice dp dLen dCap, .slice so n c]).run Tryz.prog w = .ok (goInt k) w' ∧ Blk w' g t (xs ++ (u8s (src.take k) ++ zs)) ∧ w'.heap.size = w.heap.size ∧ Kept (fun b => b = g) w w' := by
 have hkn : k ≤ n := by rw [← hk]; exact Nat.min_le_left _ _
 have hl : (u8s (src.take k)).length = k := by rw [u8s_length, List.length_take, hx.len]; omega
 rcases Nat.eq_zero_or_pos k with h0 | h0
 ·subst h0
  obtain rfl : ys = [] := List.eq_nil_of_length_eq_zero hy
  exact ⟨w, run_copy_none w 37 37 ty 5 dp so dLen dCap n c Tryz.underlying37 sizeByte hk, by simpa [u8s] using hb, rfl, Kept.refl _ _⟩
 ·obtain rfl := hdp h0
  obtain ⟨b, o, rfl, hlt, hcs⟩ := hx.cells (by omega)
  have hsrc : ∀ j v, (u8s (src.take k))[j]? = some v → w.cell? ((⟨b, o, none⟩ : Addr).add j) = some v := by
   intro j v hv
   have hj : j < k := by have := (List.getElem?_eq_some_iff.1 hv).1; omega
   have h2 : j < src.length := by rw [hx.len]; omega
   rw [add_mid, hcs j (by omega), ← hv]
   simp [u8s, List.getElem?_take, List.getD, h2, hj]
  have hrun := run_copy_row (P := Tryz.prog) w 37 37 ty 5 g off dLen dCap ⟨b, o, none⟩ n c (xs ++ (ys ++ zs)).toArray t (u8s (src.take k)) Tryz.underlying37 sizeByte hb (by rw [hl, hk]) hsrc (by simp; omega) (u8s_one _)
  have e : ((xs ++ (ys ++ zs)).toArray.toList.take off ++ u8s (src.take k) ++ (xs ++ (ys ++ zs)).toArray.toList.drop (off + (u8s (src.take k)).length)) = xs ++ (u8s (src.take k) ++ zs) := by
   subst hoff
   simp [hl, hy, List.drop_append, List.take_append]
  rw [e] at hrun
  refine ⟨_, by rw [hrun, hl], setRow_heap w g _ _ t _ hb, by simp [World.setRow], ⟨rfl, rfl, rfl, by simp [World.setRow], fun k _ hk => setRow_other w g k _ hk⟩⟩
theorem wpList_copy_seen {ops : Array Oper} {rest : List Oper} {o : Oper} {a : Act} {Q : Exit → Act → World → Prop} {w : World} (hgd : o.guard = none) (d s : Operand) (ho : o.op = .call { callee := .builtin .copy, args := #[d, s], argTypes := #[37, 37] })
  (g off dLen dCap : Nat) (dp so : Option Addr) (n c : Nat) (hd : a.eval d = .slice dp dLen dCap) (hs : a.eval s = .slice so n c) (src : List Int) (hx : Seen w so n src) (t : TypeId) (xs ys zs : List Value) (hb : Blk w g t (xs ++ (ys ++ zs))) (hoff : xs.length = off) (k : Nat) (hk : Nat.min n dLen = k) (hy : ys.length = k) (hdp : 0 < k → dp = some ⟨g, off, none⟩)
  (h : ∀ w', Blk w' g t (xs ++ (u8s (src.take k) ++ zs)) → w'.heap.size = w.heap.size → Kept (fun b => b = g) w w' → wpList Tryz.prog ops Q rest (a.put o.dst (goInt k)) w') : wpList Tryz.prog ops Q (o :: rest) a w := by
 refine wpList_plain hgd fun K hK => ?_
 obtain ⟨w', hrun, h1, h2, h3⟩ := run_copy_seen w o.type g off dLen dCap dp so n c src hx t xs ys zs hb hoff k hk hy hdp
 unfold Oper.wp
 simp [execOp, ho, resolve, invoke, builtin, hd, hs, hrun, Result.andThen]
 exact hK _ _ (h w' h1 h2 h3)
theorem step_copy_seen {ops : Array Oper} {o : Oper} {a : Act} {w : World} {K : Act → World → Prop} {Q : Exit → Act → World → Prop} {E : Prop} (hgd : o.guard = none) (d s : Operand) (ho : o.op = .call { callee := .builtin .copy, args := #[d, s], argTypes := #[37, 37] })
  (g off dLen dCap : Nat) (dp so : Option Addr) (n c : Nat) (hd : a.eval d = .slice dp dLen dCap) (hs : a.eval s = .slice so n c) (src : List Int) (hx : Seen w so n src) (t : TypeId) (xs ys zs : List Value) (hb : Blk w g t (xs ++ (ys ++ zs))) (hoff : xs.length = off) (k : Nat) (hk : Nat.min n dLen = k) (hy : ys.length = k) (hdp : 0 < k → dp = some ⟨g, off, none⟩)
  (dst : Option Tmp) (hdst : o.dst = dst) (h : ∀ w', Blk w' g t (xs ++ (u8s (src.take k) ++ zs)) → w'.heap.size = w.heap.size → Kept (fun b => b = g) w w' → K (a.put dst (goInt k)) w') :
  if Region.wanted o (yielded ops a.tmps) = true then Oper.wp Tryz.prog o a w K Q else E := by
 subst hdst
 have hw : Region.wanted o (yielded ops a.tmps) = true := by simp [Region.wanted, hgd]
 rw [if_pos hw]
 obtain ⟨w', hrun, h1, h2, h3⟩ := run_copy_seen w o.type g off dLen dCap dp so n c src hx t xs ys zs hb hoff k hk hy hdp
 unfold Oper.wp
 simp [execOp, ho, resolve, invoke, builtin, hd, hs, hrun, Result.andThen]
 exact h w' h1 h2 h3
theorem seen_blk {w : World} {g : Nat} {t : TypeId} {zs : List Int} (h : Blk w g t (u8s zs)) (hb : Bytes zs) (ht : zs.length ≤ 140737488355328) : Seen w (some ⟨g, 0, none⟩) zs.length zs :=
 ⟨rfl, ht, hb, fun _ => ⟨g, 0, rfl, h.lt, fun i hi => by rw [Nat.zero_add]; exact u8s_cell h i hi⟩⟩
inductive Exp where
 | val (v : Value)
 | blk (t : TypeId) (vs : List Value)
 | any (p : Value → World → Prop) (hp : ∀ v w w', Below w.heap.size w w' → p v w → p v w')
def Exp.ok (base : Nat) : Exp → Value → World → Prop
 | .val u, v, _ => v = u
 | .blk t vs, v, w => ∃ g, v = .pointer (some ⟨g, 0, none⟩) ∧ base ≤ g ∧ Blk w g t vs
 | .any p _, v, w => p v w
theorem sqV {base : Nat} {u v : Value} {w : World} (h : Exp.ok base (.val u) v w) : v = u := h
theorem Exp.ok_later {base : Nat} : ∀ (E : Exp) {v : Value} {w w' : World}, Below w.heap.size w w' → E.ok base v w → E.ok base v w'
 | .val _, _, _, _, _, h => h
 | .blk _ _, _, _, _, hb, ⟨g, h1, h2, h3⟩ => ⟨g, h1, h2, h3.later hb h3.lt⟩
 | .any _ hp, _, _, _, hb, h => hp _ _ _ hb h
def Does (base : Nat) (E : Exp) (ρ : Operand → Value) (o : Oper) (w : World) : Prop :=
 match (execOp ρ o).run Tryz.prog w with
 | .ok (.value v) w' => E.ok base v w' ∧ Below w.heap.size w w'
 | .ok (.enter f args) w' => Calls Tryz.prog f args w' fun e w'' => ∃ v, e = .returned v ∧ E.ok base v w'' ∧ Below w.heap.size w w''
 | _ => False
theorem Does.wp {base : Nat} {E : Exp} {a : Act} {o : Oper} {w : World} (h : Does base E a.eval o w) {K : Act → World → Prop} {Q : Exit → Act → World → Prop} (hK : ∀ v w', E.ok base v w' → Below w.heap.size w w' → K (a.put o.dst v) w') : o.wp Tryz.prog a w K Q := by
 unfold Does at h
 unfold Oper.wp
 generalize (execOp a.eval o).run Tryz.prog w = r at h ⊢
 match r, h with
 | .ok (.value v) w', h => exact hK _ _ h.1 h.2
 | .ok (.enter f args) w', h =>
  rw [Oper.upon_enter]
  refine h.mono ?_
  rintro e w'' ⟨v, rfl, h1, h2⟩
  exact hK _ _ h1 h2
theorem Does.value {base : Nat} {E : Exp} {ρ : Operand → Value} {o : Oper} {w : World} (v : Value) (h : (execOp ρ o).run Tryz.prog w = .ok (.value v) w) (hE : E.ok base v w) : Does base E ρ o w := by
 unfold Does; rw [h]; exact ⟨hE, Below.refl _ _⟩
theorem Does.call {base : Nat} {E : Exp} {ρ : Operand → Value} {o : Oper} {w : World} (f : FuncId) (args : Array Value) (h : (execOp ρ o).run Tryz.prog w = .ok (.enter f args) w) (hC : Calls Tryz.prog f args w fun e w'' => ∃ v, e = .returned v ∧ E.ok base v w'' ∧ Below w.heap.size w w'') : Does base E ρ o w := by
 unfold Does; rw [h]; exact hC
theorem Does.alloc {base : Nat} {ρ : Operand → Value} {o : Oper} {w : World} (t : TypeId) (ho : o.op = .alloc t) (n : Nat) (vs : List Value) (hz : (Tryz.prog.info? t).map (fun i => (i.zero, i.size)) = some (some (.agg vs.toArray), n)) (hb : base ≤ w.heap.size) : Does base (.blk t vs) ρ o w := by
 unfold Does execOp
 simp only [ho, Sem.run_bind, Instr.alloc, (zero_of_info hz).1, newVar, newRow, run_newObj_alloc, Sem.run_pure, Result.andThen_ok]
 exact ⟨⟨_, rfl, hb, heap_alloc_new w _⟩, (Below.refl _ _).alloc (Nat.le_refl _) _⟩
theorem Does.box {base : Nat} {ρ : Operand → Value} {o : Oper} {w : World} (t : TypeId) (x : Operand) (ho : o.op = .box t x) (vs : List Value) (hx : ρ x = .agg vs.toArray) (hb : base ≤ w.heap.size) : Does base (.blk t vs) ρ o w := by
 unfold Does execOp
 simp only [ho, hx, Sem.run_bind, Instr.box, Value.cells, newVar, newRow, run_newObj_alloc, Sem.run_pure, Result.andThen_ok]
 exact ⟨⟨_, rfl, hb, heap_alloc_new w _⟩, (Below.refl _ _).alloc (Nat.le_refl _) _⟩
theorem Does.load {base : Nat} {ρ : Operand → Value} {o : Oper} {w : World} (t : TypeId) (x : Operand) (ho : o.op = .load t x) (b off : Nat) (hx : ρ x = .pointer (some ⟨b, off, none⟩)) (cs : List Value) (d : TypeDesc) (hc : w.rangeAt b off cs) (hu : Tryz.prog.underlying t = some d) (hd : d.isRow = true) (hi : (Tryz.prog.info? t).map (·.size) = some cs.length) :
  Does base (.val (.agg cs.toArray)) ρ o w := by
 refine Does.value _ ?_ rfl
 unfold execOp
 simp only [ho, hx, Instr.loadAt, Instr.sureAddr, Sem.run_bind, Sem.run_pure, Result.andThen_ok, run_loadVar_mid w b off t cs d hc hu hd hi]
theorem Does.build {base : Nat} {ρ : Operand → Value} {o : Oper} {w : World} (t : TypeId) (parts : Array (Nat × Operand)) (ho : o.op = .build t parts) (ps : Array (Nat × Value)) (hp : (parts.map fun (i, x) => (i, ρ x)) = ps) (v : Value) (hrun : (Instr.build t ps).run Tryz.prog w = .ok v w) : Does base (.val v) ρ o w := by
 refine Does.value _ ?_ rfl
 unfold execOp
 simp only [ho, hp, Sem.run_bind, hrun, Sem.run_pure, Result.andThen_ok]
def Deps (base : Nat) (ops : Array Oper) (E : List Exp) (j : Nat) (a : Act) (w : World) : Prop :=
 ∀ k t, ((ops[k]?).bind (·.dst)) = some t → ((ops[j]?).map (fun o => o.after.any fun e => Region.binds .any e && e.on == k)).getD false = true → k + 1 < ops.size → (E.getD k (.val undef)).ok base (a.tmps.getD t undef) w
def Steps' (base : Nat) (ops : Array Oper) (E : List Exp) (a0 : Act) (w0 : World) : Nat → List Oper → Prop
 | _, [] => True
 | _, [_] => True
 | j, o :: rest => (∀ a w, Below w0.heap.size w0 w → (∀ t, ((List.range (ops.size - 1)).all fun k => ((ops[k]?).bind (·.dst)) != some t) = true → a.tmps.getD t undef = a0.tmps.getD t undef) → Deps base ops E j a w → Does base (E.getD j (.val undef)) a.eval o w) ∧ Steps' base ops E a0 w0 (j + 1) rest
theorem Steps'.one (base : Nat) (ops : Array Oper) (E : List Exp) (a0 : Act) (w0 : World) (j : Nat) (o : Oper) : Steps' base ops E a0 w0 j [o] := trivial
theorem Steps'.cons {base : Nat} {ops : Array Oper} {E : List Exp} {a0 : Act} {w0 : World} {j : Nat} {o o' : Oper} {rest : List Oper}
  (h : ∀ a w, Below w0.heap.size w0 w → (∀ t, ((List.range (ops.size - 1)).all fun k => ((ops[k]?).bind (·.dst)) != some t) = true → a.tmps.getD t undef = a0.tmps.getD t undef) → Deps base ops E j a w → Does base (E.getD j (.val undef)) a.eval o w)
  (hr : Steps' base ops E a0 w0 (j + 1) (o' :: rest)) : Steps' base ops E a0 w0 j (o :: o' :: rest) := ⟨h, hr⟩
theorem Steps'.at {base : Nat} {ops : Array Oper} {E : List Exp} {a0 : Act} {w0 : World} : ∀ {l : List Oper} {j : Nat}, Steps' base ops E a0 w0 j l → ∀ i o, l[i]? = some o → i + 1 < l.length →
  ∀ a w, Below w0.heap.size w0 w → (∀ t, ((List.range (ops.size - 1)).all fun k => ((ops[k]?).bind (·.dst)) != some t) = true → a.tmps.getD t undef = a0.tmps.getD t undef) → Deps base ops E (j + i) a w → Does base (E.getD (j + i) (.val undef)) a.eval o w
 | [], _, _, i, o, hi, _ => by cases hi
 | [_], _, _, i, o, _, hl => by simp at hl
 | x :: y :: rest, j, h, 0, o, hi, _ => by
  simp at hi; subst hi; exact h.1
 | x :: y :: rest, j, h, i + 1, o, hi, hl => by
  have := Steps'.at h.2 i o (by simpa using hi) (by simpa using hl)
  rwa [show j + 1 + i = j + (i + 1) by omega] at this
def Ends (base : Nat) (E : List Exp) (Q : Exit → Act → World → Prop) (w : World) : Nat → List Oper → Act → Prop
 | _, [], _ => False
 | _, [o], a => o.wp Tryz.prog a w (fun a' w' => Q .normal a' w') (NoPanic Q)
 | j, o :: rest, a => ∀ v, (E.getD j (.val undef)).ok base v w → Ends base E Q w (j + 1) rest (a.put o.dst v)
theorem Ends.cons {base : Nat} {E : List Exp} {Q : Exit → Act → World → Prop} {w : World} {j : Nat} {o o' : Oper} {rest : List Oper} {a : Act}
  (h : ∀ v, (E.getD j (.val undef)).ok base v w → Ends base E Q w (j + 1) (o' :: rest) (a.put o.dst v)) : Ends base E Q w j (o :: o' :: rest) a := h
theorem Ends.one {base : Nat} {E : List Exp} {Q : Exit → Act → World → Prop} {w : World} {j : Nat} {o : Oper} {a : Act} (h : o.wp Tryz.prog a w (fun a' w' => Q .normal a' w') (NoPanic Q)) : Ends base E Q w j [o] a := h
theorem Ends.val {base : Nat} {E : List Exp} {Q : Exit → Act → World → Prop} {w : World} {j : Nat} {o o' : Oper} {rest : List Oper} {a : Act} (V : Value) (hE : E.getD j (.val undef) = .val V)
  (h : Ends base E Q w (j + 1) (o' :: rest) (a.put o.dst V)) : Ends base E Q w j (o :: o' :: rest) a := Ends.cons fun v hv => by
 rw [hE] at hv
 have : v = V := hv
 rw [this]; exact h
theorem Ends.blk {base : Nat} {E : List Exp} {Q : Exit → Act → World → Prop} {w : World} {j : Nat} {o o' : Oper} {rest : List Oper} {a : Act} (t : TypeId) (vs : List Value) (hE : E.getD j (.val undef) = .blk t vs)
  (h : ∀ g, base ≤ g → Blk w g t vs → Ends base E Q w (j + 1) (o' :: rest) (a.put o.dst (.pointer (some ⟨g, 0, none⟩)))) : Ends base E Q w j (o :: o' :: rest) a := Ends.cons fun v hv => by
 rw [hE] at hv
 obtain ⟨g, rfl, h1, h2⟩ := hv
 exact h g h1 h2
theorem Ends.any {base : Nat} {E : List Exp} {Q : Exit → Act → World → Prop} {w : World} {j : Nat} {o o' : Oper} {rest : List Oper} {a : Act} (p : Value → World → Prop) (hp : ∀ v w w', Below w.heap.size w w' → p v w → p v w') (hE : E.getD j (.val undef) = .any p hp)
  (h : ∀ v, p v w → Ends base E Q w (j + 1) (o' :: rest) (a.put o.dst v)) : Ends base E Q w j (o :: o' :: rest) a := Ends.cons fun v hv => by
 rw [hE] at hv
 exact h v hv
def fills (b : Act) : List Oper → Act → Act
 | [], a => a
 | [_], a => a
 | o :: rest, a => fills b rest (a.put o.dst ((o.dst.map (b.tmps.getD · undef)).getD undef))
theorem Ends.at {base : Nat} {E : List Exp} {Q : Exit → Act → World → Prop} {w : World} (b : Act) : ∀ {l : List Oper} {j : Nat} {a : Act}, l ≠ [] → Ends base E Q w j l a →
  (∀ i o, l[i]? = some o → i + 1 < l.length → ∃ t, o.dst = some t ∧ (E.getD (j + i) (.val undef)).ok base (b.tmps.getD t undef) w) →
  ∃ o, l.getLast? = some o ∧ o.wp Tryz.prog (fills b l a) w (fun a' w' => Q .normal a' w') (NoPanic Q)
 | [], _, _, h, _, _ => absurd rfl h
 | [o], _, _, _, h, _ => ⟨o, rfl, h⟩
 | x :: y :: rest, j, a, _, h, hv => by
  obtain ⟨t, h1, h2⟩ := hv 0 x rfl (by simp)
  have := Ends.at b (l := y :: rest) (j := j + 1) (by simp) (h _ h2) (fun i o hi hl => by
   have := hv (i + 1) o (by simpa using hi) (by simpa using hl)
   rwa [show j + (i + 1) = j + 1 + i by omega] at this)
  obtain ⟨o, ho, hw⟩ := this
  refine ⟨o, by simpa using ho, ?_⟩
  simpa [fills, h1] using hw
theorem fills_size (b : Act) : ∀ (l : List Oper) (a : Act), (fills b l a).tmps.size = a.tmps.size ∧ (fills b l a).defers = a.defers
 | [], a => ⟨rfl, rfl⟩
 | [_], a => ⟨rfl, rfl⟩
 | o :: y :: rest, a => by
  rw [fills]
  ·have := fills_size b (y :: rest) (a.put o.dst ((o.dst.map (b.tmps.getD · undef)).getD undef))
   rw [this.1, this.2]
   cases o.dst <;> simp [Act.put]
  ·simp
theorem fills_slot (b : Act) (t : Nat) : ∀ (l : List Oper) (a : Act), b.tmps.size = a.tmps.size → (b.tmps.getD t undef = a.tmps.getD t undef ∨ ∃ i o, l[i]? = some o ∧ i + 1 < l.length ∧ o.dst = some t) → (fills b l a).tmps.getD t undef = b.tmps.getD t undef
 | [], a, _, h => by
  rcases h with h | ⟨i, o, h, _⟩
  ·exact h.symm
  ·cases h
 | [_], a, _, h => by
  rcases h with h | ⟨i, o, h, h2, _⟩
  ·exact h.symm
  ·simp at h2
 | x :: y :: rest, a, hs, h => by
  rw [fills]
  ·refine fills_slot b t (y :: rest) _ ?_ ?_
   ·cases x.dst <;> simp [Act.put, hs]
   ·by_cases hx : x.dst = some t
    ·left
     rw [hx]
     simp only [Act.put, Option.map_some, Option.getD_some]
     simp only [Array.getD_eq_getD_getElem?, Array.getElem?_setIfInBounds]
     by_cases hlt : t < a.tmps.size
     ·simp [hlt]
     ·simp [hlt, hs]
    ·rcases h with h | ⟨i, o, h1, h2, h3⟩
     ·left
      rw [h]
      cases hd : x.dst with
      | none => simp [Act.put]
      | some d =>
       have : d ≠ t := fun e => hx (by rw [hd, e])
       simp only [Act.put, Array.getD_eq_getD_getElem?, Array.getElem?_setIfInBounds]
       simp [this]
     ·cases i with
      | zero => simp at h1; subst h1; exact absurd h3 hx
      | succ i => right; exact ⟨i, o, by simpa using h1, by simpa using h2, h3⟩
  ·simp
theorem act_ext {a b : Act} (hs : a.tmps.size = b.tmps.size) (ht : ∀ t, a.tmps.getD t undef = b.tmps.getD t undef) (hd : a.defers = b.defers) : a = b := by
 cases a; cases b
 simp only [Act.mk.injEq] at *
 refine ⟨Array.ext hs fun i h1 h2 => ?_, hd⟩
 have := ht i
 simpa [Array.getD, h1, h2] using this
def plainOps (ops : Array Oper) : Bool :=
 (List.range (ops.size - 1)).all (fun j => ((ops[j]?).map (fun o => o.guard.isNone && o.dst.isSome)).getD false) &&
 (List.range (ops.size - 1)).all (fun j => (List.range (ops.size - 1)).all fun k => j == k || ((ops[j]?).bind (·.dst)) != ((ops[k]?).bind (·.dst))) &&
 ((ops[ops.size - 1]?).map (fun o => o.guard.isNone && (List.range (ops.size - 1)).all (fun k => o.after.any fun e => Region.binds .any e && e.on == k))).getD false &&
 (List.range ops.size).all (fun j => ((ops[j]?).map (fun o => o.after.all fun e => !Region.binds .any e || decide (e.on < j))).getD false)
theorem range_all {n : Nat} {p : Nat → Bool} (h : (List.range n).all p = true) (j : Nat) (hj : j < n) : p j = true := List.all_eq_true.1 h j (List.mem_range.2 hj)
theorem wanted_plain {o : Oper} (h : o.guard.isNone = true) (f : Nat → Option Bool) : Region.wanted o f = true := by
 have : o.guard = none := Option.isNone_iff_eq_none.1 h
 simp [Region.wanted, this]
theorem least_false (f : Nat → Bool) : ∀ (n : Nat), f n = false → ∃ i, i ≤ n ∧ f i = false ∧ ∀ k, k < i → f k = true
 | 0, h => ⟨0, Nat.le_refl _, h, fun k hk => by omega⟩
 | n + 1, h => by
  by_cases h' : ∃ k, k ≤ n ∧ f k = false
  ·obtain ⟨k, hk, hf⟩ := h'
   obtain ⟨i, h1, h2, h3⟩ := least_false f k hf
   exact ⟨i, by omega, h2, h3⟩
  ·refine ⟨n + 1, Nat.le_refl _, h, fun k hk => ?_⟩
   cases hf : f k with
   | true => rfl
   | false => exact absurd ⟨k, by omega, hf⟩ h'
theorem region_inv {id : Nat} {ops : Array Oper} {Q : Exit → Act → World → Prop} {a0 : Act} {w0 : World} (E : List Exp) (hm : Tryz.prog.follows .mixedOrders = true) (hp : plainOps ops = true)
  (hin : (List.range (ops.size - 1)).all (fun j => ((ops[j]?).map (fun o => (o.dst.map (fun t => decide (t < a0.tmps.size))).getD false)).getD false) = true)
  (hs : Steps' w0.heap.size ops E a0 w0 0 ops.toList) (he : ∀ w, Below w0.heap.size w0 w → Ends w0.heap.size E Q w 0 ops.toList a0) : (Code.region id ops true).wp Tryz.prog Q a0 w0 := by
 simp only [plainOps, Bool.and_eq_true] at hp
 obtain ⟨⟨⟨hp1, hp2⟩, hp3⟩, hp4⟩ := hp
 have hne : ops.size - 1 < ops.size := by
  rcases Nat.eq_zero_or_pos ops.size with h | h
  ·rw [Array.getElem?_eq_none (by omega)] at hp3; simp at hp3
  ·omega
 have own : ∀ j o, ops[j]? = some o → j + 1 < ops.size → o.guard.isNone = true ∧ ∃ t, o.dst = some t ∧ t < a0.tmps.size := by
  intro j o ho hj
  have h1 := range_all hp1 j (by omega)
  have h2 := range_all hin j (by omega)
  simp only [ho, Option.map_some, Option.getD_some, Bool.and_eq_true] at h1 h2
  obtain ⟨t, ht⟩ := Option.isSome_iff_exists.1 h1.2
  rw [ht] at h2
  exact ⟨h1.1, t, ht, by simpa using h2⟩
 have apart : ∀ j k o o' t, ops[j]? = some o → ops[k]? = some o' → j + 1 < ops.size → k + 1 < ops.size → o.dst = some t → o'.dst = some t → j = k := by
  intro j k o o' t ho ho' hj hk ht ht'
  have h1 := range_all (range_all hp2 j (by omega)) k (by omega)
  simp only [ho, ho', Option.bind_some, ht, ht', Bool.or_eq_true, beq_iff_eq] at h1
  rcases h1 with h1 | h1
  ·exact h1
  ·simp at h1
 refine wp_region_noPanic (wp_region_any hm ?_)
 have main : ∀ (n : Nat) (l : Array Bool) (a : Act) (w : World), l.size = ops.size → Below w0.heap.size w0 w → a.tmps.size = a0.tmps.size → a.defers = a0.defers →
   l.getD (ops.size - 1) true = false →
   (∀ t, (∀ j o, ops[j]? = some o → j + 1 < ops.size → o.dst = some t → l.getD j true = false) → a.tmps.getD t undef = a0.tmps.getD t undef) →
   (∀ j o t, ops[j]? = some o → j + 1 < ops.size → o.dst = some t → l.getD j true = true → (E.getD j (.val undef)).ok w0.heap.size (a.tmps.getD t undef) w) →
   ((List.range ops.size).filter fun i => !l.getD i true).length ≤ n →
   wpAny Tryz.prog .any ops (NoPanic Q) n l a w := by
  intro n
  induction n with
  | zero =>
   intro l a w hl hb hsz hdf hlast hold hnew hc
   have : ops.size - 1 ∈ (List.range ops.size).filter fun i => !l.getD i true := List.mem_filter.2 ⟨List.mem_range.2 hne, by rw [hlast]; rfl⟩
   have := List.length_pos_of_mem this
   omega
  | succ n ih =>
   intro l a w hl hb hsz hdf hlast hold hnew hc
   have hcount : ∀ i, i < ops.size → l.getD i true = false → ((List.range ops.size).filter fun k => !(l.setIfInBounds i true).getD k true).length ≤ n := by
    intro i hi hli
    have hlt : ((List.range ops.size).filter fun k => !(l.setIfInBounds i true).getD k true).length < ((List.range ops.size).filter fun k => !l.getD k true).length := by
     have e : ((List.range ops.size).filter fun k => !(l.setIfInBounds i true).getD k true) = ((List.range ops.size).filter fun k => !l.getD k true).filter (fun k => k != i) := by
      rw [List.filter_filter]
      refine List.filter_congr fun k hk => ?_
      by_cases hki : k = i
      ·subst hki; simp [Array.getD, hl, hi]
      ·rw [getD_set_ne true (Ne.symm hki)]; simp [hki]
     rw [e]
     refine List.length_filter_lt_length_iff_exists.2 ⟨i, List.mem_filter.2 ⟨List.mem_range.2 hi, by rw [hli]; rfl⟩, by simp⟩
    omega
   refine ⟨fun h0 => ?_, fun i hi => ?_⟩
   ·exfalso
    obtain ⟨i, h1, h2, h3⟩ := least_false (fun k => l.getD k true) (ops.size - 1) hlast
    have hi : i < ops.size := by omega
    have : i ∈ Region.ready .any ops l := by
     refine mem_ready.2 ⟨h2, ops[i], by simp [hi], fun e he hbd => ?_⟩
     have h4 := range_all hp4 i hi
     simp only [Array.getElem?_eq_getElem hi, Option.map_some, Option.getD_some] at h4
     have h5 := Array.all_eq_true_iff_forall_mem.1 h4 e he
     simp only [hbd, Bool.not_true, Bool.false_or, decide_eq_true_eq] at h5
     have h6 := h3 e.on h5
     simp only [Array.getD] at h6 ⊢
     rw [dif_pos (by omega)] at h6 ⊢
     exact h6
    rw [h0] at this
    cases this
   ·obtain ⟨hun, o, ho, hall⟩ := mem_ready.1 hi
    have hilt : i < ops.size := (Array.getElem?_eq_some_iff.1 ho).1
    by_cases hil : i + 1 < ops.size
    ·obtain ⟨hgd, t, hdt, htl⟩ := own i o ho hil
     have hdo := Steps'.at hs i o (by simpa using ho) (by simpa using hil) a w hb (fun t' ht' => hold t' fun j oj hoj hj hdj => by
       have := range_all ht' j (by omega)
       simp only [hoj, Option.bind_some, hdj] at this
       simp at this) (fun k t' hk hdep hkl => by
       obtain ⟨ok, hok⟩ : ∃ ok, ops[k]? = some ok := ⟨ops[k]'(by omega), by simp⟩
       rw [hok] at hk
       refine hnew k ok t' hok hkl hk ?_
       rw [Nat.zero_add, ho] at hdep
       simp only [Option.map_some, Option.getD_some, Array.any_eq_true, Bool.and_eq_true, beq_iff_eq] at hdep
       obtain ⟨x, hx, hbd, hon⟩ := hdep
       have := hall _ (Array.getElem_mem hx) hbd
       rw [hon] at this
       simp only [Array.getD] at this ⊢
       rw [dif_pos (by omega)] at this ⊢
       exact this)
     rw [Nat.zero_add] at hdo
     unfold wpOp
     rw [ho]
     simp only [wanted_plain hgd, if_true]
     refine .inl (hdo.wp fun v w' hv hbw => ?_)
     rw [hdt]
     refine ih _ _ _ (by simpa using hl) (below_chain hb hbw hb.size) (by simpa [Act.put] using hsz) (by simpa [Act.put] using hdf) ?_ ?_ ?_ (hcount i hilt hun)
     ·rw [getD_set_ne true (by omega)]; exact hlast
     ·intro t' ht'
      have htt : t ≠ t' := fun e => by
       have := ht' i o ho hil (by rw [hdt, e])
       simp [Array.getD, hl, hilt] at this
      simp only [Act.put, Array.getD_eq_getD_getElem?, Array.getElem?_setIfInBounds, if_neg htt]
      rw [← Array.getD_eq_getD_getElem?, ← Array.getD_eq_getD_getElem?]
      refine hold t' fun j oj hoj hj hdj => ?_
      have h1 := ht' j oj hoj hj hdj
      by_cases hji : i = j
      ·subst hji; exact hun
      ·rwa [getD_set_ne true hji] at h1
     ·intro j oj t' hoj hj hdj hlj
      by_cases hji : i = j
      ·subst hji
       rw [ho] at hoj
       cases hoj
       rw [hdt] at hdj
       cases hdj
       have : (a.put (some t) v).tmps.getD t undef = v := by simp [Act.put, Array.getD, hsz, htl]
       rw [this]; exact hv
      ·rw [getD_set_ne true hji] at hlj
       have htt : t ≠ t' := fun e => hji (apart i j o oj t ho hoj hil hj hdt (by rw [hdj, e]))
       have h1 := hnew j oj t' hoj hj hdj hlj
       have : (a.put (some t) v).tmps.getD t' undef = a.tmps.getD t' undef := by
        simp only [Act.put, Array.getD_eq_getD_getElem?, Array.getElem?_setIfInBounds, if_neg htt]
       rw [this]
       exact Exp.ok_later _ hbw h1
    ·obtain rfl : i = ops.size - 1 := by omega
     simp only [ho, Option.map_some, Option.getD_some, Bool.and_eq_true] at hp3
     have hlisted : ∀ k, k + 1 < ops.size → l.getD k true = true := by
      intro k hk
      have h1 := range_all hp3.2 k (by omega)
      simp only [Array.any_eq_true, Bool.and_eq_true, beq_iff_eq] at h1
      obtain ⟨x, hx, hbd, hon⟩ := h1
      have := hall _ (Array.getElem_mem hx) hbd
      rw [hon] at this
      simp only [Array.getD] at this ⊢
      rw [dif_pos (by omega)] at this ⊢
      exact this
     obtain ⟨o', ho', hw⟩ := Ends.at a (l := ops.toList) (j := 0) (a := a0) (fun h => by rw [Array.toList_eq_nil_iff] at h; subst h; simp at hne) (he w hb) (fun k ok hk hkl => by
      have hk' : ops[k]? = some ok := by simpa using hk
      have hkl' : k + 1 < ops.size := by simpa using hkl
      obtain ⟨_, t, hdt, htl⟩ := own k ok hk' hkl'
      refine ⟨t, hdt, ?_⟩
      rw [Nat.zero_add]
      exact hnew k ok t hk' hkl' hdt (hlisted k hkl'))
     have hoo : o' = o := by
      rw [List.getLast?_eq_getElem?] at ho'
      have h2 : ops[ops.size - 1]? = some o' := by simpa using ho'
      rw [ho] at h2
      exact (Option.some.inj h2).symm
     subst hoo
     have hfill : fills a ops.toList a0 = a := by
      have hz := fills_size a ops.toList a0
      refine act_ext (by rw [hz.1, hsz]) (fun t => ?_) (by rw [hz.2, hdf])
      refine fills_slot a t ops.toList a0 hsz ?_
      by_cases hx : ∃ k ok, ops[k]? = some ok ∧ k + 1 < ops.size ∧ ok.dst = some t
      ·obtain ⟨k, ok, h1, h2, h3⟩ := hx
       exact .inr ⟨k, ok, by simpa using h1, by simpa using h2, h3⟩
      ·exact .inl (hold t fun j oj hoj hj hdj => absurd ⟨j, oj, hoj, hj, hdj⟩ hx)
     rw [hfill] at hw
     unfold wpOp
     rw [ho]
     simp only [wanted_plain hp3.1, if_true]
     refine .inl (Oper.wp_mono (fun a' w' hq => wpAny_done ?_ (NoPanic.normal hq) _) hw)
     refine List.filter_eq_nil_iff.2 fun k hk => ?_
     have hk' : k < ops.size := List.mem_range.1 hk
     have : (l.setIfInBounds (ops.size - 1) true).getD k true = true := by
      by_cases hkl : k + 1 < ops.size
      ·rw [getD_set_ne true (by omega)]; exact hlisted k hkl
      ·obtain rfl : k = ops.size - 1 := by omega
       simp [Array.getD, hl, hne]
     rw [this]; simp
 refine main _ _ _ _ (by simp) ⟨rfl, rfl, rfl, Nat.le_refl _, fun _ _ => rfl⟩ rfl rfl (by simp [Array.getD, hne]) (fun t _ => rfl) (fun j o t ho hj hd hl => ?_) ?_
 ·exfalso
  have : j < ops.size := by omega
  simp [Array.getD, this] at hl
 ·have := List.length_filter_le (fun i => !(Array.replicate ops.size false).getD i true) (List.range ops.size)
  simpa using this
theorem last_store {o : Oper} {a : Act} {w : World} {K : Act → World → Prop} {Q : Exit → Act → World → Prop} (ty : TypeId) (x y : Operand) (ho : o.op = .store ty x y) (hdst : o.dst = none) (b : Nat) (hx : a.eval x = .pointer (some ⟨b, 0, none⟩)) (t : TypeId) (vs cs : List Value) (hy : a.eval y = .agg cs.toArray) (hb : Blk w b t vs) (hl : cs.length = vs.length)
  (hi : (Tryz.prog.info? ty).map (·.size) = some cs.length) (h1 : ∀ v ∈ cs, v.oneCell' = true) (h : ∀ w', Blk w' b t cs → w'.heap.size = w.heap.size → Kept (fun k => k = b) w w' → K a w') : o.wp Tryz.prog a w K Q := by
 refine wp_store_mid ty x y ho b 0 cs.toArray hx hy (by have := hb.there (o := 0) (n := cs.toArray.size) (by simp; omega); simpa using this) (by simpa using hi) (all_oneCell_toArray h1) ?_
 rw [hdst]
 refine h _ ?_ (setCells_size ..) ((Kept.refl _ _).setCells (S := fun k => k = b) rfl _ _)
 have := Blk.setCells (xs := []) (zs := []) cs vs hl (by simpa using hb)
 simpa using this
theorem last_assign {o : Oper} {a : Act} {w : World} {K : Act → World → Prop} {Q : Exit → Act → World → Prop} (x : Operand) (ho : o.op = .assign x) (d : Option Tmp) (hdst : o.dst = d) (v : Value) (hx : a.eval x = v) (h : K (a.put d v) w) : o.wp Tryz.prog a w K Q := by
 subst hdst
 unfold Oper.wp execOp
 simp only [ho, hx, Sem.run_pure]
 exact h
end Go.Proofs.YtpanagghppdiiaaGreat
