/- Joined by program: what the theorem reaches. -/
import Derived.Test.YthlbjkfjkggdoaaGreatDoorRows
import Derived.WalkKit
import Derived.WalkSpells
import Derived.WalkLawsBesides
import Derived.RowKit
import Derived.Laws.BitsAllLaws
import Derived.Deep.RegionHeld3
import Derived.Deep.DrawnRows
import Derived.BigRegion
import Derived.Deep.Draws
import Derived.Deep.QuietTactic
import Derived.BigQuiet
import Derived.OpenShut
import Derived.Deep.AppendLies
import Derived.Laws.AppendOwnNone
import Derived.Lib.Mul64
import Derived.Deep.WholeRow
import Derived.Deep.MidRow
import Derived.Shelf.Spec.BitsCarry
import Derived.Shelf.Bits.Mul64
import Derived.Test.YthlbjkfjkggdoaaGreatDoorJB
namespace Go.Proofs.YthlbjkfjkggdoaaGreatDoor
open Go.RowKit
set_option linter.unusedVariables false
set_option linter.unusedSimpArgs false
set_option maxRecDepth 20000
set_option maxHeartbeats 1000000
theorem sA {α : Type} (l : List α) (i : Nat) (a : α) : l.toArray.setIfInBounds i a = (l.set i a).toArray := List.setIfInBounds_toArray ..
theorem sB {α : Type} (x : α) (l : List α) (a : α) : (x :: l).set 0 a = a :: l := rfl
theorem sC {α : Type} (x : α) (l : List α) (i : Nat) (a : α) : (x :: l).set (i + 1) a = x :: l.set i a := rfl
attribute [local go_sem ↓] Go.wp_at_zero Go.wp_at_succ
abbrev Word (x : Int) : Prop := 0 ≤ x ∧ x < 18446744073709551616
theorem ret_int {k : IntKind} {a b : Int} (h : a = b) : Ending.returned (.int k a) = .returned (.int k b) := by rw [h]
structure Kept (S : Nat → Prop) (w w' : World) : Prop where
 os : w'.os = w.os
 tape : w'.tape = w.tape
 output : w'.output = w.output
 size : w.heap.size ≤ w'.heap.size
 block : ∀ k, k < w.heap.size → ¬ S k → w'.heap[k]? = w.heap[k]?
theorem Kept.refl (S : Nat → Prop) (w : World) : Kept S w w := ⟨rfl, rfl, rfl, Nat.le_refl _, fun _ _ _ => rfl⟩
theorem Kept.trans {S : Nat → Prop} {a b c : World} (h : Kept S a b) (k : Kept S b c) : Kept S a c :=
 ⟨k.os.trans h.os, k.tape.trans h.tape, k.output.trans h.output, Nat.le_trans h.size k.size, fun i hi hs => (k.block i (Nat.lt_of_lt_of_le hi h.size) hs).trans (h.block i hi hs)⟩
theorem Kept.mono {S T : Nat → Prop} {a b : World} (h : Kept S a b) (hST : ∀ k, S k → T k) : Kept T a b :=
 ⟨h.os, h.tape, h.output, h.size, fun i hi hs => h.block i hi (fun x => hs (hST i x))⟩
theorem Kept.drew {S : Nat → Prop} {a w : World} (h : Kept S a w) : Kept S a w.drew := ⟨h.os, h.tape, h.output, h.size, h.block⟩
theorem Kept.setCell {S : Nat → Prop} {a w : World} (h : Kept S a w) {p : Addr} (hp : S p.block) (u : Value) : Kept S a (w.setCell p u) :=
 h.trans ⟨rfl, rfl, rfl, by simp [World.setCell], fun k _ hs => Below.heap_setCell _ _ _ _ (fun e => hs (e ▸ hp))⟩
def RowAt (w : World) (g : Nat) (zs : List Int) : Prop := ∃ rest : List Value, w.heap[g]? = some (.cells (zs.map (Value.int .u8) ++ rest).toArray 5 (0, 0))
theorem RowAt.cell {w : World} {g : Nat} {zs : List Int} (h : RowAt w g zs) (j : Nat) (hj : j < zs.length) : w.cell? ⟨g, j, none⟩ = some (.int .u8 (zs.getD j 0)) := by
 obtain ⟨rest, h⟩ := h
 rw [cell_of_row w g j _ 5 (0, 0) h]
 simp [hj, List.getElem?_append]
theorem RowAt.frozen {w : World} {g : Nat} {zs : List Int} (h : RowAt w g zs) (j : Nat) : w.frozen? ⟨g, j, none⟩ = false := by
 obtain ⟨rest, h⟩ := h
 exact frozen_of_row w g j _ 5 h
theorem RowAt.lt {w : World} {g : Nat} {zs : List Int} (h : RowAt w g zs) : g < w.heap.size := by
 obtain ⟨rest, h⟩ := h
 rcases Nat.lt_or_ge g w.heap.size with h' | h'
 ·exact h'
 ·rw [Array.getElem?_eq_none h'] at h; cases h
theorem RowAt.new (w : World) (zs : List Int) : RowAt (w.alloc (.cells (zs.map (Value.int .u8)).toArray 5)) w.heap.size zs := ⟨[], by rw [List.append_nil]; exact heap_alloc_new w _⟩
theorem RowAt.of_own {w : World} {base : Nat} {g n cap : Nat} {zs : List Int} (h : w.ownsRow base 5 1 (.slice (some ⟨g, 0, none⟩) n cap) n (zs.map (Value.int .u8))) : RowAt w g zs ∧ base ≤ g ∧ n ≤ cap ∧ cap ≤ maxLen ∧ zs.length = n := by
 obtain ⟨hl, h⟩ := h
 rcases h with ⟨h, _⟩ | ⟨g', cap', cur, h, hb, hh, hc, hm, hs, ht⟩
 ·cases h
 ·simp only [Value.slice.injEq, Option.some.injEq, Addr.mk.injEq, and_true, true_and] at h
  obtain ⟨rfl, rfl⟩ := h
  rw [Nat.mul_one] at ht
  refine ⟨⟨cur.toList.drop n, ?_⟩, hb, hc, hm, by simpa using hl⟩
  rw [← ht, List.take_append_drop]; simpa using hh
def Bytes (zs : List Int) : Prop := ∀ z ∈ zs, 0 ≤ z ∧ z < 256
theorem Bytes.at {zs : List Int} (h : Bytes zs) (j : Nat) (hj : j < zs.length) : 0 ≤ zs.getD j 0 ∧ zs.getD j 0 < 256 := by
 have e : zs.getD j 0 = zs[j] := by simp [List.getD, hj]
 rw [e]; exact h _ (List.getElem_mem hj)
theorem Kept.cell {S : Nat → Prop} {w w' : World} (h : Kept S w w') {p : Addr} (hp : p.block < w.heap.size) (hS : ¬ S p.block) : w'.cell? p = w.cell? p := World.cell?_of_block (w := w) (h.block p.block hp hS)
structure Seen (w : World) (ao : Option Addr) (n : Nat) (zs : List Int) : Prop where
 len : zs.length = n
 top : n ≤ 140737488355328
 bytes : Bytes zs
 cells : 0 < n → ∃ b o, ao = some ⟨b, o, none⟩ ∧ b < w.heap.size ∧ ∀ i, i < n → w.cell? ⟨b, o + i, none⟩ = some (.int .u8 (zs.getD i 0))
theorem Seen.later {w w' : World} {ao : Option Addr} {n : Nat} {zs : List Int} (h : Seen w ao n zs) {B : Nat} (hb : Below B w w') (hB : w.heap.size ≤ B) : Seen w' ao n zs :=
 ⟨h.len, h.top, h.bytes, fun hn => by
  obtain ⟨b, o, e, hlt, hc⟩ := h.cells hn
  exact ⟨b, o, e, Nat.lt_of_lt_of_le hlt hb.size, fun i hi => (hb.cell (p := ⟨b, o + i, none⟩) (Nat.lt_of_lt_of_le hlt hB)).trans (hc i hi)⟩⟩
theorem Seen.drewN {w : World} {ao : Option Addr} {n : Nat} {zs : List Int} (h : Seen w ao n zs) (k : Nat) : Seen (w.drewN k) ao n zs := ⟨h.len, h.top, h.bytes, h.cells⟩
theorem Seen.of_row {w : World} {g n : Nat} {zs : List Int} (h : RowAt w g zs) (hl : n ≤ zs.length) (ht : n ≤ 140737488355328) (hb : Bytes zs) : Seen w (some ⟨g, 0, none⟩) n (zs.take n) :=
 ⟨by simp; omega, ht, fun z hz => hb z (List.mem_of_mem_take hz), fun _ => ⟨g, 0, rfl, h.lt, fun i hi => by
  rw [Nat.zero_add, h.cell i (by omega)]
  simp [List.getD, hi]⟩⟩
theorem byte_of_wf {z : Int} (h : (Lit.int .u8 z).wf = true) : 0 ≤ z ∧ z < 256 := by
 simp [Lit.wf, IntKind.min, IntKind.max, IntKind.signed, IntKind.bits] at h
 exact ⟨by omega, by omega⟩
theorem Seen.of_ints {w : World} {x : Addr} {n cap : Nat} {zs : List Int} (hn : n ≤ 140737488355328) (hl : n ≤ cap) (hz : zs.length = cap)
  (hcell : ∀ i, i < zs.length → w.cell? (x.add i) = some (.int .u8 (zs.getD i 0))) (hw : ∀ z ∈ zs, (Lit.int .u8 z).wf = true) : Seen w (some x) n (zs.take n) :=
 ⟨by simp; omega, hn, fun z hz => byte_of_wf (hw z (List.mem_of_mem_take hz)), fun h0 => by
  obtain ⟨b, o, rfl, hc⟩ := ints_at hcell (by omega)
  refine ⟨b, o, rfl, ?_, fun i hi => ?_⟩
  ·have := hc 0 (by omega)
   exact World.block_lt_of_cell? _ _ this
  ·rw [hc i (by omega)]
   simp [List.getD, hi]⟩
theorem Seen.empty (w : World) (ao : Option Addr) : Seen w ao 0 [] := ⟨rfl, by decide, fun z hz => (by cases hz), fun h => (by omega)⟩
theorem below_dn {B : Nat} {a w : World} (h : Below B a w) (n : Nat) : Below B a (w.drewN n) := h.trans ⟨rfl, rfl, rfl, Nat.le_refl _, fun _ _ => rfl⟩
theorem below_ahead {B : Nat} {W w' : World} {k : Nat} (h : Below B (W.drewN k) w') : Below B W w' := ⟨h.os, h.tape, h.output, h.size, h.block⟩
theorem info_byte : (Tryz.prog.info? 5).map (fun i => (i.zero, i.size, i.bytes)) = some (some (.int .u8 0), 1, 1) := by kernel_rfl
theorem own_cases {w : World} {base : Nat} {v : Value} {zs : List Int} (h : w.ownsRow base 5 1 v zs.length (zs.map (Value.int .u8))) :
  (v = .slice none 0 0 ∧ zs = []) ∨ ∃ g cap, v = .slice (some ⟨g, 0, none⟩) zs.length cap ∧ RowAt w g zs ∧ base ≤ g ∧ zs.length ≤ cap ∧ cap ≤ maxLen := by
 rcases h.2 with ⟨h1, h2⟩ | ⟨g, cap, cur, rfl, r⟩
 ·left; exact ⟨h1, List.length_eq_zero_iff.1 h2⟩
 ·right
  have := RowAt.of_own h
  exact ⟨g, cap, rfl, this.1, this.2.1, this.2.2.1, this.2.2.2.1⟩
theorem step_own {w wr w1 : World} {v v' : Value} {zs : List Int} {z : Int} {k : Nat}
  (hb : Below w.heap.size w wr) (hown : wr.ownsRow w.heap.size 5 1 v k ((zs.map (Value.int .u8)).take k)) (hk : k < zs.length) (hz : zs.getD k 0 = z)
  (hown' : w1.ownsRow w.heap.size 5 1 v' (k + 1) ((zs.map (Value.int .u8)).take k ++ [.int .u8 z])) (hg : (wr.alloc (.cells #[.int .u8 z] 5)).grownBy w1 v.ownBlock) :
  w1.ownsRow w.heap.size 5 1 v' (k + 1) ((zs.map (Value.int .u8)).take (k + 1)) ∧ Below w.heap.size w w1 := by
 constructor
 ·rw [List.take_succ_eq_append_getElem (by simpa using hk)]
  have e : zs[k] = z := by rw [← hz]; simp [List.getD, hk]
  rw [List.getElem_map, e]; exact hown'
 ·exact (hb.alloc hb.size _).grown hg (by have := hb.size; simp; omega) (fun j hj => (hown.lt j hj).1)
theorem own_len {w : World} {base : Nat} {v : Value} {n : Nat} {zs : List Int} (hl : zs.length = n) (h : w.ownsRow base 5 1 v n (zs.map (Value.int .u8))) :
  (v = .slice none 0 0 ∧ n = 0) ∨ ∃ g cap, v = .slice (some ⟨g, 0, none⟩) n cap ∧ RowAt w g zs ∧ base ≤ g ∧ n ≤ cap ∧ cap ≤ maxLen := by
 subst hl
 rcases own_cases h with ⟨h1, h2⟩ | h
 ·left; exact ⟨h1, by rw [h2]; rfl⟩
 ·right; exact h
theorem Seen.drew {w : World} {ao : Option Addr} {n : Nat} {zs : List Int} (h : Seen w ao n zs) : Seen w.drew ao n zs := h.drewN 1
theorem Seen.kept {S : Nat → Prop} {w w' : World} {ao : Option Addr} {n : Nat} {zs : List Int} (h : Seen w ao n zs) (hk : Kept S w w') (hS : ∀ b o, 0 < n → ao = some ⟨b, o, none⟩ → ¬ S b) : Seen w' ao n zs :=
 ⟨h.len, h.top, h.bytes, fun hn => by
  obtain ⟨b, o, e, hlt, hc⟩ := h.cells hn
  exact ⟨b, o, e, Nat.lt_of_lt_of_le hlt hk.size, fun i hi => (hk.cell (p := ⟨b, o + i, none⟩) hlt (hS b o hn e)).trans (hc i hi)⟩⟩
theorem Seen.old {w : World} {ao : Option Addr} {n : Nat} {zs : List Int} (h : Seen w ao n zs) {B : Nat} (hB : w.heap.size ≤ B) : ∀ b o, 0 < n → ao = some ⟨b, o, none⟩ → b < B := by
 intro b o hn e
 obtain ⟨b', o', e', hlt, _⟩ := h.cells hn
 rw [e] at e'
 simp at e'
 omega
theorem own_seen {w : World} {base : Nat} {v : Value} {n : Nat} {zs : List Int} (hl : zs.length = n) (hb : Bytes zs) (ht : n ≤ 140737488355328) (h : w.ownsRow base 5 1 v n (zs.map (Value.int .u8))) :
  ∃ vo cap, v = .slice vo n cap ∧ Seen w vo n zs ∧ ∀ b o, vo = some ⟨b, o, none⟩ → base ≤ b := by
 rcases own_len hl h with ⟨rfl, rfl⟩ | ⟨g, cap, rfl, hr, hg, _, _⟩
 ·have e : zs = [] := List.length_eq_zero_iff.1 hl
  subst e
  exact ⟨none, 0, rfl, Seen.empty _ _, fun b o h => by cases h⟩
 ·refine ⟨_, cap, rfl, ?_, fun b o h => by simp at h; omega⟩
  have := Seen.of_row (n := n) hr (by omega) ht hb
  rwa [List.take_of_length_le (by omega)] at this
theorem ownsRow_below {w w' : World} {base : Nat} {e : TypeId} {size : Nat} {v : Value} {n : Nat} {xs : List Value} (h : w.ownsRow base e size v n xs) (hb : Below w.heap.size w w') : w'.ownsRow base e size v n xs := by
 refine ⟨h.1, ?_⟩
 rcases h.2 with h2 | ⟨g, cap, cur, hv, hg, hh, r⟩
 ·exact .inl h2
 ·exact .inr ⟨g, cap, cur, hv, hg, by rw [hb.block g (lt_of_block hh)]; exact hh, r⟩
theorem ownsRow_base {w : World} {base base' : Nat} {e : TypeId} {size : Nat} {v : Value} {n : Nat} {xs : List Value} (h : w.ownsRow base e size v n xs) (hb : base' ≤ base) : w.ownsRow base' e size v n xs := by
 refine ⟨h.1, ?_⟩
 rcases h.2 with h2 | ⟨g, cap, cur, hv, hg, r⟩
 ·exact .inl h2
 ·exact .inr ⟨g, cap, cur, hv, by omega, r⟩
def le : List Int → Int
 | [] => 0
 | z :: zs => z + 256 * le zs
def leB : Nat → Int → List Int
 | 0, _ => []
 | k + 1, v => v % 256 :: leB k (v / 256)
theorem leB_length (k : Nat) (v : Int) : (leB k v).length = k := by
 induction k generalizing v with
 | zero => rfl
 | succ k ih => simp [leB, ih]
theorem leB_bytes (k : Nat) (v : Int) : Bytes (leB k v) := by
 induction k generalizing v with
 | zero => intro z hz; cases hz
 | succ k ih =>
  intro z hz
  simp only [leB, List.mem_cons] at hz
  rcases hz with rfl | hz
  ·omega
  ·exact ih _ z hz
theorem le_bd (zs : List Int) (h : Bytes zs) : 0 ≤ le zs ∧ le zs < 256 ^ zs.length := by
 induction zs with
 | nil => simp [le]
 | cons z zs ih =>
  have hz := h z (by simp)
  have := ih (fun y hy => h y (by simp [hy]))
  simp only [le, List.length_cons, Int.pow_succ]
  omega
theorem le_leB (k : Nat) (v : Int) : le (leB k v) = v % 256 ^ k := by
 induction k generalizing v with
 | zero => simp [leB, le]
 | succ k ih =>
  simp only [leB, le, ih]
  have hp : (0 : Int) < 256 ^ k := Int.pow_pos (by decide)
  have h1 := Int.mul_ediv_add_emod v 256
  have h2 := Int.mul_ediv_add_emod (v / 256) (256 ^ k)
  have b1 := Int.emod_nonneg (v / 256) (Int.ne_of_gt hp)
  have b2 := Int.emod_lt_of_pos (v / 256) hp
  have e : (256 : Int) ^ (k + 1) = 256 ^ k * 256 := Int.pow_succ ..
  have key : v = (256 ^ k * 256) * (v / 256 / 256 ^ k) + (v % 256 + 256 * (v / 256 % 256 ^ k)) := by
   have : (256 ^ k * 256) * (v / 256 / 256 ^ k) = 256 * (256 ^ k * (v / 256 / 256 ^ k)) := by
    rw [Int.mul_comm (256 ^ k) 256, Int.mul_assoc]
   rw [this]; omega
  rw [e]
  have g : v % (256 ^ k * 256) = v % 256 + 256 * (v / 256 % 256 ^ k) := by
   conv => lhs; rw [key]
   rw [Int.mul_add_emod_self_left]
   exact Int.emod_eq_of_lt (by omega) (by omega)
  exact g.symm
theorem leB_le (zs : List Int) (h : Bytes zs) : leB zs.length (le zs) = zs := by
 induction zs with
 | nil => rfl
 | cons z zs ih =>
  have hz := h z (by simp)
  simp only [List.length_cons, leB, le]
  have e1 : (z + 256 * le zs) % 256 = z := by omega
  have e2 : (z + 256 * le zs) / 256 = le zs := by omega
  rw [e1, e2, ih (fun y hy => h y (by simp [hy]))]
theorem leB_at (k : Nat) (v : Int) (i : Nat) (hi : i < k) : (leB k v).getD i 0 = v / 256 ^ i % 256 := by
 induction k generalizing v i with
 | zero => omega
 | succ k ih =>
  cases i with
  | zero => simp [leB]
  | succ i =>
   simp only [leB, List.getD_cons_succ]
   rw [ih _ _ (by omega), Int.ediv_ediv_of_nonneg (by decide)]
   congr 2
   rw [Int.pow_succ, Int.mul_comm]
theorem le_drop (zs : List Int) (k : Nat) (hk : k < zs.length) : le (zs.drop k) = zs.getD k 0 + 256 * le (zs.drop (k + 1)) := by
 rw [List.drop_eq_getElem_cons hk]
 simp [le, List.getD, hk]
theorem bytes_drop {zs : List Int} (h : Bytes zs) (k : Nat) : Bytes (zs.drop k) := fun z hz => h z (List.mem_of_mem_drop hz)
theorem bytes_take {zs : List Int} (h : Bytes zs) (k : Nat) : Bytes (zs.take k) := fun z hz => h z (List.mem_of_mem_take hz)
theorem bytes_app {xs ys : List Int} (hx : Bytes xs) (hy : Bytes ys) : Bytes (xs ++ ys) := fun z hz => by
 rcases List.mem_append.1 hz with h | h
 ·exact hx z h
 ·exact hy z h
theorem or_low (a b : Int) (ha : 0 ≤ a ∧ a * 256 < 18446744073709551616) (hb : 0 ≤ b ∧ b < 256) : bits .or .u64 (a * 256) b = b + 256 * a := by
 rw [u64_or _ _ (by omega) ha.2 hb.1 (by omega)]
 obtain ⟨a, rfl⟩ := Int.eq_ofNat_of_zero_le ha.1
 obtain ⟨b, rfl⟩ := Int.eq_ofNat_of_zero_le hb.1
 have h := Nat.shiftLeft_add_eq_or_of_lt (i := 8) (b := b) (by omega) a
 have e1 : ((a : Int) * 256).toNat = a <<< 8 := by rw [Nat.shiftLeft_eq]; omega
 rw [e1, Int.toNat_natCast, ← h, Nat.shiftLeft_eq]; omega
theorem le_drop_bd (zs : List Int) (h : Bytes zs) (n k : Nat) (hl : zs.length = n) (hn : n ≤ 8) (hk : 0 < k) : 0 ≤ le (zs.drop k) ∧ le (zs.drop k) * 256 < 18446744073709551616 := by
 have b := le_bd _ (bytes_drop h k)
 have hle : (256 : Int) ^ (zs.drop k).length ≤ 256 ^ 7 := by
  rw [List.length_drop]
  have : 256 ^ (zs.length - k) ≤ 256 ^ 7 := Nat.pow_le_pow_right (by decide) (by omega)
  show ((256 : Nat) : Int) ^ _ ≤ ((256 : Nat) : Int) ^ 7
  rw [← Int.natCast_pow, ← Int.natCast_pow]
  exact Int.ofNat_le.2 this
 omega
def u64s (l : List Int) : List Value := l.map (Value.int .u64)
theorem u64s_length (l : List Int) : (u64s l).length = l.length := List.length_map ..
theorem u64s_one (l : List Int) : ∀ v ∈ u64s l, v.oneCell' = true := by
 intro v hv
 obtain ⟨z, _, rfl⟩ := List.mem_map.1 hv
 rfl
def pr (v : Int) : List Int := [v % 18446744073709551616, v / 18446744073709551616]
def nm (v : Int) : List Int := [v % 18446744073709551616, v / 18446744073709551616 % 18446744073709551616, v / 340282366920938463463374607431768211456]
def q4 (v : Int) : List Int := [v % 18446744073709551616, v / 18446744073709551616 % 18446744073709551616, v / 340282366920938463463374607431768211456 % 18446744073709551616, v / 6277101735386680763835789423207666416102355444464034512896]
def fold5 (v : Int) : Int := v % 1361129467683753853853498429727072845824 + 5 * (v / 1361129467683753853853498429727072845824)
abbrev prime : Int := 1361129467683753853853498429727072845819
theorem fold5_bd (v : Int) (h0 : 0 ≤ v) (h1 : v < 57896044618658097711785492504343953926634992332820282019728792003956564819968) : 0 ≤ fold5 v ∧ fold5 v < 1701411834604692317316873037158841057280 := by unfold fold5; omega
theorem and3 (x : Int) (h0 : 0 ≤ x) (h1 : x < 18446744073709551616) : bits .and .u64 x 3 = x % 4 := by
 rw [u64_and _ _ h0 h1 (by decide) (by decide)]
 obtain ⟨a, rfl⟩ := Int.eq_ofNat_of_zero_le h0
 have : a &&& 3 = a % 4 := Nat.and_two_pow_sub_one_eq_mod a 2
 simp only [Int.toNat_natCast, Int.reduceToNat, this]; omega
theorem andNot3 (x : Int) (h0 : 0 ≤ x) (h1 : x < 18446744073709551616) : bits .andNot .u64 x 3 = x - x % 4 := by
 rw [u64_andNot _ _ h0 h1 (by decide) (by decide)]
 obtain ⟨a, rfl⟩ := Int.eq_ofNat_of_zero_le h0
 simp only [Int.toNat_natCast, Int.reduceToNat, Nat.reduceSub]
 have e : a &&& 18446744073709551612 = a - a % 4 := by
  apply Nat.eq_of_testBit_eq
  intro i
  have e1 : a - a % 4 = 2 ^ 2 * (a / 4) := by omega
  rw [e1, Nat.testBit_and, Nat.testBit_two_pow_mul]
  have e2 : (18446744073709551612 : Nat) = 2 ^ 2 * (2 ^ 62 - 1) := by decide
  rw [e2, Nat.testBit_two_pow_mul, Nat.testBit_two_pow_sub_one]
  by_cases hi : 2 ≤ i
  ·have e3 : (a / 4).testBit (i - 2) = a.testBit i := by
    rw [show (4 : Nat) = 2 ^ 2 from rfl, Nat.testBit_div_two_pow]; congr 1; omega
   simp only [hi, decide_true, Bool.true_and, e3, ge_iff_le]
   by_cases h62 : i - 2 < 62
   ·simp [h62]
   ·have : a.testBit i = false := Nat.testBit_lt_two_pow (Nat.lt_of_lt_of_le (by omega : a < 2 ^ 64) (Nat.pow_le_pow_right (by decide) (by omega)))
    simp [this]
  ·simp [hi]
 rw [e]; omega
theorem or_high (x y : Int) (hx : 0 ≤ x ∧ x < 4611686018427387904) (hy : 0 ≤ y ∧ y < 4) : bits .or .u64 x (y * 4611686018427387904) = x + y * 4611686018427387904 := by
 rw [u64_or _ _ hx.1 (by omega) (by omega) (by omega)]
 obtain ⟨a, rfl⟩ := Int.eq_ofNat_of_zero_le hx.1
 obtain ⟨b, rfl⟩ := Int.eq_ofNat_of_zero_le hy.1
 have h := Nat.shiftLeft_add_eq_or_of_lt (i := 62) (b := a) (by omega) b
 have e1 : ((b : Int) * 4611686018427387904).toNat = b <<< 62 := by rw [Nat.shiftLeft_eq]; omega
 rw [e1, Int.toNat_natCast, Nat.or_comm, ← h, Nat.shiftLeft_eq]; omega
theorem times_code (x0 x1 x2 r0 r1 : Int) (h0 : 0 ≤ x0 ∧ x0 < 18446744073709551616) (h1 : 0 ≤ x1 ∧ x1 < 18446744073709551616) (h2 : 0 ≤ x2 ∧ x2 < 8) (g0 : 0 ≤ r0 ∧ r0 < 1152921504606846976) (g1 : 0 ≤ r1 ∧ r1 < 1152921504606846976) :
  ∃ a b c d e f : Int, x0 * r0 = a ∧ x0 * r1 = b ∧ x1 * r0 = c ∧ x1 * r1 = d ∧ x2 * r0 = e ∧ x2 * r1 = f ∧
   (x0 + 18446744073709551616 * x1 + 340282366920938463463374607431768211456 * x2) * (r0 + 18446744073709551616 * r1) = a + 18446744073709551616 * (b + c) + 340282366920938463463374607431768211456 * (d + e) + 6277101735386680763835789423207666416102355444464034512896 * f ∧
   0 ≤ a ∧ a ≤ 21267647932558653966460912964485513216 ∧ 0 ≤ b ∧ b ≤ 21267647932558653966460912964485513216 ∧ 0 ≤ c ∧ c ≤ 21267647932558653966460912964485513216 ∧ 0 ≤ d ∧ d ≤ 21267647932558653966460912964485513216 ∧ 0 ≤ e ∧ e ≤ 8070450532247928832 ∧ 0 ≤ f ∧ f ≤ 8070450532247928832 := by
 have big : ∀ x r : Int, 0 ≤ x ∧ x < 18446744073709551616 → 0 ≤ r ∧ r < 1152921504606846976 → 0 ≤ x * r ∧ x * r ≤ 21267647932558653966460912964485513216 := by
  intro x r hx hr
  refine ⟨Int.mul_nonneg hx.1 hr.1, ?_⟩
  have := Int.mul_le_mul (Int.le_of_lt hx.2) (Int.le_of_lt hr.2) hr.1 (by decide)
  exact Int.le_trans this (by decide)
 have small : ∀ x r : Int, 0 ≤ x ∧ x < 8 → 0 ≤ r ∧ r < 1152921504606846976 → 0 ≤ x * r ∧ x * r ≤ 8070450532247928832 := by
  intro x r hx hr
  refine ⟨Int.mul_nonneg hx.1 hr.1, ?_⟩
  have := Int.mul_le_mul (show x ≤ 7 by omega) (Int.le_of_lt hr.2) hr.1 (by decide)
  exact Int.le_trans this (by decide)
 refine ⟨_, _, _, _, _, _, rfl, rfl, rfl, rfl, rfl, rfl, ?_, (big _ _ h0 g0).1, (big _ _ h0 g0).2, (big _ _ h0 g1).1, (big _ _ h0 g1).2, (big _ _ h1 g0).1, (big _ _ h1 g0).2, (big _ _ h1 g1).1, (big _ _ h1 g1).2, (small _ _ h2 g0).1, (small _ _ h2 g0).2, (small _ _ h2 g1).1, (small _ _ h2 g1).2⟩
 simp only [Int.add_mul, Int.mul_add]
 have e1 : x0 * (18446744073709551616 * r1) = 18446744073709551616 * (x0 * r1) := Int.mul_left_comm ..
 have e2 : 18446744073709551616 * x1 * r0 = 18446744073709551616 * (x1 * r0) := Int.mul_assoc ..
 have e3 : 18446744073709551616 * x1 * (18446744073709551616 * r1) = 340282366920938463463374607431768211456 * (x1 * r1) := by rw [Int.mul_assoc, Int.mul_left_comm x1, ← Int.mul_assoc]; rfl
 have e4 : 340282366920938463463374607431768211456 * x2 * r0 = 340282366920938463463374607431768211456 * (x2 * r0) := Int.mul_assoc ..
 have e5 : 340282366920938463463374607431768211456 * x2 * (18446744073709551616 * r1) = 6277101735386680763835789423207666416102355444464034512896 * (x2 * r1) := by rw [Int.mul_assoc, Int.mul_left_comm x2, ← Int.mul_assoc]; rfl
 rw [e1, e2, e3, e4, e5]; omega
abbrev PR : Int := 57896044618658097711785492504343953926634992332820282019728792003956564819949
def v5 (a b c d e : Int) : Int := a + 2251799813685248 * b + 5070602400912917605986812821504 * c + 11417981541647679048466287755595961091061972992 * d + 25711008708143844408671393477458601640355247900524685364822016 * e
def vl : List Int → Int
 | [a, b, c, d, e] => v5 a b c d e
 | _ => 0
def Lim (z : Int) : Prop := 0 ≤ z ∧ z < 2251799813701632
structure Fe (l : List Int) (x : Int) : Prop where
 len : l.length = 5
 lim : ∀ z ∈ l, Lim z
 num : vl l % PR = x
theorem five {l : List Int} (h : l.length = 5) : ∃ a b c d e, l = [a, b, c, d, e] := by
 match l, h with
 | [a, b, c, d, e], _ => exact ⟨a, b, c, d, e, rfl⟩
theorem Fe.parts {l : List Int} {x : Int} (h : Fe l x) : ∃ a b c d e, l = [a, b, c, d, e] ∧ Lim a ∧ Lim b ∧ Lim c ∧ Lim d ∧ Lim e ∧ v5 a b c d e % PR = x := by
 obtain ⟨a, b, c, d, e, rfl⟩ := five h.len
 exact ⟨a, b, c, d, e, rfl, h.lim _ (by simp), h.lim _ (by simp), h.lim _ (by simp), h.lim _ (by simp), h.lim _ (by simp), h.num⟩
theorem Fe.of {a b c d e x : Int} (ha : Lim a) (hb : Lim b) (hc : Lim c) (hd : Lim d) (he : Lim e) (h : v5 a b c d e % PR = x) : Fe [a, b, c, d, e] x := by
 refine ⟨rfl, fun z hz => ?_, h⟩
 simp only [List.mem_cons, List.not_mem_nil, or_false] at hz
 rcases hz with rfl | rfl | rfl | rfl | rfl <;> assumption
theorem Fe.bd {l : List Int} {x : Int} (h : Fe l x) : 0 ≤ x ∧ x < PR := by
 have := h.num
 unfold PR at *
 omega
def cr (a b c d e : Int) : List Int := [a % 2251799813685248 + e / 2251799813685248 * 19, b % 2251799813685248 + a / 2251799813685248, c % 2251799813685248 + b / 2251799813685248, d % 2251799813685248 + c / 2251799813685248, e % 2251799813685248 + d / 2251799813685248]
theorem cr_fe (a b c d e : Int) (ha : 0 ≤ a ∧ a < 1152921504606846976) (hb : 0 ≤ b ∧ b < 1152921504606846976) (hc : 0 ≤ c ∧ c < 1152921504606846976) (hd : 0 ≤ d ∧ d < 1152921504606846976) (he : 0 ≤ e ∧ e < 1152921504606846976) : Fe (cr a b c d e) (v5 a b c d e % PR) := by
 refine Fe.of ⟨by omega, by omega⟩ ⟨by omega, by omega⟩ ⟨by omega, by omega⟩ ⟨by omega, by omega⟩ ⟨by omega, by omega⟩ ?_
 unfold v5 PR
 omega
theorem and51 (x : Int) (h0 : 0 ≤ x) (h1 : x < 18446744073709551616) : bits .and .u64 x 2251799813685247 = x % 2251799813685248 := by
 rw [u64_and _ _ h0 h1 (by decide) (by decide)]
 obtain ⟨a, rfl⟩ := Int.eq_ofNat_of_zero_le h0
 have : a &&& 2251799813685247 = a % 2251799813685248 := Nat.and_two_pow_sub_one_eq_mod a 51
 simp only [Int.toNat_natCast, Int.reduceToNat, this]; omega
theorem or_behind (k : Nat) (x y : Int) (hx : 0 ≤ x ∧ x < (2 ^ k : Nat)) (hy : 0 ≤ y) (hs : y * (2 ^ k : Nat) < 18446744073709551616) (hk : k ≤ 64) : bits .or .u64 (y * (2 ^ k : Nat)) x = x + y * (2 ^ k : Nat) := by
 obtain ⟨a, rfl⟩ := Int.eq_ofNat_of_zero_le hx.1
 obtain ⟨b, rfl⟩ := Int.eq_ofNat_of_zero_le hy
 have h2 : (2 : Nat) ^ k ≤ 2 ^ 64 := Nat.pow_le_pow_right (by decide) hk
 have h3 := hx.2
 have h4 : (a : Int) < 18446744073709551616 := by omega
 rw [u64_or _ _ (Int.mul_nonneg hy (Int.natCast_nonneg _)) hs (by omega) h4]
 have h := Nat.shiftLeft_add_eq_or_of_lt (i := k) (b := a) (by omega) b
 have e1 : ((b : Int) * (2 ^ k : Nat)).toNat = b <<< k := by rw [Nat.shiftLeft_eq, ← Int.natCast_mul]; exact Int.toNat_natCast _
 rw [e1, Int.toNat_natCast, ← h, Nat.shiftLeft_eq]
 simp [Int.add_comm]
def lowK : Nat → List Int → List Int
 | k + 1, z :: l => z % 2251799813685248 :: lowK k l
 | _, l => l
theorem lowK_at : ∀ (k : Nat) (l : List Int), k < l.length → (lowK k l)[k]? = l[k]?
 | 0, l, _ => by cases l <;> rfl
 | k + 1, [], h => by simp at h
 | k + 1, z :: l, h => by simpa [lowK] using lowK_at k l (by simpa using h)
theorem lowK_set : ∀ (k : Nat) (l : List Int) (h : k < l.length), (lowK k l).set k (l[k] % 2251799813685248) = lowK (k + 1) l
 | 0, z :: l, _ => by cases l <;> rfl
 | k + 1, z :: l, h => by simpa [lowK] using lowK_set k l (by simpa using h)
theorem u64s_set (l : List Int) (k : Nat) (z : Int) : (u64s l).set k (.int .u64 z) = u64s (l.set k z) := by simp [u64s, List.map_set]
theorem u64s_getD {l : List Int} {k : Nat} (h : k < l.length) : (u64s l)[k]? = some (.int .u64 l[k]) := by simp [u64s, h]
theorem len64_8 (w : World) : Calls Tryz.prog 132 #[.int .u64 255] w fun e w' => e = .returned (.int .i64 8) ∧ w = w' := by
 go_enter Tryz.func132, Tryz.ntmps132
 go_wp2
 go_ret
 exact ⟨by kernel_rfl, rfl⟩
theorem len64_16 (w : World) : Calls Tryz.prog 132 #[.int .u64 65535] w fun e w' => e = .returned (.int .i64 16) ∧ w = w' := by
 go_enter Tryz.func132, Tryz.ntmps132
 go_wp2
 go_ret
 exact ⟨by kernel_rfl, rfl⟩
theorem len64_32 (w : World) : Calls Tryz.prog 132 #[.int .u64 4294967295] w fun e w' => e = .returned (.int .i64 32) ∧ w = w' := by
 go_enter Tryz.func132, Tryz.ntmps132
 go_wp2
 go_ret
 exact ⟨by kernel_rfl, rfl⟩
theorem len64_64 (w : World) : Calls Tryz.prog 132 #[.int .u64 18446744073709551615] w fun e w' => e = .returned (.int .i64 64) ∧ w = w' := by
 go_enter Tryz.func132, Tryz.ntmps132
 go_wp2
 go_ret
 exact ⟨by kernel_rfl, rfl⟩
def fit (n k : Nat) : Int := if n < k then 20 else if k < n then 21 else 0
theorem fit_short {n k : Nat} (h : n < k) : fit n k = 20 := by unfold fit; rw [if_pos h]
theorem fit_rest {n k : Nat} (h : k < n) : fit n k = 21 := by unfold fit; rw [if_neg (by omega), if_pos h]
theorem fit_ok (n : Nat) : fit n n = 0 := by unfold fit; rw [if_neg (by omega), if_neg (by omega)]
theorem byteAt_eq (v : Int) (i : Nat) : v / 2 ^ (8 * i) % 256 = v / 256 ^ i % 256 := by
 have : (256 : Int) ^ i = 2 ^ (8 * i) := by rw [Int.pow_mul]; rfl
 rw [this]
theorem width_32 (w : World) : Calls Tryz.prog 162 #[] w fun e w' => e = .returned (.int .i64 4) ∧ w = w' := by
 go_enter Tryz.func162, Tryz.ntmps162
 go_wp2_with (go_at_call 132; refine (len64_32 _).mono ?_; rintro e w' ⟨rfl, rfl⟩)
 go_ret
 exact ⟨rfl, rfl⟩
theorem fits_32 (ao : Option Addr) (n c : Nat) (hn : n ≤ 140737488355328) (w : World) :
  Calls Tryz.prog 253 #[.slice ao n c] w fun e w' => e = .returned (.int .i64 (fit n 4)) ∧ w = w' := by
 rcases Nat.lt_trichotomy n 4 with h | h | h
 ·rw [fit_short h]
  have h1 : (n : Int) < 4 := by omega
  go_enter Tryz.func253, Tryz.ntmps253
  go_wp2_with (go_at_call 162; refine (width_32 _).mono ?_; rintro e w' ⟨rfl, rfl⟩)
  go_ret
  exact ⟨rfl, rfl⟩
 ·subst h
  rw [fit_ok]
  go_enter Tryz.func253, Tryz.ntmps253
  go_wp2_with (go_at_call 162; refine (width_32 _).mono ?_; rintro e w' ⟨rfl, rfl⟩)
  go_ret
  exact ⟨rfl, rfl⟩
 ·rw [fit_rest h]
  have h1 : (4 : Int) < (n : Int) := by omega
  go_enter Tryz.func253, Tryz.ntmps253
  go_wp2_with (go_at_call 162; refine (width_32 _).mono ?_; rintro e w' ⟨rfl, rfl⟩)
  go_ret
  exact ⟨rfl, rfl⟩
theorem byteAt_32 (v : Int) (hv : 0 ≤ v ∧ v < 4294967296) (i : Nat) (hi : i < 4) (w : World) :
  Calls Tryz.prog 163 #[.int .u32 v, .int .i64 i] w fun e w' => e = .returned (.int .u8 (v / 256 ^ i % 256)) ∧ w = w' := by
 go_enter Tryz.func163, Tryz.ntmps163
 go_wp2
 go_ret
 exact ⟨by rw [← byteAt_eq]; rfl, rfl⟩
theorem width_64 (w : World) : Calls Tryz.prog 84 #[] w fun e w' => e = .returned (.int .i64 8) ∧ w = w' := by
 go_enter Tryz.func84, Tryz.ntmps84
 go_wp2_with (go_at_call 132; refine (len64_64 _).mono ?_; rintro e w' ⟨rfl, rfl⟩)
 go_ret
 exact ⟨rfl, rfl⟩
theorem fits_64 (ao : Option Addr) (n c : Nat) (hn : n ≤ 140737488355328) (w : World) :
  Calls Tryz.prog 255 #[.slice ao n c] w fun e w' => e = .returned (.int .i64 (fit n 8)) ∧ w = w' := by
 rcases Nat.lt_trichotomy n 8 with h | h | h
 ·rw [fit_short h]
  have h1 : (n : Int) < 8 := by omega
  go_enter Tryz.func255, Tryz.ntmps255
  go_wp2_with (go_at_call 84; refine (width_64 _).mono ?_; rintro e w' ⟨rfl, rfl⟩)
  go_ret
  exact ⟨rfl, rfl⟩
 ·subst h
  rw [fit_ok]
  go_enter Tryz.func255, Tryz.ntmps255
  go_wp2_with (go_at_call 84; refine (width_64 _).mono ?_; rintro e w' ⟨rfl, rfl⟩)
  go_ret
  exact ⟨rfl, rfl⟩
 ·rw [fit_rest h]
  have h1 : (8 : Int) < (n : Int) := by omega
  go_enter Tryz.func255, Tryz.ntmps255
  go_wp2_with (go_at_call 84; refine (width_64 _).mono ?_; rintro e w' ⟨rfl, rfl⟩)
  go_ret
  exact ⟨rfl, rfl⟩
theorem byteAt_64 (v : Int) (hv : 0 ≤ v ∧ v < 18446744073709551616) (i : Nat) (hi : i < 8) (w : World) :
  Calls Tryz.prog 85 #[.int .u64 v, .int .i64 i] w fun e w' => e = .returned (.int .u8 (v / 256 ^ i % 256)) ∧ w = w' := by
 go_enter Tryz.func85, Tryz.ntmps85
 go_wp2
 go_ret
 exact ⟨by rw [← byteAt_eq]; rfl, rfl⟩
def leV (k n : Nat) (zs : List Int) : Int := if n = k then le zs else 0
theorem leV_ok (n : Nat) (zs : List Int) : leV n n zs = le zs := by simp [leV]
theorem leV_no {n k : Nat} (zs : List Int) (h : n ≠ k) : leV k n zs = 0 := by simp [leV, h]
theorem little_32 (ao : Option Addr) (n c : Nat) (zs : List Int) (w : World) (hx : Seen w ao n zs) :
  Calls Tryz.prog 240 #[.slice ao n c] w fun e w' => e = .returned (.tuple #[.int .u32 (leV 4 n zs), .int .i64 (fit n 4)]) ∧ w = w' := by
 have t1 := hx.top
 by_cases hn : n = 4
 ·subst hn
  have HL : Hid (zs.length = 4) := hx.len
  have HB : Hid (Bytes zs) := hx.bytes
  rw [leV_ok, fit_ok]
  have hf := fits_32 ao 4 c (by decide) w
  rw [fit_ok] at hf
  go_enter Tryz.func240, Tryz.ntmps240
  go_wp2_with (go_at_call 253; refine hf.mono ?_; rintro e w' ⟨rfl, rfl⟩)
  go_loopw [5, 6] (fun v i wr => ∃ (m : Nat) (I : Int), m ≤ 4 ∧ I + 1 = m ∧ i = .int .i64 I ∧ v = .int .u64 (le (zs.drop m)) ∧ wr = w) (fun _ i _ => (intOf i + 1).toNat)
  case atStart => exact ⟨4, 4 - 1, by omega, by omega, rfl, by rw [List.drop_of_length_le (by have := HL.out; omega)]; rfl, rfl⟩
  case round =>
   obtain ⟨m, I, hm, hI, rfl, rfl, rfl⟩ := hrel
   by_cases hlt : 0 < m
   ·obtain ⟨b, o, rfl, hb, hc⟩ := hx.cells (by decide)
    obtain ⟨p, rfl⟩ : ∃ p, m = p + 1 := ⟨m - 1, by omega⟩
    obtain rfl : I = (p : Int) := by omega
    have c1 := hc p (by omega)
    have hd := le_drop zs p (by have := HL.out; omega)
    have hbd := le_drop_bd zs HB.out 4 (p + 1) HL.out (by decide) (by omega)
    have hz := HB.out.at p (by have := HL.out; omega)
    obtain ⟨Z, hZ⟩ : ∃ Z, zs.getD p 0 = Z := ⟨_, rfl⟩
    obtain ⟨A, hA⟩ : ∃ A, le (zs.drop (p + 1)) = A := ⟨_, rfl⟩
    rw [hZ] at c1 hd hz
    rw [hA] at hd hbd
    have HO : Hid (bits .or .u64 (A * 256) Z = le (zs.drop p)) := by show _ = _; rw [or_low A Z hbd hz, hd]
    have HA : Hid (le (zs.drop (p + 1)) = A) := hA
    rw [hA]
    have w1 : A * 256 % 18446744073709551616 = A * 256 := by omega
    have i1 : (0 : Int) ≤ (p : Int) := by omega
    have i2 : (p : Int) < 4 := by omega
    clear hZ hA hc hx hd hf
    go_wp2
    go_roundw
    case rel => exact ⟨p, (p : Int) - 1, by omega, by omega, by go_num, by rw [← HO.out], by first | rfl | trivial⟩
    case measure => simp [intOf] <;> omega
   ·obtain rfl : m = 0 := by omega
    obtain rfl : I = -1 := by omega
    have hbd := le_bd zs HB.out
    rw [HL.out] at hbd
    have hbd' : 0 ≤ le zs ∧ le zs < 4294967296 := by simpa using hbd
    rw [List.drop_zero]
    obtain ⟨A, hA⟩ : ∃ A, le zs = A := ⟨_, rfl⟩
    rw [hA] at hbd' ⊢
    have HA : Hid (le zs = A) := hA
    clear hx hf hbd hA
    go_wp2
    go_ret2
    exact ⟨by rw [HA.out]; rfl, rfl⟩
 ·rw [leV_no zs hn]
  have hf := fits_32 ao n c t1 w
  have he : (fit n 4 != 0) = true := by
   rcases Nat.lt_or_gt_of_ne hn with h | h
   ·rw [fit_short h]; rfl
   ·rw [fit_rest h]; rfl
  generalize fit n 4 = E at *
  go_enter Tryz.func240, Tryz.ntmps240
  go_wp2_with (go_at_call 253; refine hf.mono ?_; rintro e w' ⟨rfl, rfl⟩)
  go_ret2
  exact ⟨rfl, rfl⟩
theorem little_64 (ao : Option Addr) (n c : Nat) (zs : List Int) (w : World) (hx : Seen w ao n zs) :
  Calls Tryz.prog 242 #[.slice ao n c] w fun e w' => e = .returned (.tuple #[.int .u64 (leV 8 n zs), .int .i64 (fit n 8)]) ∧ w = w' := by
 have t1 := hx.top
 by_cases hn : n = 8
 ·subst hn
  have HL : Hid (zs.length = 8) := hx.len
  have HB : Hid (Bytes zs) := hx.bytes
  rw [leV_ok, fit_ok]
  have hf := fits_64 ao 8 c (by decide) w
  rw [fit_ok] at hf
  go_enter Tryz.func242, Tryz.ntmps242
  go_wp2_with (go_at_call 255; refine hf.mono ?_; rintro e w' ⟨rfl, rfl⟩)
  go_loopw [5, 6] (fun v i wr => ∃ (m : Nat) (I : Int), m ≤ 8 ∧ I + 1 = m ∧ i = .int .i64 I ∧ v = .int .u64 (le (zs.drop m)) ∧ wr = w) (fun _ i _ => (intOf i + 1).toNat)
  case atStart => exact ⟨8, 8 - 1, by omega, by omega, rfl, by rw [List.drop_of_length_le (by have := HL.out; omega)]; rfl, rfl⟩
  case round =>
   obtain ⟨m, I, hm, hI, rfl, rfl, rfl⟩ := hrel
   by_cases hlt : 0 < m
   ·obtain ⟨b, o, rfl, hb, hc⟩ := hx.cells (by decide)
    obtain ⟨p, rfl⟩ : ∃ p, m = p + 1 := ⟨m - 1, by omega⟩
    obtain rfl : I = (p : Int) := by omega
    have c1 := hc p (by omega)
    have hd := le_drop zs p (by have := HL.out; omega)
    have hbd := le_drop_bd zs HB.out 8 (p + 1) HL.out (by decide) (by omega)
    have hz := HB.out.at p (by have := HL.out; omega)
    obtain ⟨Z, hZ⟩ : ∃ Z, zs.getD p 0 = Z := ⟨_, rfl⟩
    obtain ⟨A, hA⟩ : ∃ A, le (zs.drop (p + 1)) = A := ⟨_, rfl⟩
    rw [hZ] at c1 hd hz
    rw [hA] at hd hbd
    have HO : Hid (bits .or .u64 (A * 256) Z = le (zs.drop p)) := by show _ = _; rw [or_low A Z hbd hz, hd]
    have HA : Hid (le (zs.drop (p + 1)) = A) := hA
    rw [hA]
    have w1 : A * 256 % 18446744073709551616 = A * 256 := by omega
    have i1 : (0 : Int) ≤ (p : Int) := by omega
    have i2 : (p : Int) < 8 := by omega
    clear hZ hA hc hx hd hf
    go_wp2
    go_roundw
    case rel => exact ⟨p, (p : Int) - 1, by omega, by omega, by go_num, by rw [← HO.out], by first | rfl | trivial⟩
    case measure => simp [intOf] <;> omega
   ·obtain rfl : m = 0 := by omega
    obtain rfl : I = -1 := by omega
    have hbd := le_bd zs HB.out
    rw [HL.out] at hbd
    have hbd' : 0 ≤ le zs ∧ le zs < 18446744073709551616 := by simpa using hbd
    rw [List.drop_zero]
    obtain ⟨A, hA⟩ : ∃ A, le zs = A := ⟨_, rfl⟩
    rw [hA] at hbd' ⊢
    have HA : Hid (le zs = A) := hA
    clear hx hf hbd hA
    go_wp2
    go_ret2
    exact ⟨by rw [HA.out]; rfl, rfl⟩
 ·rw [leV_no zs hn]
  have hf := fits_64 ao n c t1 w
  have he : (fit n 8 != 0) = true := by
   rcases Nat.lt_or_gt_of_ne hn with h | h
   ·rw [fit_short h]; rfl
   ·rw [fit_rest h]; rfl
  generalize fit n 8 = E at *
  go_enter Tryz.func242, Tryz.ntmps242
  go_wp2_with (go_at_call 255; refine hf.mono ?_; rintro e w' ⟨rfl, rfl⟩)
  go_ret2
  exact ⟨rfl, rfl⟩
theorem add_at (b o j : Nat) : (⟨b, o, none⟩ : Addr).add j = ⟨b, o + j, none⟩ := by
 unfold Addr.add
 split
 ·next h => subst h; rfl
 ·rfl
theorem seen_news {w : World} {ao : Option Addr} {n : Nat} {zs : List Int} (hx : Seen w ao n zs) {ad : Addr} (e : ao = some ad) :
  ∀ j u, (zs.map (Value.int .u8))[j]? = some u → w.cell? (ad.add j) = some u := by
 intro j u hj
 have hlt : j < n := by
  rcases Nat.lt_or_ge j n with h | h
  ·exact h
  ·rw [List.getElem?_eq_none (by have := hx.len; simp; omega)] at hj; cases hj
 obtain ⟨b, o, e', _, hc⟩ := hx.cells (by omega)
 rw [e] at e'
 cases e'
 rw [add_at, hc j hlt, ← hj, List.getElem?_map]
 have : j < zs.length := by have := hx.len; omega
 simp [List.getD, this]
theorem one_bytes (zs : List Int) : ∀ u ∈ zs.map (Value.int .u8), u.oneCell' = true := by
 intro u hu
 obtain ⟨z, _, rfl⟩ := List.mem_map.1 hu
 rfl
theorem seen_nil {w : World} {n : Nat} {zs : List Int} (hx : Seen w none n zs) : n = 0 ∧ zs = [] := by
 have h : n = 0 := by
  rcases Nat.eq_zero_or_pos n with h | h
  ·exact h
  ·obtain ⟨b, o, e, _⟩ := hx.cells h; cases e
 exact ⟨h, List.length_eq_zero_iff.1 (by rw [hx.len]; exact h)⟩
theorem below_grown {w w1 w2 : World} {v : Value} {n : Nat} {xs : List Value} (hb : Below w.heap.size w w1) (ho : w1.ownsRow w.heap.size 5 1 v n xs) (hg : w1.grownBy w2 v.ownBlock) : Below w.heap.size w w2 :=
 hb.grown hg hb.size (fun j hj => (ho.lt j hj).1)
theorem own_made (w : World) (c : Nat) (hc : c ≤ maxLen) (cs : Array Value) (hs : cs.size = c) : (w.alloc (.cells cs 5)).ownsRow w.heap.size 5 1 (.slice (some ⟨w.heap.size, 0, none⟩) 0 c) 0 [] :=
 World.ownsRow_made w _ c (Nat.le_refl _) hc (by rw [hs, Nat.mul_one])
theorem wpList_append_seen {ops : Array Oper} {rest : List Oper} {o : Oper} {a : Act} {Q : Exit → Act → World → Prop} {w : World} (hgd : o.guard = none) (s x : Operand)
  (ho : o.op = .call { callee := .builtin .append, args := #[s, x], argTypes := #[32, 32] }) (base : Nat) (v : Value) (n : Nat) (xs : List Value) (hs : a.eval s = v) (hown : w.ownsRow base 5 1 v n xs)
  (ao : Option Addr) (m c : Nat) (zs : List Int) (hx : a.eval x = .slice ao m c) (hsn : Seen w ao m zs) (hc : ao = none → c = 0) (hb : n + m ≤ 140737488355328) (hbase : base ≤ w.heap.size)
  (h : ∀ v' w', w'.ownsRow base 5 1 v' (n + m) (xs ++ zs.map (Value.int .u8)) → w.grownBy w' v.ownBlock → wpList Tryz.prog ops Q rest (a.put o.dst v') w') : wpList Tryz.prog ops Q (o :: rest) a w := by
 obtain ⟨i0, hi, hz0, hz1, hz2⟩ := info_parts info_byte
 cases ao with
 | none =>
  obtain ⟨rfl, rfl⟩ := seen_nil hsn
  obtain rfl := hc rfl
  refine wpList_append_own_none hgd s x 32 ho base 5 i0 1 Tryz.underlying32 hi v n xs hs hown hx (h v w ?_ ?_)
  ·simpa using hown
  ·exact ⟨rfl, rfl, rfl, Nat.le_refl _, fun _ _ _ => rfl⟩
 | some ad =>
  refine wpList_append_own _ hgd s x 32 ho base 5 i0 (.int .u8 0) 1 1 Tryz.underlying32 hi hz0 hz1 hz2 rfl (by decide) v n xs hs hown ad m c (zs.map (Value.int .u8)) hx ?_ (seen_news hsn rfl) (one_bytes zs) ?_ ?_ hbase (fun v' w' h1 h2 _ => h v' w' h1 h2)
  ·rw [List.length_map, hsn.len, Nat.mul_one]
  ·unfold maxLen; omega
  ·omega
theorem clone_any (ao : Option Addr) (n c : Nat) (zs : List Int) (w : World) (hx : Seen w ao n zs) :
  Calls Tryz.prog 217 #[.slice ao n c] w fun e w' => ∃ v, e = .returned v ∧ w'.ownsRow w.heap.size 5 1 v n (zs.map (Value.int .u8)) ∧ Below w.heap.size w w' := by
 have t1 := hx.top
 obtain ⟨i0, hi, hz0, hz1, hz2⟩ := info_parts info_byte
 cases ao with
 | none =>
  obtain ⟨rfl, rfl⟩ := seen_nil hx
  have hq : ∀ wx, (binOp .eql 32 (.slice none 0 c) (.slice none 0 0)).run Tryz.prog wx = .ok (.bool true) wx := fun wx => Lib.run_eql_slice_nil wx 32 5 none 0 c 0 0 Tryz.underlying32
  go_enter Tryz.func217, Tryz.ntmps217
  go_wp2
  go_ret
  exact ⟨_, rfl, World.ownsRow_nil _ _ _ _, Below.refl _ _⟩
 | some ad =>
  have hb1 : Below w.heap.size w (w.alloc (.cells #[] 5)) := (Below.refl _ _).alloc (Nat.le_refl _) _
  have ho1 := own_made w 0 (Nat.zero_le _) #[] rfl
  have HN : Hid _ := seen_news (hx.later hb1 (Nat.le_refl _)) rfl
  have HL : Hid (zs.length = n) := hx.len
  have hq : ∀ wx, (binOp .eql 32 (.slice (some ad) n c) (.slice none 0 0)).run Tryz.prog wx = .ok (.bool false) wx := fun wx => Lib.run_eql_slice_nil wx 32 5 (some ad) n c 0 0 Tryz.underlying32
  go_enter Tryz.func217, Tryz.ntmps217
  go_wp2_with (at_builtin; refine wpList_append_own _ rfl _ _ 32 rfl w.heap.size 5 i0 (.int .u8 0) 1 1 Tryz.underlying32 hi hz0 hz1 hz2 rfl (by decide) _ 0 [] rfl ho1 ad n c (zs.map (Value.int .u8)) rfl ?c0 HN.out (one_bytes zs) ?c3 ?c4 hb1.size ?_)
  case c0 => simp [HL.out]
  case c3 => unfold maxLen; omega
  case c4 => omega
  ·intro v' w1 hown hgrow _
   have R : Hid (Below w.heap.size w w1) := below_grown hb1 ho1 hgrow
   try simp only [Nat.zero_add, List.nil_append] at hown
   have HO : Hid _ := hown
   clear hown hgrow ho1
   go_wp2
   go_ret
   exact ⟨_, rfl, HO.out, R.out⟩
theorem room_any (ao : Option Addr) (n c m : Nat) (zs : List Int) (w : World) (hx : Seen w ao n zs) (hc : ao = none → c = 0) (hm : m ≤ 8) :
  Calls Tryz.prog 83 #[.slice ao n c, .int .i64 m] w fun e w' => ∃ v, e = .returned v ∧ w'.ownsRow w.heap.size 5 1 v n (zs.map (Value.int .u8)) ∧ Below w.heap.size w w' := by
 have t1 := hx.top
 obtain ⟨i0, hi, hz0, hz1, hz2⟩ := info_parts info_byte
 obtain ⟨w0, hmk, ho1, hg0⟩ := run_make_own (P := Tryz.prog) w w.heap.size 32 5 i0 (.int .u8 0) 1 Tryz.underlying32 hi hz0 hz1 .i64 .i64 (n + m) (by rw [hz2]; omega) (by unfold maxLen; omega) (Nat.le_refl _)
 have hb1 : Below w.heap.size w w0 := (Below.refl _ _).grown hg0 (Nat.le_refl _) (fun j hj => by cases hj)
 have ec : ((n + m : Nat) : Int) = (n : Int) + (m : Int) := by omega
 rw [ec] at hmk
 have HL : Hid (zs.length = n) := hx.len
 have hs := hx.later hb1 (Nat.le_refl _)
 cases ao with
 | none =>
  obtain ⟨rfl, rfl⟩ := seen_nil hx
  obtain rfl := hc rfl
  rw [Nat.zero_add] at ho1
  simp at hmk
  have HO : Hid (w0.ownsRow w.heap.size 5 1 (.slice (some ⟨w.heap.size, 0, none⟩) 0 m) 0 []) := ho1
  clear ho1
  go_enter Tryz.func83, Tryz.ntmps83
  go_wp2_with (at_builtin; refine wpList_append_own_none rfl _ _ 32 rfl w.heap.size 5 i0 1 Tryz.underlying32 hi _ 0 [] rfl HO.out rfl ?_)
  go_ret
  exact ⟨_, rfl, HO.out, hb1⟩
 | some ad =>
  have HN : Hid _ := seen_news hs rfl
  have HO1 : Hid (w0.ownsRow w.heap.size 5 1 (.slice (some ⟨w.heap.size, 0, none⟩) 0 (n + m)) 0 []) := ho1
  have HB1 : Hid _ := hb1
  clear ho1 hs
  go_enter Tryz.func83, Tryz.ntmps83
  go_wp2_with (at_builtin; refine wpList_append_own _ rfl _ _ 32 rfl w.heap.size 5 i0 (.int .u8 0) 1 1 Tryz.underlying32 hi hz0 hz1 hz2 rfl (by decide) _ 0 [] rfl HO1.out ad n c (zs.map (Value.int .u8)) rfl ?c0 HN.out (one_bytes zs) ?c3 ?c4 HB1.out.size ?_)
  case c0 => simp [HL.out]
  case c3 => unfold maxLen; omega
  try case c4 => omega
  ·intro v' w1 hown hgrow _
   have R : Hid (Below w.heap.size w w1) := below_grown HB1.out HO1.out hgrow
   try simp only [Nat.zero_add, List.nil_append] at hown
   have HO : Hid _ := hown
   clear hown hgrow hb1 hg0
   go_wp2
   go_ret
   exact ⟨_, rfl, HO.out, R.out⟩
theorem app_getD (xs ys : List Int) (n k : Nat) (hl : xs.length = n) : (xs ++ ys).getD (n + k) 0 = ys.getD k 0 := by
 subst hl
 simp [List.getD, List.getElem?_append_right]
theorem app_take (xs ys : List Int) (n : Nat) (hl : xs.length = n) : ((xs ++ ys).map (Value.int .u8)).take n = xs.map (Value.int .u8) := by
 rw [List.map_append, List.take_append_of_le_length (by simp; omega), List.take_of_length_le (by simp; omega)]
theorem app_all (xs ys : List Int) (n k : Nat) (hl : xs.length = n) (hk : ys.length = k) : ((xs ++ ys).map (Value.int .u8)).take (n + k) = (xs ++ ys).map (Value.int .u8) :=
 List.take_of_length_le (by simp; omega)
theorem put_32 (ao : Option Addr) (n c : Nat) (zs : List Int) (x : Int) (w : World) (hx : Seen w ao n zs) (hc : ao = none → c = 0) (hn : n + 8 ≤ 140737488355328) (hv : 0 ≤ x ∧ x < 4294967296) :
  Calls Tryz.prog 121 #[.slice ao n c, .int .u32 x] w fun e w' => ∃ v, e = .returned v ∧ w'.ownsRow w.heap.size 5 1 v (n + 4) ((zs ++ leB 4 x).map (Value.int .u8)) ∧ Below w.heap.size w w' := by
 obtain ⟨i0, hi, hz0, hz1, hz2⟩ := info_parts info_byte
 have A1 : Hid (∀ k, k < 4 → (zs ++ leB 4 x).getD (n + k) 0 = x / 256 ^ k % 256) := fun k hk => by rw [app_getD _ _ _ _ hx.len, leB_at _ _ _ hk]
 have A2 : Hid (((zs ++ leB 4 x).map (Value.int .u8)).take n = zs.map (Value.int .u8)) := app_take _ _ _ hx.len
 have A3 : Hid (((zs ++ leB 4 x).map (Value.int .u8)).take (n + 4) = (zs ++ leB 4 x).map (Value.int .u8)) := app_all _ _ _ _ hx.len (leB_length _ _)
 have A4 : Hid ((zs ++ leB 4 x).length = n + 4) := by show _ = _; rw [List.length_append, hx.len, leB_length]
 generalize zs ++ leB 4 x = zm at *
 have hr := room_any ao n c 4 zs w hx hc (by decide)
 go_enter Tryz.func121, Tryz.ntmps121
 go_wp2_with (first | (go_at_call 162; with_reducible refine (width_32 _).mono ?_; rintro e w' ⟨rfl, rfl⟩) | (go_at_call 83; refine hr.mono ?_; rintro e w1 ⟨v, rfl, hown, hbel⟩))
 go_loopw [5, 11] (fun v i wr => ∃ k : Nat, k ≤ 4 ∧ i = .int .i64 k ∧ wr.ownsRow w.heap.size 5 1 v (n + k) ((zm.map (Value.int .u8)).take (n + k)) ∧ Below w.heap.size w wr) (fun _ i _ => 4 - (intOf i).toNat)
 case atStart => exact ⟨0, Nat.zero_le _, rfl, by rw [Nat.add_zero, A2.out]; exact hown, hbel⟩
 case round =>
  clear hown hbel hx hr
  obtain ⟨k, hk, rfl, hown, hbel⟩ := hrel
  by_cases hlt : k < 4
  ·have hsz := hbel.size
   have HZ : Hid (zm.getD (n + k) 0 = x / 256 ^ k % 256) := A1.out k hlt
   have i1 : (k : Int) < 4 := by omega
   go_wp2_with fail
   refine (byteAt_32 x hv k hlt wr).mono ?_
   rintro e w' ⟨rfl, rfl⟩
   go_wp2_with (at_builtin; refine wpList_append_own _ rfl _ _ 32 rfl w.heap.size 5 i0 (.int .u8 0) 1 1 Tryz.underlying32 hi hz0 hz1 hz2 rfl (by decide) _ _ _ rfl (hown.alloc _) ⟨wr.heap.size, 0, none⟩ 1 1 [.int .u8 (x / 256 ^ k % 256)] rfl rfl ?c1 ?c2 ?c3 ?c4 ?c5 ?_)
   case c1 => exact cell_one_new _ _ _
   case c2 => intro u hu; simp at hu; subst hu; rfl
   case c3 => unfold maxLen; omega
   case c4 => omega
   case c5 => simp; omega
   ·intro v' w1 hown' hgrow _
    have R := step_own hbel hown (by have := A4.out; omega) HZ.out hown' hgrow
    clear hown' hgrow hown hbel
    go_wp2
    go_roundw
    case rel => exact ⟨k + 1, by omega, by go_num, R.1, R.2⟩
    case measure => simp [intOf] <;> omega
  ·have e : k = 4 := by omega
   subst e
   have HO : Hid _ := hown
   have HB : Hid _ := hbel
   clear hown hbel
   go_wp2
   go_ret
   refine ⟨_, rfl, ?_, HB.out⟩
   have h := HO.out
   rwa [A3.out] at h
theorem put_64 (ao : Option Addr) (n c : Nat) (zs : List Int) (x : Int) (w : World) (hx : Seen w ao n zs) (hc : ao = none → c = 0) (hn : n + 8 ≤ 140737488355328) (hv : 0 ≤ x ∧ x < 18446744073709551616) :
  Calls Tryz.prog 46 #[.slice ao n c, .int .u64 x] w fun e w' => ∃ v, e = .returned v ∧ w'.ownsRow w.heap.size 5 1 v (n + 8) ((zs ++ leB 8 x).map (Value.int .u8)) ∧ Below w.heap.size w w' := by
 obtain ⟨i0, hi, hz0, hz1, hz2⟩ := info_parts info_byte
 have A1 : Hid (∀ k, k < 8 → (zs ++ leB 8 x).getD (n + k) 0 = x / 256 ^ k % 256) := fun k hk => by rw [app_getD _ _ _ _ hx.len, leB_at _ _ _ hk]
 have A2 : Hid (((zs ++ leB 8 x).map (Value.int .u8)).take n = zs.map (Value.int .u8)) := app_take _ _ _ hx.len
 have A3 : Hid (((zs ++ leB 8 x).map (Value.int .u8)).take (n + 8) = (zs ++ leB 8 x).map (Value.int .u8)) := app_all _ _ _ _ hx.len (leB_length _ _)
 have A4 : Hid ((zs ++ leB 8 x).length = n + 8) := by show _ = _; rw [List.length_append, hx.len, leB_length]
 generalize zs ++ leB 8 x = zm at *
 have hr := room_any ao n c 8 zs w hx hc (by decide)
 go_enter Tryz.func46, Tryz.ntmps46
 go_wp2_with (first | (go_at_call 84; with_reducible refine (width_64 _).mono ?_; rintro e w' ⟨rfl, rfl⟩) | (go_at_call 83; refine hr.mono ?_; rintro e w1 ⟨v, rfl, hown, hbel⟩))
 go_loopw [5, 11] (fun v i wr => ∃ k : Nat, k ≤ 8 ∧ i = .int .i64 k ∧ wr.ownsRow w.heap.size 5 1 v (n + k) ((zm.map (Value.int .u8)).take (n + k)) ∧ Below w.heap.size w wr) (fun _ i _ => 8 - (intOf i).toNat)
 case atStart => exact ⟨0, Nat.zero_le _, rfl, by rw [Nat.add_zero, A2.out]; exact hown, hbel⟩
 case round =>
  clear hown hbel hx hr
  obtain ⟨k, hk, rfl, hown, hbel⟩ := hrel
  by_cases hlt : k < 8
  ·have hsz := hbel.size
   have HZ : Hid (zm.getD (n + k) 0 = x / 256 ^ k % 256) := A1.out k hlt
   have i1 : (k : Int) < 8 := by omega
   go_wp2_with fail
   refine (byteAt_64 x hv k hlt wr).mono ?_
   rintro e w' ⟨rfl, rfl⟩
   go_wp2_with (at_builtin; refine wpList_append_own _ rfl _ _ 32 rfl w.heap.size 5 i0 (.int .u8 0) 1 1 Tryz.underlying32 hi hz0 hz1 hz2 rfl (by decide) _ _ _ rfl (hown.alloc _) ⟨wr.heap.size, 0, none⟩ 1 1 [.int .u8 (x / 256 ^ k % 256)] rfl rfl ?c1 ?c2 ?c3 ?c4 ?c5 ?_)
   case c1 => exact cell_one_new _ _ _
   case c2 => intro u hu; simp at hu; subst hu; rfl
   case c3 => unfold maxLen; omega
   case c4 => omega
   case c5 => simp; omega
   ·intro v' w1 hown' hgrow _
    have R := step_own hbel hown (by have := A4.out; omega) HZ.out hown' hgrow
    clear hown' hgrow hown hbel
    go_wp2
    go_roundw
    case rel => exact ⟨k + 1, by omega, by go_num, R.1, R.2⟩
    case measure => simp [intOf] <;> omega
  ·have e : k = 8 := by omega
   subst e
   have HO : Hid _ := hown
   have HB : Hid _ := hbel
   clear hown hbel
   go_wp2
   go_ret
   refine ⟨_, rfl, ?_, HB.out⟩
   have h := HO.out
   rwa [A3.out] at h
def Blk (w : World) (g : Nat) (t : TypeId) (vs : List Value) : Prop := w.heap[g]? = some (.cells vs.toArray t (0, 0))
theorem Blk.cell {w : World} {g : Nat} {t : TypeId} {vs : List Value} (h : Blk w g t vs) (j : Nat) : w.cell? ⟨g, j, none⟩ = vs[j]? := by
 rw [cell_of_row w g j _ t (0, 0) h]; simp
theorem Blk.frozen {w : World} {g : Nat} {t : TypeId} {vs : List Value} (h : Blk w g t vs) (j : Nat) : w.frozen? ⟨g, j, none⟩ = false := frozen_of_row w g j _ t h
theorem Blk.lt {w : World} {g : Nat} {t : TypeId} {vs : List Value} (h : Blk w g t vs) : g < w.heap.size := by
 rcases Nat.lt_or_ge g w.heap.size with h' | h'
 ·exact h'
 ·unfold Blk at h; rw [Array.getElem?_eq_none h'] at h; cases h
theorem Blk.block {w w' : World} {g : Nat} {t : TypeId} {vs : List Value} (h : Blk w g t vs) (e : w'.heap[g]? = w.heap[g]?) : Blk w' g t vs := e.trans h
theorem Blk.later {w w' : World} {g : Nat} {t : TypeId} {vs : List Value} (h : Blk w g t vs) {B : Nat} (hb : Below B w w') (hB : g < B) : Blk w' g t vs := h.block (hb.block g hB)
theorem Blk.kept {S : Nat → Prop} {w w' : World} {g : Nat} {t : TypeId} {vs : List Value} (h : Blk w g t vs) (hk : Kept S w w') (hS : ¬ S g) : Blk w' g t vs := h.block (hk.block g h.lt hS)
theorem Blk.drewN {w : World} {g : Nat} {t : TypeId} {vs : List Value} (h : Blk w g t vs) (k : Nat) : Blk (w.drewN k) g t vs := h
theorem Blk.drew {w : World} {g : Nat} {t : TypeId} {vs : List Value} (h : Blk w g t vs) : Blk w.drew g t vs := h
theorem Blk.set {w : World} {g : Nat} {t : TypeId} {vs : List Value} (h : Blk w g t vs) (j : Nat) (u : Value) : Blk (w.setCell ⟨g, j, none⟩ u) g t (vs.set j u) := by
 unfold Blk
 rw [heap_setCell_same w g j _ t _ h]; simp
theorem Blk.other {w : World} {g : Nat} {t : TypeId} {vs : List Value} (h : Blk w g t vs) {p : Addr} (hp : g ≠ p.block) (u : Value) : Blk (w.setCell p u) g t vs := h.block (Below.heap_setCell _ _ _ _ hp)
theorem Blk.range {w : World} {g : Nat} {t : TypeId} {xs ys zs : List Value} (h : Blk w g t (xs ++ (ys ++ zs))) : w.rangeAt g xs.length ys := fun j v hv => by
 have hj : j < ys.length := (List.getElem?_eq_some_iff.1 hv).1
 rw [h.cell, List.getElem?_append_right (Nat.le_add_right _ _), Nat.add_sub_cancel_left, List.getElem?_append_left hj]; exact hv
theorem Blk.there {w : World} {g : Nat} {t : TypeId} {vs : List Value} (h : Blk w g t vs) {o n : Nat} (hn : o + n ≤ vs.length) : w.there g o n := fun j hj =>
 ⟨by rw [h.cell, List.getElem?_eq_getElem (by omega)]; rfl, h.frozen _⟩
theorem set_mid (xs ys zs : List Value) (v y : Value) : (xs ++ (y :: (ys ++ zs))).set xs.length v = xs ++ [v] ++ (ys ++ zs) := by
 rw [List.set_append_right _ _ (Nat.le_refl _), Nat.sub_self, List.set_cons_zero]; simp
theorem Blk.setCells {g : Nat} {t : TypeId} : ∀ (us ys : List Value) {w : World} {xs zs : List Value}, us.length = ys.length → Blk w g t (xs ++ (ys ++ zs)) → Blk (w.setCells g xs.length us) g t (xs ++ (us ++ zs))
 | [], [], w, xs, zs, _, h => h
 | u :: us, y :: ys, w, xs, zs, hl, h => by
  have h1 := h.set xs.length u
  rw [List.cons_append, set_mid] at h1
  have := Blk.setCells us ys (xs := xs ++ [u]) (zs := zs) (by simpa using hl) h1
  rw [List.length_append] at this
  simpa [World.setCells] using this
theorem setCells_heap_other (b : Nat) : ∀ (vs : List Value) (o : Nat) (w : World) (k : Nat), k ≠ b → (w.setCells b o vs).heap[k]? = w.heap[k]?
 | [], _, _, _, _ => rfl
 | v :: r, o, w, k, h => by
  rw [World.setCells, setCells_heap_other b r _ _ k h]
  exact Below.heap_setCell _ _ _ _ h
theorem setCells_size (b : Nat) : ∀ (vs : List Value) (o : Nat) (w : World), (w.setCells b o vs).heap.size = w.heap.size
 | [], _, _ => rfl
 | v :: r, o, w => by
  rw [World.setCells, setCells_size b r]
  simp [World.setCell]
theorem setCells_rest (b : Nat) : ∀ (vs : List Value) (o : Nat) (w : World), (w.setCells b o vs).os = w.os ∧ (w.setCells b o vs).tape = w.tape ∧ (w.setCells b o vs).output = w.output
 | [], _, _ => ⟨rfl, rfl, rfl⟩
 | v :: r, o, w => by
  rw [World.setCells]
  exact setCells_rest b r _ _
theorem Kept.setCells {S : Nat → Prop} {a w : World} (h : Kept S a w) {b : Nat} (hb : S b) (o : Nat) (vs : List Value) : Kept S a (w.setCells b o vs) :=
 h.trans ⟨(setCells_rest b vs o w).1, (setCells_rest b vs o w).2.1, (setCells_rest b vs o w).2.2, by rw [setCells_size]; exact Nat.le_refl _, fun k _ hs => setCells_heap_other b vs o w k (fun e => hs (e ▸ hb))⟩
theorem Kept.drewN {S : Nat → Prop} {a w : World} (h : Kept S a w) (n : Nat) : Kept S a (w.drewN n) := ⟨h.os, h.tape, h.output, h.size, h.block⟩
theorem Kept.of_below {S : Nat → Prop} {w w' : World} {B : Nat} (h : Below B w w') (hS : ∀ k, k < w.heap.size → B ≤ k → S k) : Kept S w w' :=
 ⟨h.os, h.tape, h.output, h.size, fun k hk hs => h.block k (by
  rcases Nat.lt_or_ge k B with h1 | h1
  ·exact h1
  ·exact absurd (hS k hk h1) hs)⟩
theorem Kept.new {w w' : World} (S : Nat → Prop) (h : Below w.heap.size w w') : Kept S w w' := Kept.of_below h (fun k h1 h2 => by omega)
theorem one_ints (k : IntKind) (zs : List Int) : ∀ v ∈ zs.map (Value.int k), v.oneCell' = true := by
 intro v hv
 obtain ⟨z, _, rfl⟩ := List.mem_map.1 hv
 rfl
theorem wpList_alloc_new {ops : Array Oper} {rest : List Oper} {o : Oper} {a : Act} {Q : Exit → Act → World → Prop} {w : World} (hgd : o.guard = none) (t : TypeId) (ho : o.op = .alloc t) (n : Nat) (vs : List Value)
  (hz : (Tryz.prog.info? t).map (fun i => (i.zero, i.size)) = some (some (.agg vs.toArray), n))
  (h : ∀ w', Blk w' w.heap.size t vs → w'.heap.size = w.heap.size + 1 → Below w.heap.size w w' → wpList Tryz.prog ops Q rest (a.put o.dst (.pointer (some ⟨w.heap.size, 0, none⟩))) w') : wpList Tryz.prog ops Q (o :: rest) a w := by
 refine wpList_plain hgd fun K hK => ?_
 unfold Oper.wp execOp
 simp only [ho, Sem.run_bind, Instr.alloc, (zero_of_info hz).1, newVar, newRow, run_newObj_alloc, Sem.run_pure, Result.andThen_ok]
 exact hK _ _ (h _ (heap_alloc_new w _) (by simp) ((Below.refl _ _).alloc (Nat.le_refl _) _))
theorem wpList_box_new {ops : Array Oper} {rest : List Oper} {o : Oper} {a : Act} {Q : Exit → Act → World → Prop} {w : World} (hgd : o.guard = none) (t : TypeId) (x : Operand) (ho : o.op = .box t x) (vs : List Value) (hx : a.eval x = .agg vs.toArray)
  (h : ∀ w', Blk w' w.heap.size t vs → w'.heap.size = w.heap.size + 1 → Below w.heap.size w w' → wpList Tryz.prog ops Q rest (a.put o.dst (.pointer (some ⟨w.heap.size, 0, none⟩))) w') : wpList Tryz.prog ops Q (o :: rest) a w := by
 refine wpList_plain hgd fun K hK => ?_
 unfold Oper.wp execOp
 simp only [ho, hx, Sem.run_bind, Instr.box, Value.cells, newVar, newRow, run_newObj_alloc, Sem.run_pure, Result.andThen_ok]
 exact hK _ _ (h _ (heap_alloc_new w _) (by simp) ((Below.refl _ _).alloc (Nat.le_refl _) _))
theorem wpList_load_blk {ops : Array Oper} {rest : List Oper} {o : Oper} {a : Act} {Q : Exit → Act → World → Prop} {w : World} (hgd : o.guard = none) (t : TypeId) (x : Operand) (ho : o.op = .load t x) (g : Nat) (hx : a.eval x = .pointer (some ⟨g, 0, none⟩))
  (vs : List Value) (d : TypeDesc) (hb : Blk w g t vs) (hu : Tryz.prog.underlying t = some d) (hd : d.isRow = true) (hi : (Tryz.prog.info? t).map (·.size) = some vs.length)
  (h : wpList Tryz.prog ops Q rest (a.put o.dst (.agg vs.toArray)) w) : wpList Tryz.prog ops Q (o :: rest) a w :=
 wpList_load_mid hgd t x ho g 0 hx vs d (fun j v hv => by rw [Nat.zero_add, hb.cell]; exact hv) hu hd hi h
theorem wpList_store_blk {ops : Array Oper} {rest : List Oper} {o : Oper} {a : Act} {Q : Exit → Act → World → Prop} {w : World} (hgd : o.guard = none) (t t' : TypeId) (x y : Operand) (ho : o.op = .store t x y) (g : Nat) (hx : a.eval x = .pointer (some ⟨g, 0, none⟩))
  (vs us : List Value) (hy : a.eval y = .agg us.toArray) (hb : Blk w g t' vs) (hl : us.length = vs.length) (hi : (Tryz.prog.info? t).map (·.size) = some us.length) (h1 : ∀ v ∈ us, v.oneCell' = true)
  (h : ∀ w', Blk w' g t' us → w'.heap.size = w.heap.size → Kept (fun k => k = g) w w' → wpList Tryz.prog ops Q rest (a.put o.dst undef) w') : wpList Tryz.prog ops Q (o :: rest) a w := by
 refine wpList_store_mid hgd t x y ho g 0 us.toArray hx hy (hb.there (by simp; omega)) (by simpa using hi) (all_oneCell_toArray h1) (h _ ?_ ?_ ?_)
 ·have := Blk.setCells (xs := []) (zs := []) us vs hl (by simpa using hb)
  simpa using this
 ·exact setCells_size ..
 ·exact (Kept.refl _ _).setCells (S := fun k => k = g) rfl _ _
theorem take_op {md : Region.Mode} {ops : Array Oper} {Q : Exit → Act → World → Prop} {oi : Oper} {fuel : Nat} {listed : Array Bool} {a : Act} {w : World} (i : Nat) (d : Option Tmp) (v : Value) (hi : ops[i]? = some oi) (hd : oi.dst = d)
  (hs : Region.noSelect ops = true) (hf : Region.free md ops listed i = true) (hr : (Region.ready md ops listed).contains i = true) (hQ : ∀ c a w, Q (.panic c) (a.put d v) w → Q (.panic c) a w)
  (hw : Region.wanted oi (yielded ops a.tmps) = true) (hy : ∀ w, (execOp a.eval oi).run Tryz.prog w = .ok (.value v) w)
  (h : wpAny Tryz.prog md ops Q fuel (listed.setIfInBounds i true) (a.put d v) w) : wpAny Tryz.prog md ops Q (fuel + 1) listed a w := by
 subst hd
 exact wpAny_take hi hs hf hr hQ (Or.inl ⟨hw, hy⟩) h
theorem step_load {ops : Array Oper} {Q : Exit → Act → World → Prop} {o : Oper} {a : Act} {w : World} {K : Act → World → Prop} {E : Prop} (d : Option Tmp) (hdst : o.dst = d) (hw : Region.wanted o (yielded ops a.tmps) = true) (ty : TypeId) (x : Operand) (ho : o.op = .load ty x)
  (b off : Nat) (hx : a.eval x = .pointer (some ⟨b, off, none⟩)) (cs : List Value) (ds : TypeDesc) (hc : w.rangeAt b off cs) (hu : Tryz.prog.underlying ty = some ds) (hd : ds.isRow = true) (hi : (Tryz.prog.info? ty).map (·.size) = some cs.length)
  (h : K (a.put d (.agg cs.toArray)) w) : if Region.wanted o (yielded ops a.tmps) = true then Oper.wp Tryz.prog o a w K Q else E := by
 subst hdst
 rw [if_pos hw]
 exact wp_load_mid ty x ho b off hx cs ds hc hu hd hi h
theorem step_store {ops : Array Oper} {Q : Exit → Act → World → Prop} {o : Oper} {a : Act} {w : World} {K : Act → World → Prop} {E : Prop} (hdst : o.dst = none) (hw : Region.wanted o (yielded ops a.tmps) = true) (ty : TypeId) (x y : Operand) (ho : o.op = .store ty x y)
  (b off : Nat) (hx : a.eval x = .pointer (some ⟨b, off, none⟩)) (cs : List Value) (hy : a.eval y = .agg cs.toArray) (ht : w.there b off cs.length) (hi : (Tryz.prog.info? ty).map (·.size) = some cs.length) (h1 : ∀ v ∈ cs, v.oneCell' = true)
  (h : K a (w.setCells b off cs)) : if Region.wanted o (yielded ops a.tmps) = true then Oper.wp Tryz.prog o a w K Q else E := by
 rw [if_pos hw]
 refine wp_store_mid ty x y ho b off cs.toArray hx hy (by simpa using ht) (by simpa using hi) (all_oneCell_toArray h1) ?_
 rw [hdst]
 exact h
def Stp (ops : Array Oper) (Q : Exit → Act → World → Prop) (o : Oper) (a : Act) (w : World) (a' : Act) (w' : World) : Prop :=
 ∀ K : Act → World → Prop, K a' w' → if Region.wanted o (yielded ops a.tmps) = true then Oper.wp Tryz.prog o a w K Q else K (a.put o.dst undef) w
theorem one_step {md : Region.Mode} {ops : Array Oper} {Q : Exit → Act → World → Prop} {fuel : Nat} {listed : Array Bool} {a a' : Act} {w w' : World} (i : Nat) {oi : Oper} (hi : ops[i]? = some oi) (hr : Region.ready md ops listed = [i])
  (s : Stp ops Q oi a w a' w') (h : wpAny Tryz.prog md ops Q fuel (listed.setIfInBounds i true) a' w') : wpAny Tryz.prog md ops Q (fuel + 1) listed a w :=
 wpAny_ready hr (by simp) (AllReady.cons hi (fun K hK => s K (hK _ _ h)) AllReady.nil)
theorem two_steps {md : Region.Mode} {ops : Array Oper} {Q : Exit → Act → World → Prop} {fuel : Nat} {listed : Array Bool} {a a1 a2 a3 : Act} {w : World} (i j : Nat) {oi oj : Oper} (hi : ops[i]? = some oi) (hj : ops[j]? = some oj) (hij : i ≠ j)
  (hr : Region.ready md ops listed = [i, j]) (hr1 : Region.ready md ops (listed.setIfInBounds i true) = [j]) (hr2 : Region.ready md ops (listed.setIfInBounds j true) = [i])
  (s1 : Stp ops Q oi a w a1 w) (s2 : Stp ops Q oj a1 w a3 w) (t1 : Stp ops Q oj a w a2 w) (t2 : Stp ops Q oi a2 w a3 w)
  (h : wpAny Tryz.prog md ops Q fuel ((listed.setIfInBounds i true).setIfInBounds j true) a3 w) : wpAny Tryz.prog md ops Q (fuel + 2) listed a w := by
 have e : (listed.setIfInBounds i true).setIfInBounds j true = (listed.setIfInBounds j true).setIfInBounds i true := by
  apply Array.ext_getElem?
  intro k
  simp only [Array.getElem?_setIfInBounds, Array.size_setIfInBounds]
  by_cases h1 : i = k <;> by_cases h2 : j = k <;> simp_all
 refine wpAny_ready hr (by simp) (AllReady.cons hi (fun K hK => s1 K (hK _ _ (one_step j hj hr1 s2 h))) (AllReady.cons hj (fun K hK => t1 K (hK _ _ (one_step i hi hr2 t2 ?_))) AllReady.nil))
 rw [← e]; exact h
theorem wpList_build {ops : Array Oper} {rest : List Oper} {o : Oper} {a : Act} {Q : Exit → Act → World → Prop} {w : World} (hgd : o.guard = none) (t : TypeId) (parts : Array (Nat × Operand)) (ho : o.op = .build t parts) (ps : Array (Nat × Value))
  (hp : (parts.map fun (i, x) => (i, a.eval x)) = ps) (v : Value) (hrun : (Instr.build t ps).run Tryz.prog w = .ok v w) (h : wpList Tryz.prog ops Q rest (a.put o.dst v) w) : wpList Tryz.prog ops Q (o :: rest) a w := by
 refine wpList_plain hgd fun K hK => ?_
 unfold Oper.wp execOp
 simp only [ho, hp, Sem.run_bind, hrun, Sem.run_pure, Result.andThen_ok]
 exact hK _ _ h
theorem ret_blk {fn : Func} {p : Tmp} {ty : TypeId} (h : fn.results = #[.cell p ty]) {R : Ending → World → Prop} {a : Act} {w : World} (g : Nat) (vs : List Value) (d : TypeDesc) (hp : a.tmps.getD p undef = .pointer (some ⟨g, 0, none⟩))
  (hb : Blk w g ty vs) (hu : Tryz.prog.underlying ty = some d) (hd : d.isRow = true) (hi : (Tryz.prog.info? ty).map (·.size) = some vs.length) (hdef : a.defers = []) (hR : R (.returned (.agg vs.toArray)) w) : bodyPost Tryz.prog fn R .ret a w :=
 bodyPost_ret (results_cell_row h _ _ g ty vs.toArray (0, 0) d hp hb hu (by cases d <;> simp_all) (by simpa using hi)) hdef hR
theorem below_kept {S : Nat → Prop} {w w1 w2 : World} {B : Nat} (h : Below B w w1) (k : Kept S w1 w2) (hB : B ≤ w1.heap.size) (hS : ∀ j, j < B → ¬ S j) : Below B w w2 :=
 ⟨by rw [k.os, h.os], by rw [k.tape, h.tape], by rw [k.output, h.output], Nat.le_trans h.size k.size, fun j hj => by rw [k.block j (by omega) (hS j hj), h.block j hj]⟩
theorem below_chain {w w1 w2 : World} {B C : Nat} (h : Below B w w1) (k : Below C w1 w2) (hB : B ≤ C) : Below B w w2 :=
 ⟨by rw [k.os, h.os], by rw [k.tape, h.tape], by rw [k.output, h.output], Nat.le_trans h.size k.size, fun j hj => by rw [k.block j (by omega), h.block j hj]⟩
def u32s (zs : List Int) : List Value := zs.map (Value.int .u32)
def u8s (zs : List Int) : List Value := zs.map (Value.int .u8)
theorem u32s_length (zs : List Int) : (u32s zs).length = zs.length := by simp [u32s]
theorem u8s_length (zs : List Int) : (u8s zs).length = zs.length := by simp [u8s]
theorem u32s_one (zs : List Int) : ∀ v ∈ u32s zs, v.oneCell' = true := one_ints _ _
theorem u8s_one (zs : List Int) : ∀ v ∈ u8s zs, v.oneCell' = true := one_ints _ _
theorem u32s_set (zs : List Int) (j : Nat) (z : Int) : (u32s zs).set j (.int .u32 z) = u32s (zs.set j z) := by simp [u32s, List.map_set]
theorem u8s_set (zs : List Int) (j : Nat) (z : Int) : (u8s zs).set j (.int .u8 z) = u8s (zs.set j z) := by simp [u8s, List.map_set]
theorem u8s_cell {w : World} {g : Nat} {t : TypeId} {zs : List Int} (h : Blk w g t (u8s zs)) (j : Nat) (hj : j < zs.length) : w.cell? ⟨g, j, none⟩ = some (.int .u8 (zs.getD j 0)) := by
 rw [h.cell]; simp [u8s, hj, List.getD]
theorem u32s_cell {w : World} {g : Nat} {t : TypeId} {zs : List Int} (h : Blk w g t (u32s zs)) (j : Nat) (hj : j < zs.length) : w.cell? ⟨g, j, none⟩ = some (.int .u32 (zs.getD j 0)) := by
 rw [h.cell]; simp [u32s, hj, List.getD]
theorem set_next (xs : List Int) (n : Nat) (z y : Int) : (xs ++ List.replicate (n + 1) y).set xs.length z = (xs ++ [z]) ++ List.replicate n y := by
 rw [List.set_append_right _ _ (Nat.le_refl _), Nat.sub_self, List.replicate_succ, List.set_cons_zero]; simp
theorem getD_front (xs ys : List Int) (j : Nat) (hj : j < xs.length) : (xs ++ ys).getD j 0 = xs.getD j 0 := by
 simp [List.getD, List.getElem?_append_left hj]
def addW (xs ys : List Int) : List Int := List.zipWith (fun x y => (x + y) % 4294967296) xs ys
theorem addW_length (xs ys : List Int) (n : Nat) (hx : xs.length = n) (hy : ys.length = n) : (addW xs ys).length = n := by simp [addW, hx, hy]
theorem addW_at (xs ys : List Int) (n i : Nat) (hx : xs.length = n) (hy : ys.length = n) (hi : i < n) : (addW xs ys).getD i 0 = (xs.getD i 0 + ys.getD i 0) % 4294967296 := by
 have h1 : i < xs.length := by omega
 have h2 : i < ys.length := by omega
 have h3 : i < (List.zipWith (fun x y => (x + y) % 4294967296) xs ys).length := by simp; omega
 simp only [addW, List.getD]
 rw [List.getElem?_eq_getElem h3, List.getElem?_eq_getElem h1, List.getElem?_eq_getElem h2]
 simp
theorem half_set (xs ys : List Int) (n i : Nat) (hx : xs.length = n) (hy : ys.length = n) (hi : i < n) : (xs.take i ++ ys.drop i).set i (xs.getD i 0) = xs.take (i + 1) ++ ys.drop (i + 1) := by
 have e : (xs.take i).length = i := by simp; omega
 have h1 : i < xs.length := by omega
 have h2 : xs.getD i 0 = xs[i] := by simp [List.getD, h1]
 rw [List.set_append_right _ _ (by omega), e, Nat.sub_self, List.drop_eq_getElem_cons (by omega : i < ys.length), List.set_cons_zero, List.take_succ_eq_append_getElem h1, h2, List.append_assoc]
 rfl
theorem half_at (xs ys : List Int) (n i : Nat) (hx : xs.length = n) (hy : ys.length = n) (hi : i < n) : (xs.take i ++ ys.drop i).getD i 0 = ys.getD i 0 := by
 have e : (xs.take i).length = i := by simp; omega
 simp only [List.getD]
 rw [List.getElem?_append_right (by omega), e, Nat.sub_self, List.getElem?_drop, Nat.add_zero]
theorem half_length (xs ys : List Int) (n i : Nat) (hx : xs.length = n) (hy : ys.length = n) (hi : i ≤ n) : (xs.take i ++ ys.drop i).length = n := by simp; omega
inductive Exp where
 | val (v : Value)
 | blk (t : TypeId) (vs : List Value)
 | any (p : Value → World → Prop) (hp : ∀ v w w', Below w.heap.size w w' → p v w → p v w')
def Exp.ok (base : Nat) : Exp → Value → World → Prop
 | .val u, v, _ => v = u
 | .blk t vs, v, w => ∃ g, v = .pointer (some ⟨g, 0, none⟩) ∧ base ≤ g ∧ Blk w g t vs
 | .any p _, v, w => p v w
theorem vOf {base : Nat} {u v : Value} {w : World} (h : Exp.ok base (.val u) v w) : v = u := h
theorem Exp.ok_later {base : Nat} : ∀ (E : Exp) {v : Value} {w w' : World}, Below w.heap.size w w' → E.ok base v w → E.ok base v w'
 | .val _, _, _, _, _, h => h
 | .blk _ _, _, _, _, hb, ⟨g, h1, h2, h3⟩ => ⟨g, h1, h2, h3.later hb h3.lt⟩
 | .any _ hp, _, _, _, hb, h => hp _ _ _ hb h
def Does (base : Nat) (E : Exp) (ρ : Operand → Value) (o : Oper) (w : World) : Prop :=
 match (execOp ρ o).run Tryz.prog w with
 | .ok (.value v) w' => E.ok base v w' ∧ Below w.heap.size w w'
 | .ok (.enter f args) w' => Calls Tryz.prog f args w' fun e w'' => ∃ v, e = .returned v ∧ E.ok base v w'' ∧ Below w.heap.size w w''
 | _ => False
theorem Does.wp {base : Nat} {E : Exp} {a : Act} {o : Oper} {w : World} (h : Does base E a.eval o w) {K : Act → World → Prop} {Q : Exit → Act → World → Prop} (hK : ∀ v w', E.ok base v w' → Below w.heap.size w w' → K (a.put o.dst v) w') : o.wp Tryz.prog a w K Q := by
 unfold Does at h
 unfold Oper.wp
 generalize (execOp a.eval o).run Tryz.prog w = r at h ⊢
 match r, h with
 | .ok (.value v) w', h => exact hK _ _ h.1 h.2
 | .ok (.enter f args) w', h =>
  rw [Oper.upon_enter]
  refine h.mono ?_
  rintro e w'' ⟨v, rfl, h1, h2⟩
  exact hK _ _ h1 h2
theorem Does.value {base : Nat} {E : Exp} {ρ : Operand → Value} {o : Oper} {w : World} (v : Value) (h : (execOp ρ o).run Tryz.prog w = .ok (.value v) w) (hE : E.ok base v w) : Does base E ρ o w := by
 unfold Does; rw [h]; exact ⟨hE, Below.refl _ _⟩
theorem Does.call {base : Nat} {E : Exp} {ρ : Operand → Value} {o : Oper} {w : World} (f : FuncId) (args : Array Value) (h : (execOp ρ o).run Tryz.prog w = .ok (.enter f args) w) (hC : Calls Tryz.prog f args w fun e w'' => ∃ v, e = .returned v ∧ E.ok base v w'' ∧ Below w.heap.size w w'') : Does base E ρ o w := by
 unfold Does; rw [h]; exact hC
theorem Does.alloc {base : Nat} {ρ : Operand → Value} {o : Oper} {w : World} (t : TypeId) (ho : o.op = .alloc t) (n : Nat) (vs : List Value) (hz : (Tryz.prog.info? t).map (fun i => (i.zero, i.size)) = some (some (.agg vs.toArray), n)) (hb : base ≤ w.heap.size) : Does base (.blk t vs) ρ o w := by
 unfold Does execOp
 simp only [ho, Sem.run_bind, Instr.alloc, (zero_of_info hz).1, newVar, newRow, run_newObj_alloc, Sem.run_pure, Result.andThen_ok]
 exact ⟨⟨_, rfl, hb, heap_alloc_new w _⟩, (Below.refl _ _).alloc (Nat.le_refl _) _⟩
theorem Does.box {base : Nat} {ρ : Operand → Value} {o : Oper} {w : World} (t : TypeId) (x : Operand) (ho : o.op = .box t x) (vs : List Value) (hx : ρ x = .agg vs.toArray) (hb : base ≤ w.heap.size) : Does base (.blk t vs) ρ o w := by
 unfold Does execOp
 simp only [ho, hx, Sem.run_bind, Instr.box, Value.cells, newVar, newRow, run_newObj_alloc, Sem.run_pure, Result.andThen_ok]
 exact ⟨⟨_, rfl, hb, heap_alloc_new w _⟩, (Below.refl _ _).alloc (Nat.le_refl _) _⟩
theorem Does.load {base : Nat} {ρ : Operand → Value} {o : Oper} {w : World} (t : TypeId) (x : Operand) (ho : o.op = .load t x) (b off : Nat) (hx : ρ x = .pointer (some ⟨b, off, none⟩)) (cs : List Value) (d : TypeDesc) (hc : w.rangeAt b off cs) (hu : Tryz.prog.underlying t = some d) (hd : d.isRow = true) (hi : (Tryz.prog.info? t).map (·.size) = some cs.length) :
  Does base (.val (.agg cs.toArray)) ρ o w := by
 refine Does.value _ ?_ rfl
 unfold execOp
 simp only [ho, hx, Instr.loadAt, Instr.sureAddr, Sem.run_bind, Sem.run_pure, Result.andThen_ok, run_loadVar_mid w b off t cs d hc hu hd hi]
theorem Does.build {base : Nat} {ρ : Operand → Value} {o : Oper} {w : World} (t : TypeId) (parts : Array (Nat × Operand)) (ho : o.op = .build t parts) (ps : Array (Nat × Value)) (hp : (parts.map fun (i, x) => (i, ρ x)) = ps) (v : Value) (hrun : (Instr.build t ps).run Tryz.prog w = .ok v w) : Does base (.val v) ρ o w := by
 refine Does.value _ ?_ rfl
 unfold execOp
 simp only [ho, hp, Sem.run_bind, hrun, Sem.run_pure, Result.andThen_ok]
def Deps (base : Nat) (ops : Array Oper) (E : List Exp) (j : Nat) (a : Act) (w : World) : Prop :=
 ∀ k t, ((ops[k]?).bind (·.dst)) = some t → ((ops[j]?).map (fun o => o.after.any fun e => Region.binds .any e && e.on == k)).getD false = true → k + 1 < ops.size → (E.getD k (.val undef)).ok base (a.tmps.getD t undef) w
def Steps' (base : Nat) (ops : Array Oper) (E : List Exp) (a0 : Act) (w0 : World) : Nat → List Oper → Prop
 | _, [] => True
 | _, [_] => True
 | j, o :: rest => (∀ a w, Below w0.heap.size w0 w → (∀ t, ((List.range (ops.size - 1)).all fun k => ((ops[k]?).bind (·.dst)) != some t) = true → a.tmps.getD t undef = a0.tmps.getD t undef) → Deps base ops E j a w → Does base (E.getD j (.val undef)) a.eval o w) ∧ Steps' base ops E a0 w0 (j + 1) rest
theorem Steps'.one (base : Nat) (ops : Array Oper) (E : List Exp) (a0 : Act) (w0 : World) (j : Nat) (o : Oper) : Steps' base ops E a0 w0 j [o] := trivial
theorem Steps'.cons {base : Nat} {ops : Array Oper} {E : List Exp} {a0 : Act} {w0 : World} {j : Nat} {o o' : Oper} {rest : List Oper}
  (h : ∀ a w, Below w0.heap.size w0 w → (∀ t, ((List.range (ops.size - 1)).all fun k => ((ops[k]?).bind (·.dst)) != some t) = true → a.tmps.getD t undef = a0.tmps.getD t undef) → Deps base ops E j a w → Does base (E.getD j (.val undef)) a.eval o w)
  (hr : Steps' base ops E a0 w0 (j + 1) (o' :: rest)) : Steps' base ops E a0 w0 j (o :: o' :: rest) := ⟨h, hr⟩
theorem Steps'.at {base : Nat} {ops : Array Oper} {E : List Exp} {a0 : Act} {w0 : World} : ∀ {l : List Oper} {j : Nat}, Steps' base ops E a0 w0 j l → ∀ i o, l[i]? = some o → i + 1 < l.length →
  ∀ a w, Below w0.heap.size w0 w → (∀ t, ((List.range (ops.size - 1)).all fun k => ((ops[k]?).bind (·.dst)) != some t) = true → a.tmps.getD t undef = a0.tmps.getD t undef) → Deps base ops E (j + i) a w → Does base (E.getD (j + i) (.val undef)) a.eval o w
 | [], _, _, i, o, hi, _ => by cases hi
 | [_], _, _, i, o, _, hl => by simp at hl
 | x :: y :: rest, j, h, 0, o, hi, _ => by
  simp at hi; subst hi; exact h.1
 | x :: y :: rest, j, h, i + 1, o, hi, hl => by
  have := Steps'.at h.2 i o (by simpa using hi) (by simpa using hl)
  rwa [show j + 1 + i = j + (i + 1) by omega] at this
def Ends (base : Nat) (E : List Exp) (Q : Exit → Act → World → Prop) (w : World) : Nat → List Oper → Act → Prop
 | _, [], _ => False
 | _, [o], a => o.wp Tryz.prog a w (fun a' w' => Q .normal a' w') (NoPanic Q)
 | j, o :: rest, a => ∀ v, (E.getD j (.val undef)).ok base v w → Ends base E Q w (j + 1) rest (a.put o.dst v)
theorem Ends.cons {base : Nat} {E : List Exp} {Q : Exit → Act → World → Prop} {w : World} {j : Nat} {o o' : Oper} {rest : List Oper} {a : Act}
  (h : ∀ v, (E.getD j (.val undef)).ok base v w → Ends base E Q w (j + 1) (o' :: rest) (a.put o.dst v)) : Ends base E Q w j (o :: o' :: rest) a := h
theorem Ends.one {base : Nat} {E : List Exp} {Q : Exit → Act → World → Prop} {w : World} {j : Nat} {o : Oper} {a : Act} (h : o.wp Tryz.prog a w (fun a' w' => Q .normal a' w') (NoPanic Q)) : Ends base E Q w j [o] a := h
theorem Ends.val {base : Nat} {E : List Exp} {Q : Exit → Act → World → Prop} {w : World} {j : Nat} {o o' : Oper} {rest : List Oper} {a : Act} (V : Value) (hE : E.getD j (.val undef) = .val V)
  (h : Ends base E Q w (j + 1) (o' :: rest) (a.put o.dst V)) : Ends base E Q w j (o :: o' :: rest) a := Ends.cons fun v hv => by
 rw [hE] at hv
 have : v = V := hv
 rw [this]; exact h
theorem Ends.blk {base : Nat} {E : List Exp} {Q : Exit → Act → World → Prop} {w : World} {j : Nat} {o o' : Oper} {rest : List Oper} {a : Act} (t : TypeId) (vs : List Value) (hE : E.getD j (.val undef) = .blk t vs)
  (h : ∀ g, base ≤ g → Blk w g t vs → Ends base E Q w (j + 1) (o' :: rest) (a.put o.dst (.pointer (some ⟨g, 0, none⟩)))) : Ends base E Q w j (o :: o' :: rest) a := Ends.cons fun v hv => by
 rw [hE] at hv
 obtain ⟨g, rfl, h1, h2⟩ := hv
 exact h g h1 h2
theorem Ends.any {base : Nat} {E : List Exp} {Q : Exit → Act → World → Prop} {w : World} {j : Nat} {o o' : Oper} {rest : List Oper} {a : Act} (p : Value → World → Prop) (hp : ∀ v w w', Below w.heap.size w w' → p v w → p v w') (hE : E.getD j (.val undef) = .any p hp)
  (h : ∀ v, p v w → Ends base E Q w (j + 1) (o' :: rest) (a.put o.dst v)) : Ends base E Q w j (o :: o' :: rest) a := Ends.cons fun v hv => by
 rw [hE] at hv
 exact h v hv
def fills (b : Act) : List Oper → Act → Act
 | [], a => a
 | [_], a => a
 | o :: rest, a => fills b rest (a.put o.dst ((o.dst.map (b.tmps.getD · undef)).getD undef))
theorem Ends.at {base : Nat} {E : List Exp} {Q : Exit → Act → World → Prop} {w : World} (b : Act) : ∀ {l : List Oper} {j : Nat} {a : Act}, l ≠ [] → Ends base E Q w j l a →
  (∀ i o, l[i]? = some o → i + 1 < l.length → ∃ t, o.dst = some t ∧ (E.getD (j + i) (.val undef)).ok base (b.tmps.getD t undef) w) →
  ∃ o, l.getLast? = some o ∧ o.wp Tryz.prog (fills b l a) w (fun a' w' => Q .normal a' w') (NoPanic Q)
 | [], _, _, h, _, _ => absurd rfl h
 | [o], _, _, _, h, _ => ⟨o, rfl, h⟩
 | x :: y :: rest, j, a, _, h, hv => by
  obtain ⟨t, h1, h2⟩ := hv 0 x rfl (by simp)
  have := Ends.at b (l := y :: rest) (j := j + 1) (by simp) (h _ h2) (fun i o hi hl => by
   have := hv (i + 1) o (by simpa using hi) (by simpa using hl)
   rwa [show j + (i + 1) = j + 1 + i by omega] at this)
  obtain ⟨o, ho, hw⟩ := this
  refine ⟨o, by simpa using ho, ?_⟩
  simpa [fills, h1] using hw
theorem fills_size (b : Act) : ∀ (l : List Oper) (a : Act), (fills b l a).tmps.size = a.tmps.size ∧ (fills b l a).defers = a.defers
 | [], a => ⟨rfl, rfl⟩
 | [_], a => ⟨rfl, rfl⟩
 | o :: y :: rest, a => by
  rw [fills]
  ·have := fills_size b (y :: rest) (a.put o.dst ((o.dst.map (b.tmps.getD · undef)).getD undef))
   rw [this.1, this.2]
   cases o.dst <;> simp [Act.put]
  ·simp
theorem fills_slot (b : Act) (t : Nat) : ∀ (l : List Oper) (a : Act), b.tmps.size = a.tmps.size → (b.tmps.getD t undef = a.tmps.getD t undef ∨ ∃ i o, l[i]? = some o ∧ i + 1 < l.length ∧ o.dst = some t) → (fills b l a).tmps.getD t undef = b.tmps.getD t undef
 | [], a, _, h => by
  rcases h with h | ⟨i, o, h, _⟩
  ·exact h.symm
  ·cases h
 | [_], a, _, h => by
  rcases h with h | ⟨i, o, h, h2, _⟩
  ·exact h.symm
  ·simp at h2
 | x :: y :: rest, a, hs, h => by
  rw [fills]
  ·refine fills_slot b t (y :: rest) _ ?_ ?_
   ·cases x.dst <;> simp [Act.put, hs]
   ·by_cases hx : x.dst = some t
    ·left
     rw [hx]
     simp only [Act.put, Option.map_some, Option.getD_some]
     simp only [Array.getD_eq_getD_getElem?, Array.getElem?_setIfInBounds]
     by_cases hlt : t < a.tmps.size
     ·simp [hlt]
     ·simp [hlt, hs]
    ·rcases h with h | ⟨i, o, h1, h2, h3⟩
     ·left
      rw [h]
      cases hd : x.dst with
      | none => simp [Act.put]
      | some d =>
       have : d ≠ t := fun e => hx (by rw [hd, e])
       simp only [Act.put, Array.getD_eq_getD_getElem?, Array.getElem?_setIfInBounds]
       simp [this]
     ·cases i with
      | zero => simp at h1; subst h1; exact absurd h3 hx
      | succ i => right; exact ⟨i, o, by simpa using h1, by simpa using h2, h3⟩
  ·simp
theorem act_ext {a b : Act} (hs : a.tmps.size = b.tmps.size) (ht : ∀ t, a.tmps.getD t undef = b.tmps.getD t undef) (hd : a.defers = b.defers) : a = b := by
 cases a; cases b
 simp only [Act.mk.injEq] at *
 refine ⟨Array.ext hs fun i h1 h2 => ?_, hd⟩
 have := ht i
 simpa [Array.getD, h1, h2] using this
def plainOps (ops : Array Oper) : Bool :=
 (List.range (ops.size - 1)).all (fun j => ((ops[j]?).map (fun o => o.guard.isNone && o.dst.isSome)).getD false) &&
 (List.range (ops.size - 1)).all (fun j => (List.range (ops.size - 1)).all fun k => j == k || ((ops[j]?).bind (·.dst)) != ((ops[k]?).bind (·.dst))) &&
 ((ops[ops.size - 1]?).map (fun o => o.guard.isNone && (List.range (ops.size - 1)).all (fun k => o.after.any fun e => Region.binds .any e && e.on == k))).getD false &&
 (List.range ops.size).all (fun j => ((ops[j]?).map (fun o => o.after.all fun e => !Region.binds .any e || decide (e.on < j))).getD false)
theorem range_all {n : Nat} {p : Nat → Bool} (h : (List.range n).all p = true) (j : Nat) (hj : j < n) : p j = true := List.all_eq_true.1 h j (List.mem_range.2 hj)
theorem wanted_plain {o : Oper} (h : o.guard.isNone = true) (f : Nat → Option Bool) : Region.wanted o f = true := by
 have : o.guard = none := Option.isNone_iff_eq_none.1 h
 simp [Region.wanted, this]
theorem least_false (f : Nat → Bool) : ∀ (n : Nat), f n = false → ∃ i, i ≤ n ∧ f i = false ∧ ∀ k, k < i → f k = true
 | 0, h => ⟨0, Nat.le_refl _, h, fun k hk => by omega⟩
 | n + 1, h => by
  by_cases h' : ∃ k, k ≤ n ∧ f k = false
  ·obtain ⟨k, hk, hf⟩ := h'
   obtain ⟨i, h1, h2, h3⟩ := least_false f k hf
   exact ⟨i, by omega, h2, h3⟩
  ·refine ⟨n + 1, Nat.le_refl _, h, fun k hk => ?_⟩
   cases hf : f k with
   | true => rfl
   | false => exact absurd ⟨k, by omega, hf⟩ h'
theorem region_inv {id : Nat} {ops : Array Oper} {Q : Exit → Act → World → Prop} {a0 : Act} {w0 : World} (E : List Exp) (hm : Tryz.prog.follows .mixedOrders = true) (hp : plainOps ops = true)
  (hin : (List.range (ops.size - 1)).all (fun j => ((ops[j]?).map (fun o => (o.dst.map (fun t => decide (t < a0.tmps.size))).getD false)).getD false) = true)
  (hs : Steps' w0.heap.size ops E a0 w0 0 ops.toList) (he : ∀ w, Below w0.heap.size w0 w → Ends w0.heap.size E Q w 0 ops.toList a0) : (Code.region id ops true).wp Tryz.prog Q a0 w0 := by
 simp only [plainOps, Bool.and_eq_true] at hp
 obtain ⟨⟨⟨hp1, hp2⟩, hp3⟩, hp4⟩ := hp
 have hne : ops.size - 1 < ops.size := by
  rcases Nat.eq_zero_or_pos ops.size with h | h
  ·rw [Array.getElem?_eq_none (by omega)] at hp3; simp at hp3
  ·omega
 have own : ∀ j o, ops[j]? = some o → j + 1 < ops.size → o.guard.isNone = true ∧ ∃ t, o.dst = some t ∧ t < a0.tmps.size := by
  intro j o ho hj
  have h1 := range_all hp1 j (by omega)
  have h2 := range_all hin j (by omega)
  simp only [ho, Option.map_some, Option.getD_some, Bool.and_eq_true] at h1 h2
  obtain ⟨t, ht⟩ := Option.isSome_iff_exists.1 h1.2
  rw [ht] at h2
  exact ⟨h1.1, t, ht, by simpa using h2⟩
 have apart : ∀ j k o o' t, ops[j]? = some o → ops[k]? = some o' → j + 1 < ops.size → k + 1 < ops.size → o.dst = some t → o'.dst = some t → j = k := by
  intro j k o o' t ho ho' hj hk ht ht'
  have h1 := range_all (range_all hp2 j (by omega)) k (by omega)
  simp only [ho, ho', Option.bind_some, ht, ht', Bool.or_eq_true, beq_iff_eq] at h1
  rcases h1 with h1 | h1
  ·exact h1
  ·simp at h1
 refine wp_region_noPanic (wp_region_any hm ?_)
 have main : ∀ (n : Nat) (l : Array Bool) (a : Act) (w : World), l.size = ops.size → Below w0.heap.size w0 w → a.tmps.size = a0.tmps.size → a.defers = a0.defers →
   l.getD (ops.size - 1) true = false →
   (∀ t, (∀ j o, ops[j]? = some o → j + 1 < ops.size → o.dst = some t → l.getD j true = false) → a.tmps.getD t undef = a0.tmps.getD t undef) →
   (∀ j o t, ops[j]? = some o → j + 1 < ops.size → o.dst = some t → l.getD j true = true → (E.getD j (.val undef)).ok w0.heap.size (a.tmps.getD t undef) w) →
   ((List.range ops.size).filter fun i => !l.getD i true).length ≤ n →
   wpAny Tryz.prog .any ops (NoPanic Q) n l a w := by
  intro n
  induction n with
  | zero =>
   intro l a w hl hb hsz hdf hlast hold hnew hc
   have : ops.size - 1 ∈ (List.range ops.size).filter fun i => !l.getD i true := List.mem_filter.2 ⟨List.mem_range.2 hne, by rw [hlast]; rfl⟩
   have := List.length_pos_of_mem this
   omega
  | succ n ih =>
   intro l a w hl hb hsz hdf hlast hold hnew hc
   have hcount : ∀ i, i < ops.size → l.getD i true = false → ((List.range ops.size).filter fun k => !(l.setIfInBounds i true).getD k true).length ≤ n := by
    intro i hi hli
    have hlt : ((List.range ops.size).filter fun k => !(l.setIfInBounds i true).getD k true).length < ((List.range ops.size).filter fun k => !l.getD k true).length := by
     have e : ((List.range ops.size).filter fun k => !(l.setIfInBounds i true).getD k true) = ((List.range ops.size).filter fun k => !l.getD k true).filter (fun k => k != i) := by
      rw [List.filter_filter]
      refine List.filter_congr fun k hk => ?_
      by_cases hki : k = i
      ·subst hki; simp [Array.getD, hl, hi]
      ·rw [getD_set_ne true (Ne.symm hki)]; simp [hki]
     rw [e]
     refine List.length_filter_lt_length_iff_exists.2 ⟨i, List.mem_filter.2 ⟨List.mem_range.2 hi, by rw [hli]; rfl⟩, by simp⟩
    omega
   refine ⟨fun h0 => ?_, fun i hi => ?_⟩
   ·exfalso
    obtain ⟨i, h1, h2, h3⟩ := least_false (fun k => l.getD k true) (ops.size - 1) hlast
    have hi : i < ops.size := by omega
    have : i ∈ Region.ready .any ops l := by
     refine mem_ready.2 ⟨h2, ops[i], by simp [hi], fun e he hbd => ?_⟩
     have h4 := range_all hp4 i hi
     simp only [Array.getElem?_eq_getElem hi, Option.map_some, Option.getD_some] at h4
     have h5 := Array.all_eq_true_iff_forall_mem.1 h4 e he
     simp only [hbd, Bool.not_true, Bool.false_or, decide_eq_true_eq] at h5
     have h6 := h3 e.on h5
     simp only [Array.getD] at h6 ⊢
     rw [dif_pos (by omega)] at h6 ⊢
     exact h6
    rw [h0] at this
    cases this
   ·obtain ⟨hun, o, ho, hall⟩ := mem_ready.1 hi
    have hilt : i < ops.size := (Array.getElem?_eq_some_iff.1 ho).1
    by_cases hil : i + 1 < ops.size
    ·obtain ⟨hgd, t, hdt, htl⟩ := own i o ho hil
     have hdo := Steps'.at hs i o (by simpa using ho) (by simpa using hil) a w hb (fun t' ht' => hold t' fun j oj hoj hj hdj => by
       have := range_all ht' j (by omega)
       simp only [hoj, Option.bind_some, hdj] at this
       simp at this) (fun k t' hk hdep hkl => by
       obtain ⟨ok, hok⟩ : ∃ ok, ops[k]? = some ok := ⟨ops[k]'(by omega), by simp⟩
       rw [hok] at hk
       refine hnew k ok t' hok hkl hk ?_
       rw [Nat.zero_add, ho] at hdep
       simp only [Option.map_some, Option.getD_some, Array.any_eq_true, Bool.and_eq_true, beq_iff_eq] at hdep
       obtain ⟨x, hx, hbd, hon⟩ := hdep
       have := hall _ (Array.getElem_mem hx) hbd
       rw [hon] at this
       simp only [Array.getD] at this ⊢
       rw [dif_pos (by omega)] at this ⊢
       exact this)
     rw [Nat.zero_add] at hdo
     unfold wpOp
     rw [ho]
     simp only [wanted_plain hgd, if_true]
     refine .inl (hdo.wp fun v w' hv hbw => ?_)
     rw [hdt]
     refine ih _ _ _ (by simpa using hl) (below_chain hb hbw hb.size) (by simpa [Act.put] using hsz) (by simpa [Act.put] using hdf) ?_ ?_ ?_ (hcount i hilt hun)
     ·rw [getD_set_ne true (by omega)]; exact hlast
     ·intro t' ht'
      have htt : t ≠ t' := fun e => by
       have := ht' i o ho hil (by rw [hdt, e])
       simp [Array.getD, hl, hilt] at this
      simp only [Act.put, Array.getD_eq_getD_getElem?, Array.getElem?_setIfInBounds, if_neg htt]
      rw [← Array.getD_eq_getD_getElem?, ← Array.getD_eq_getD_getElem?]
      refine hold t' fun j oj hoj hj hdj => ?_
      have h1 := ht' j oj hoj hj hdj
      by_cases hji : i = j
      ·subst hji; exact hun
      ·rwa [getD_set_ne true hji] at h1
     ·intro j oj t' hoj hj hdj hlj
      by_cases hji : i = j
      ·subst hji
       rw [ho] at hoj
       cases hoj
       rw [hdt] at hdj
       cases hdj
       have : (a.put (some t) v).tmps.getD t undef = v := by simp [Act.put, Array.getD, hsz, htl]
       rw [this]; exact hv
      ·rw [getD_set_ne true hji] at hlj
       have htt : t ≠ t' := fun e => hji (apart i j o oj t ho hoj hil hj hdt (by rw [hdj, e]))
       have h1 := hnew j oj t' hoj hj hdj hlj
       have : (a.put (some t) v).tmps.getD t' undef = a.tmps.getD t' undef := by
        simp only [Act.put, Array.getD_eq_getD_getElem?, Array.getElem?_setIfInBounds, if_neg htt]
       rw [this]
       exact Exp.ok_later _ hbw h1
    ·obtain rfl : i = ops.size - 1 := by omega
     simp only [ho, Option.map_some, Option.getD_some, Bool.and_eq_true] at hp3
     have hlisted : ∀ k, k + 1 < ops.size → l.getD k true = true := by
      intro k hk
      have h1 := range_all hp3.2 k (by omega)
      simp only [Array.any_eq_true, Bool.and_eq_true, beq_iff_eq] at h1
      obtain ⟨x, hx, hbd, hon⟩ := h1
      have := hall _ (Array.getElem_mem hx) hbd
      rw [hon] at this
      simp only [Array.getD] at this ⊢
      rw [dif_pos (by omega)] at this ⊢
      exact this
     obtain ⟨o', ho', hw⟩ := Ends.at a (l := ops.toList) (j := 0) (a := a0) (fun h => by rw [Array.toList_eq_nil_iff] at h; subst h; simp at hne) (he w hb) (fun k ok hk hkl => by
      have hk' : ops[k]? = some ok := by simpa using hk
      have hkl' : k + 1 < ops.size := by simpa using hkl
      obtain ⟨_, t, hdt, htl⟩ := own k ok hk' hkl'
      refine ⟨t, hdt, ?_⟩
      rw [Nat.zero_add]
      exact hnew k ok t hk' hkl' hdt (hlisted k hkl'))
     have hoo : o' = o := by
      rw [List.getLast?_eq_getElem?] at ho'
      have h2 : ops[ops.size - 1]? = some o' := by simpa using ho'
      rw [ho] at h2
      exact (Option.some.inj h2).symm
     subst hoo
     have hfill : fills a ops.toList a0 = a := by
      have hz := fills_size a ops.toList a0
      refine act_ext (by rw [hz.1, hsz]) (fun t => ?_) (by rw [hz.2, hdf])
      refine fills_slot a t ops.toList a0 hsz ?_
      by_cases hx : ∃ k ok, ops[k]? = some ok ∧ k + 1 < ops.size ∧ ok.dst = some t
      ·obtain ⟨k, ok, h1, h2, h3⟩ := hx
       exact .inr ⟨k, ok, by simpa using h1, by simpa using h2, h3⟩
      ·exact .inl (hold t fun j oj hoj hj hdj => absurd ⟨j, oj, hoj, hj, hdj⟩ hx)
     rw [hfill] at hw
     unfold wpOp
     rw [ho]
     simp only [wanted_plain hp3.1, if_true]
     refine .inl (Oper.wp_mono (fun a' w' hq => wpAny_done ?_ (NoPanic.normal hq) _) hw)
     refine List.filter_eq_nil_iff.2 fun k hk => ?_
     have hk' : k < ops.size := List.mem_range.1 hk
     have : (l.setIfInBounds (ops.size - 1) true).getD k true = true := by
      by_cases hkl : k + 1 < ops.size
      ·rw [getD_set_ne true (by omega)]; exact hlisted k hkl
      ·obtain rfl : k = ops.size - 1 := by omega
       simp [Array.getD, hl, hne]
     rw [this]; simp
 refine main _ _ _ _ (by simp) ⟨rfl, rfl, rfl, Nat.le_refl _, fun _ _ => rfl⟩ rfl rfl (by simp [Array.getD, hne]) (fun t _ => rfl) (fun j o t ho hj hd hl => ?_) ?_
 ·exfalso
  have : j < ops.size := by omega
  simp [Array.getD, this] at hl
 ·have := List.length_filter_le (fun i => !(Array.replicate ops.size false).getD i true) (List.range ops.size)
  simpa using this
theorem last_store {o : Oper} {a : Act} {w : World} {K : Act → World → Prop} {Q : Exit → Act → World → Prop} (ty : TypeId) (x y : Operand) (ho : o.op = .store ty x y) (hdst : o.dst = none) (b : Nat) (hx : a.eval x = .pointer (some ⟨b, 0, none⟩)) (t : TypeId) (vs cs : List Value) (hy : a.eval y = .agg cs.toArray) (hb : Blk w b t vs) (hl : cs.length = vs.length)
  (hi : (Tryz.prog.info? ty).map (·.size) = some cs.length) (h1 : ∀ v ∈ cs, v.oneCell' = true) (h : ∀ w', Blk w' b t cs → w'.heap.size = w.heap.size → Kept (fun k => k = b) w w' → K a w') : o.wp Tryz.prog a w K Q := by
 refine wp_store_mid ty x y ho b 0 cs.toArray hx hy (by have := hb.there (o := 0) (n := cs.toArray.size) (by simp; omega); simpa using this) (by simpa using hi) (all_oneCell_toArray h1) ?_
 rw [hdst]
 refine h _ ?_ (setCells_size ..) ((Kept.refl _ _).setCells (S := fun k => k = b) rfl _ _)
 have := Blk.setCells (xs := []) (zs := []) cs vs hl (by simpa using hb)
 simpa using this
theorem last_assign {o : Oper} {a : Act} {w : World} {K : Act → World → Prop} {Q : Exit → Act → World → Prop} (x : Operand) (ho : o.op = .assign x) (d : Option Tmp) (hdst : o.dst = d) (v : Value) (hx : a.eval x = v) (h : K (a.put d v) w) : o.wp Tryz.prog a w K Q := by
 subst hdst
 unfold Oper.wp execOp
 simp only [ho, hx, Sem.run_pure]
 exact h
theorem zeroElem : (Tryz.prog.info? 116).map (fun i => (i.zero, i.size)) = some (some (.agg (u64s [0, 0, 0, 0, 0]).toArray), 5) := by kernel_rfl
theorem sizeElem : (Tryz.prog.info? 116).map (·.size) = some 5 := by kernel_rfl
theorem sizeA5 : (Tryz.prog.info? 114).map (·.size) = some 5 := by kernel_rfl
theorem carry_any (g : Nat) (a b c d e : Int) (w : World) (hB : Blk w g 116 (u64s [a, b, c, d, e])) (ha : 0 ≤ a ∧ a < 1152921504606846976) (hb : 0 ≤ b ∧ b < 1152921504606846976) (hc : 0 ≤ c ∧ c < 1152921504606846976) (hd : 0 ≤ d ∧ d < 1152921504606846976) (he : 0 ≤ e ∧ e < 1152921504606846976) :
  Calls Tryz.prog 167 #[.pointer (some ⟨g, 0, none⟩)] w fun x w' => x = .returned (.tuple #[]) ∧ Blk w' g 116 (u64s (cr a b c d e)) ∧ Kept (fun k => k = g) w w' := by
 have c0 : w.cell? ⟨g, 0, none⟩ = some (.int .u64 a) := hB.cell 0
 have c1 : w.cell? ⟨g, 1, none⟩ = some (.int .u64 b) := hB.cell 1
 have c2 : w.cell? ⟨g, 2, none⟩ = some (.int .u64 c) := hB.cell 2
 have c3 : w.cell? ⟨g, 3, none⟩ = some (.int .u64 d) := hB.cell 3
 have c4 : w.cell? ⟨g, 4, none⟩ = some (.int .u64 e) := hB.cell 4
 have HB : Hid (Blk w g 116 (u64s [a, b, c, d, e])) := hB
 clear hB
 go_enter Tryz.func167, Tryz.ntmps167
 go_wp2_with fail
 go_quiet (fail)
 go_wp2_with fail
 go_quiet (fail)
 go_wp2_with fail
 go_loopw [38] (fun i wr => ∃ (k : Nat), k ≤ 5 ∧ i = .int .i64 k ∧ Blk wr g 116 (u64s (lowK k [a, b, c, d, e])) ∧ Kept (fun x => x = g) w wr) (fun i _ => 5 - (intOf i).toNat)
 case atStart => exact ⟨0, by omega, rfl, HB.out, Kept.drewN (Kept.drewN (Kept.refl _ _) _) _⟩
 case round =>
  obtain ⟨k, hk, rfl, hblk, hkp⟩ := hrel
  by_cases hlt : k < 5
  ·obtain ⟨X, hX⟩ : ∃ X, [a, b, c, d, e][k]'hlt = X := ⟨_, rfl⟩
   have hX2 : 0 ≤ X ∧ X < 18446744073709551616 := by
    match k, hlt, hX with
    | 0, _, h => subst h; exact ⟨ha.1, by have := ha.2; show a < _; omega⟩
    | 1, _, h => subst h; exact ⟨hb.1, by have := hb.2; show b < _; omega⟩
    | 2, _, h => subst h; exact ⟨hc.1, by have := hc.2; show c < _; omega⟩
    | 3, _, h => subst h; exact ⟨hd.1, by have := hd.2; show d < _; omega⟩
    | 4, _, h => subst h; exact ⟨he.1, by have := he.2; show e < _; omega⟩
   have ck : wr.cell? ⟨g, k, none⟩ = some (.int .u64 X) := by
    rw [hblk.cell, u64s, List.getElem?_map, lowK_at k [a, b, c, d, e] hlt, List.getElem?_eq_getElem (l := [a, b, c, d, e]) hlt, hX]; rfl
   have fg := hblk.frozen k
   have i1 : (k : Int) < 5 := by omega
   have i3 : (0 : Int) ≤ (k : Int) := by omega
   have eX := and51 X hX2.1 hX2.2
   have HQ : Hid (Blk wr g 116 (u64s (lowK k [a, b, c, d, e])) ∧ Kept (fun x => x = g) w wr ∧ [a, b, c, d, e][k]'hlt = X) := ⟨hblk, hkp, hX⟩
   clear hblk hkp hX hX2
   clear c0 c1 c2 c3 c4
   go_wp2_with fail
   go_region_with fail
   go_wp2_with fail
   go_roundw
   case rel =>
    have R := (HQ.out.1.set k (.int .u64 (X % 2251799813685248))).drew
    rw [← HQ.out.2.2, u64s_set, lowK_set k [a, b, c, d, e] hlt, HQ.out.2.2] at R
    exact ⟨k + 1, by omega, by go_num, R, (HQ.out.2.1.setCell rfl _).drewN 1⟩
   case measure => simp [intOf]; omega
  ·obtain rfl : k = 5 := by omega
   have hW : Blk wr g 116 (u64s [a % 2251799813685248, b % 2251799813685248, c % 2251799813685248, d % 2251799813685248, e % 2251799813685248]) := hblk
   have d0 : wr.cell? ⟨g, 0, none⟩ = some (.int .u64 (a % 2251799813685248)) := hW.cell 0
   have d1 : wr.cell? ⟨g, 1, none⟩ = some (.int .u64 (b % 2251799813685248)) := hW.cell 1
   have d2 : wr.cell? ⟨g, 2, none⟩ = some (.int .u64 (c % 2251799813685248)) := hW.cell 2
   have d3 : wr.cell? ⟨g, 3, none⟩ = some (.int .u64 (d % 2251799813685248)) := hW.cell 3
   have d4 : wr.cell? ⟨g, 4, none⟩ = some (.int .u64 (e % 2251799813685248)) := hW.cell 4
   have f0 := hW.frozen 0
   have f1 := hW.frozen 1
   have f2 := hW.frozen 2
   have f3 := hW.frozen 3
   have f4 := hW.frozen 4
   have w0 : IntKind.u64.wrap (e / 2251799813685248 * 19) = e / 2251799813685248 * 19 := by rw [IntKind.wrap_u64]; omega
   have w1 : IntKind.u64.wrap (a % 2251799813685248 + e / 2251799813685248 * 19) = a % 2251799813685248 + e / 2251799813685248 * 19 := by rw [IntKind.wrap_u64]; omega
   have w2 : IntKind.u64.wrap (b % 2251799813685248 + a / 2251799813685248) = b % 2251799813685248 + a / 2251799813685248 := by rw [IntKind.wrap_u64]; omega
   have w3 : IntKind.u64.wrap (c % 2251799813685248 + b / 2251799813685248) = c % 2251799813685248 + b / 2251799813685248 := by rw [IntKind.wrap_u64]; omega
   have w4 : IntKind.u64.wrap (d % 2251799813685248 + c / 2251799813685248) = d % 2251799813685248 + c / 2251799813685248 := by rw [IntKind.wrap_u64]; omega
   have w5 : IntKind.u64.wrap (e % 2251799813685248 + d / 2251799813685248) = e % 2251799813685248 + d / 2251799813685248 := by rw [IntKind.wrap_u64]; omega
   have HQ : Hid (Blk wr g 116 (u64s [a % 2251799813685248, b % 2251799813685248, c % 2251799813685248, d % 2251799813685248, e % 2251799813685248]) ∧ Kept (fun x => x = g) w wr) := ⟨hW, hkp⟩
   clear hW hblk hkp c0 c1 c2 c3 c4
   go_wp2_with fail
   go_region_with fail
   go_wp2_with fail
   go_region_with fail
   go_wp2_with fail
   go_region_with fail
   go_wp2_with fail
   go_region_with fail
   go_wp2_with fail
   go_region_with fail
   go_wp2_with fail
   go_end0
   have R := ((((HQ.out.1.set 0 (.int .u64 (a % 2251799813685248 + e / 2251799813685248 * 19))).set 1 (.int .u64 (b % 2251799813685248 + a / 2251799813685248))).set 2 (.int .u64 (c % 2251799813685248 + b / 2251799813685248))).set 3 (.int .u64 (d % 2251799813685248 + c / 2251799813685248))).set 4 (.int .u64 (e % 2251799813685248 + d / 2251799813685248))
   simp only [u64s_set, List.set_cons_zero, List.set_cons_succ] at R
   have K := ((((HQ.out.2.setCell (p := ⟨g, 0, none⟩) rfl (.int .u64 (a % 2251799813685248 + e / 2251799813685248 * 19))).setCell (p := ⟨g, 1, none⟩) rfl (.int .u64 (b % 2251799813685248 + a / 2251799813685248))).setCell (p := ⟨g, 2, none⟩) rfl (.int .u64 (c % 2251799813685248 + b / 2251799813685248))).setCell (p := ⟨g, 3, none⟩) rfl (.int .u64 (d % 2251799813685248 + c / 2251799813685248))).setCell (p := ⟨g, 4, none⟩) rfl (.int .u64 (e % 2251799813685248 + d / 2251799813685248))
   exact ⟨rfl, R.drew.drew.drew.drew.drew, ((((K.drewN 1).drewN 1).drewN 1).drewN 1).drewN 1⟩
def zipK (f : Int → Int → Int) : Nat → List Int → List Int → List Int
 | k + 1, a :: l, b :: m => f a b :: zipK f k l m
 | _, l, _ => l
theorem zipK_at (f : Int → Int → Int) : ∀ (k : Nat) (l m : List Int), (zipK f k l m)[k]? = l[k]?
 | 0, l, m => by cases l <;> cases m <;> rfl
 | k + 1, [], m => by cases m <;> rfl
 | k + 1, a :: l, [] => rfl
 | k + 1, a :: l, b :: m => by simpa [zipK] using zipK_at f k l m
theorem zipK_set (f : Int → Int → Int) : ∀ (k : Nat) (l m : List Int) (h : k < l.length) (h' : k < m.length), (zipK f k l m).set k (f l[k] m[k]) = zipK f (k + 1) l m
 | 0, a :: l, b :: m, _, _ => by cases l <;> cases m <;> rfl
 | k + 1, a :: l, b :: m, h, h' => by simpa [zipK] using zipK_set f k l m (by simpa using h) (by simpa using h')
theorem lim_at {l : List Int} (h : ∀ z ∈ l, Lim z) (k : Nat) (hk : k < l.length) : Lim l[k] := h _ (List.getElem_mem hk)
theorem add_any (l m : List Int) (x y : Int) (hl : Fe l x) (hm : Fe m y) (w : World) :
  Calls Tryz.prog 125 #[.agg (u64s l).toArray, .agg (u64s m).toArray] w fun e w' => ∃ r, e = .returned (.agg (u64s r).toArray) ∧ Fe r ((x + y) % PR) ∧ Below w.heap.size w w' := by
 have HL : Hid (Fe l x ∧ Fe m y) := ⟨hl, hm⟩
 clear hl hm
 go_enter Tryz.func125, Tryz.ntmps125
 go_wp2_with (first | (refine wpList_box_new rfl 116 (.tmp 0) rfl (u64s l) rfl ?_; intro x1 z1 s1 l1) | (refine wpList_box_new rfl 116 (.tmp 1) rfl (u64s m) rfl ?_; intro x2 z2 s2 l2) | (refine wpList_alloc_new rfl 116 rfl 5 _ zeroElem ?_; intro x3 z3 s3 l3))
 have e2 : x1.heap.size = w.heap.size + 1 := s1
 have e3 : x2.heap.size = w.heap.size + 1 + 1 := by omega
 rw [e2] at z2
 rw [e3] at z3
 have WW : Hid (Below w.heap.size w x3 ∧ Blk x3 w.heap.size 116 (u64s l) ∧ Blk x3 (w.heap.size + 1) 116 (u64s m) ∧ Blk x3 (w.heap.size + 1 + 1) 116 (u64s [0, 0, 0, 0, 0])) := ⟨below_chain (below_chain l1 l2 (by omega)) l3 (by omega), (z1.later l2 (by omega)).later l3 (by omega), z2.later l3 (by omega), z3⟩
 clear z1 s1 l1 z2 s2 l2 z3 s3 l3 e2 e3
 go_loopw [6] (fun i wr => ∃ (k : Nat), k ≤ 5 ∧ i = .int .i64 k ∧ Blk wr w.heap.size 116 (u64s (zipK (fun a b => a + b) k l m)) ∧ Kept (fun x => x = w.heap.size) x3 wr) (fun i _ => 5 - (intOf i).toNat)
 case atStart => exact ⟨0, by omega, rfl, by have := WW.out.2.1; cases l <;> exact this, Kept.refl _ _⟩
 case round =>
  obtain ⟨k, hk, rfl, hblk, hkp⟩ := hrel
  by_cases hlt : k < 5
  ·have h1 : k < l.length := by rw [HL.out.1.len]; exact hlt
   have h2 : k < m.length := by rw [HL.out.2.len]; exact hlt
   obtain ⟨X, hX⟩ : ∃ X, l[k] = X := ⟨_, rfl⟩
   obtain ⟨Y, hY⟩ : ∃ Y, m[k] = Y := ⟨_, rfl⟩
   have lX : Lim X := hX ▸ lim_at HL.out.1.lim k h1
   have lY : Lim Y := hY ▸ lim_at HL.out.2.lim k h2
   have ck : wr.cell? ⟨w.heap.size, k, none⟩ = some (.int .u64 X) := by
    rw [hblk.cell, u64s, List.getElem?_map, zipK_at, List.getElem?_eq_getElem h1, hX]; rfl
   have dk : wr.cell? ⟨w.heap.size + 1, k, none⟩ = some (.int .u64 Y) := by
    rw [(WW.out.2.2.1.kept hkp (by omega)).cell, u64s_getD h2, hY]
   have fg := hblk.frozen k
   have i1 : (k : Int) < 5 := by omega
   have i3 : (0 : Int) ≤ (k : Int) := by omega
   have eX : IntKind.u64.wrap (X + Y) = X + Y := by unfold Lim at *; rw [IntKind.wrap_u64]; omega
   have HQ : Hid (Blk wr w.heap.size 116 (u64s (zipK (fun a b => a + b) k l m)) ∧ Kept (fun x => x = w.heap.size) x3 wr ∧ l[k] = X ∧ m[k] = Y) := ⟨hblk, hkp, hX, hY⟩
   clear hblk hkp hX hY lX lY
   go_wp2_with fail
   go_region_with fail
   go_wp2_with fail
   all_goals (
   go_roundw
   case rel =>
    have R := (HQ.out.1.set k (.int .u64 (X + Y))).drew
    have e := zipK_set (fun a b => a + b) k l m h1 h2
    simp only [HQ.out.2.2.1, HQ.out.2.2.2] at e
    rw [u64s_set, e] at R
    exact ⟨k + 1, by omega, by go_num, R, (HQ.out.2.1.setCell rfl _).drewN 1⟩
   case measure => simp [intOf]; omega)
  ·obtain rfl : k = 5 := by omega
   obtain ⟨a0, a1, a2, a3, a4, rfl, ha0, ha1, ha2, ha3, ha4, hx⟩ := HL.out.1.parts
   obtain ⟨b0, b1, b2, b3, b4, rfl, hb0, hb1, hb2, hb3, hb4, hy⟩ := HL.out.2.parts
   have hF := cr_fe (a0 + b0) (a1 + b1) (a2 + b2) (a3 + b3) (a4 + b4) (by unfold Lim at *; omega) (by unfold Lim at *; omega) (by unfold Lim at *; omega) (by unfold Lim at *; omega) (by unfold Lim at *; omega)
   have hn : v5 (a0 + b0) (a1 + b1) (a2 + b2) (a3 + b3) (a4 + b4) % PR = (x + y) % PR := by
    rw [← hx, ← hy]; unfold v5 PR; omega
   rw [hn] at hF
   have HW : Hid (∀ W, Blk W w.heap.size 116 (u64s [a0 + b0, a1 + b1, a2 + b2, a3 + b3, a4 + b4]) → Calls Tryz.prog 167 #[.pointer (some ⟨w.heap.size, 0, none⟩)] W fun x w' => x = .returned (.tuple #[]) ∧ Blk w' w.heap.size 116 (u64s (cr (a0 + b0) (a1 + b1) (a2 + b2) (a3 + b3) (a4 + b4))) ∧ Kept (fun k => k = w.heap.size) W w') := fun W hB => carry_any _ _ _ _ _ _ W hB (by unfold Lim at *; omega) (by unfold Lim at *; omega) (by unfold Lim at *; omega) (by unfold Lim at *; omega) (by unfold Lim at *; omega)
   have HQ : Hid (Blk wr w.heap.size 116 (u64s [a0 + b0, a1 + b1, a2 + b2, a3 + b3, a4 + b4]) ∧ Blk wr (w.heap.size + 1 + 1) 116 (u64s [0, 0, 0, 0, 0]) ∧ Below w.heap.size w wr) := ⟨hblk, WW.out.2.2.2.kept hkp (by omega), below_kept WW.out.1 hkp WW.out.1.size (fun j hj => by omega)⟩
   obtain ⟨lr, hlr⟩ : ∃ z, cr (a0 + b0) (a1 + b1) (a2 + b2) (a3 + b3) (a4 + b4) = z := ⟨_, rfl⟩
   rw [hlr] at hF HW
   have HF : Hid (Fe lr ((x + y) % PR) ∧ lr.length = 5) := ⟨hF, hF.len⟩
   clear hF hn hblk hkp hlr ha0 ha1 ha2 ha3 ha4 hb0 hb1 hb2 hb3 hb4 hx hy
   go_wp2_with (first | (go_at_call 167; refine (HW.out _ HQ.out.1).mono ?_; rintro z y1 ⟨rfl, q1, q2⟩; have HR : Hid (Blk y1 w.heap.size 116 (u64s lr) ∧ Blk y1 (w.heap.size + 1 + 1) 116 (u64s [0, 0, 0, 0, 0]) ∧ Below w.heap.size w y1) := ⟨q1, HQ.out.2.1.kept q2 (by omega), below_kept HQ.out.2.2 q2 HQ.out.2.2.size (fun j hj => by omega)⟩; clear q1 q2) | (refine wpList_load_blk rfl 116 (.tmp 2) rfl w.heap.size rfl (u64s lr) _ HR.out.1 Tryz.underlying116 rfl (by rw [u64s_length, HF.out.2]; exact sizeElem) ?_) | (refine wpList_store_blk rfl 116 116 _ _ rfl _ rfl _ (u64s lr) rfl HR.out.2.1 (by rw [u64s_length, HF.out.2]; rfl) (by rw [u64s_length, HF.out.2]; exact sizeElem) (u64s_one _) ?_; intro y7 b7 s7 k7))
   exact ret_blk rfl (w.heap.size + 1 + 1) (u64s lr) _ rfl b7 Tryz.underlying116 rfl (by rw [u64s_length, HF.out.2]; exact sizeElem) rfl ⟨lr, rfl, HF.out.1, below_kept HR.out.2.2 k7 HR.out.2.2.size (fun j hj => by omega)⟩
theorem sub_any (l m : List Int) (x y : Int) (hl : Fe l x) (hm : Fe m y) (w : World) :
  Calls Tryz.prog 126 #[.agg (u64s l).toArray, .agg (u64s m).toArray] w fun e w' => ∃ r, e = .returned (.agg (u64s r).toArray) ∧ Fe r ((x - y) % PR) ∧ Below w.heap.size w w' := by
 have HL : Hid (Fe l x ∧ Fe m y) := ⟨hl, hm⟩
 clear hl hm
 go_enter Tryz.func126, Tryz.ntmps126
 go_wp2_with (first | (refine wpList_box_new rfl 116 (.tmp 0) rfl (u64s l) rfl ?_; intro x1 z1 s1 l1) | (refine wpList_box_new rfl 116 (.tmp 1) rfl (u64s m) rfl ?_; intro x2 z2 s2 l2) | (refine wpList_alloc_new rfl 116 rfl 5 _ zeroElem ?_; intro x3 z3 s3 l3))
 have e2 : x1.heap.size = w.heap.size + 1 := s1
 have e3 : x2.heap.size = w.heap.size + 1 + 1 := by omega
 rw [e2] at z2
 rw [e3] at z3
 have WW : Hid (Below w.heap.size w x3 ∧ Blk x3 w.heap.size 116 (u64s l) ∧ Blk x3 (w.heap.size + 1) 116 (u64s m) ∧ Blk x3 (w.heap.size + 1 + 1) 116 (u64s [0, 0, 0, 0, 0])) := ⟨below_chain (below_chain l1 l2 (by omega)) l3 (by omega), (z1.later l2 (by omega)).later l3 (by omega), z2.later l3 (by omega), z3⟩
 clear z1 s1 l1 z2 s2 l2 z3 s3 l3 e2 e3
 go_loopw [6] (fun i wr => ∃ (k : Nat), k ≤ 5 ∧ i = .int .i64 k ∧ Blk wr w.heap.size 116 (u64s (zipK (fun a b => a + (4503599627370494 - b)) k l m)) ∧ Kept (fun x => x = w.heap.size) x3 wr) (fun i _ => 5 - (intOf i).toNat)
 case atStart => exact ⟨0, by omega, rfl, by have := WW.out.2.1; cases l <;> exact this, Kept.refl _ _⟩
 case round =>
  obtain ⟨k, hk, rfl, hblk, hkp⟩ := hrel
  by_cases hlt : k < 5
  ·have h1 : k < l.length := by rw [HL.out.1.len]; exact hlt
   have h2 : k < m.length := by rw [HL.out.2.len]; exact hlt
   obtain ⟨X, hX⟩ : ∃ X, l[k] = X := ⟨_, rfl⟩
   obtain ⟨Y, hY⟩ : ∃ Y, m[k] = Y := ⟨_, rfl⟩
   have lX : Lim X := hX ▸ lim_at HL.out.1.lim k h1
   have lY : Lim Y := hY ▸ lim_at HL.out.2.lim k h2
   have ck : wr.cell? ⟨w.heap.size, k, none⟩ = some (.int .u64 X) := by
    rw [hblk.cell, u64s, List.getElem?_map, zipK_at, List.getElem?_eq_getElem h1, hX]; rfl
   have dk : wr.cell? ⟨w.heap.size + 1, k, none⟩ = some (.int .u64 Y) := by
    rw [(WW.out.2.2.1.kept hkp (by omega)).cell, u64s_getD h2, hY]
   have fg := hblk.frozen k
   have i1 : (k : Int) < 5 := by omega
   have i3 : (0 : Int) ≤ (k : Int) := by omega
   have e0 : IntKind.u64.wrap (4503599627370494 - Y) = 4503599627370494 - Y := by unfold Lim at *; rw [IntKind.wrap_u64]; omega
   have eX : IntKind.u64.wrap (X + (4503599627370494 - Y)) = X + (4503599627370494 - Y) := by unfold Lim at *; rw [IntKind.wrap_u64]; omega
   have HQ : Hid (Blk wr w.heap.size 116 (u64s (zipK (fun a b => a + (4503599627370494 - b)) k l m)) ∧ Kept (fun x => x = w.heap.size) x3 wr ∧ l[k] = X ∧ m[k] = Y) := ⟨hblk, hkp, hX, hY⟩
   clear hblk hkp hX hY lX lY
   go_wp2_with fail
   go_region_with fail
   go_wp2_with fail
   all_goals (
   go_roundw
   case rel =>
    have R := (HQ.out.1.set k (.int .u64 (X + (4503599627370494 - Y)))).drew
    have e := zipK_set (fun a b => a + (4503599627370494 - b)) k l m h1 h2
    simp only [HQ.out.2.2.1, HQ.out.2.2.2] at e
    rw [u64s_set, e] at R
    exact ⟨k + 1, by omega, by go_num, R, (HQ.out.2.1.setCell rfl _).drewN 1⟩
   case measure => simp [intOf]; omega)
  ·obtain rfl : k = 5 := by omega
   obtain ⟨a0, a1, a2, a3, a4, rfl, ha0, ha1, ha2, ha3, ha4, hx⟩ := HL.out.1.parts
   obtain ⟨b0, b1, b2, b3, b4, rfl, hb0, hb1, hb2, hb3, hb4, hy⟩ := HL.out.2.parts
   have hF := cr_fe (a0 + (4503599627370494 - b0) - 36) (a1 + (4503599627370494 - b1)) (a2 + (4503599627370494 - b2)) (a3 + (4503599627370494 - b3)) (a4 + (4503599627370494 - b4)) (by unfold Lim at *; omega) (by unfold Lim at *; omega) (by unfold Lim at *; omega) (by unfold Lim at *; omega) (by unfold Lim at *; omega)
   have hn : v5 (a0 + (4503599627370494 - b0) - 36) (a1 + (4503599627370494 - b1)) (a2 + (4503599627370494 - b2)) (a3 + (4503599627370494 - b3)) (a4 + (4503599627370494 - b4)) % PR = (x - y) % PR := by
    rw [← hx, ← hy]; unfold v5 PR; omega
   rw [hn] at hF
   have HW : Hid (∀ W, Blk W w.heap.size 116 (u64s [a0 + (4503599627370494 - b0) - 36, a1 + (4503599627370494 - b1), a2 + (4503599627370494 - b2), a3 + (4503599627370494 - b3), a4 + (4503599627370494 - b4)]) → Calls Tryz.prog 167 #[.pointer (some ⟨w.heap.size, 0, none⟩)] W fun x w' => x = .returned (.tuple #[]) ∧ Blk w' w.heap.size 116 (u64s (cr (a0 + (4503599627370494 - b0) - 36) (a1 + (4503599627370494 - b1)) (a2 + (4503599627370494 - b2)) (a3 + (4503599627370494 - b3)) (a4 + (4503599627370494 - b4)))) ∧ Kept (fun k => k = w.heap.size) W w') := fun W hB => carry_any _ _ _ _ _ _ W hB (by unfold Lim at *; omega) (by unfold Lim at *; omega) (by unfold Lim at *; omega) (by unfold Lim at *; omega) (by unfold Lim at *; omega)
   have HQ : Hid (Blk wr w.heap.size 116 (u64s [a0 + (4503599627370494 - b0), a1 + (4503599627370494 - b1), a2 + (4503599627370494 - b2), a3 + (4503599627370494 - b3), a4 + (4503599627370494 - b4)]) ∧ Blk wr (w.heap.size + 1 + 1) 116 (u64s [0, 0, 0, 0, 0]) ∧ Below w.heap.size w wr) := ⟨hblk, WW.out.2.2.2.kept hkp (by omega), below_kept WW.out.1 hkp WW.out.1.size (fun j hj => by omega)⟩
   obtain ⟨lr, hlr⟩ : ∃ z, cr (a0 + (4503599627370494 - b0) - 36) (a1 + (4503599627370494 - b1)) (a2 + (4503599627370494 - b2)) (a3 + (4503599627370494 - b3)) (a4 + (4503599627370494 - b4)) = z := ⟨_, rfl⟩
   rw [hlr] at hF HW
   have HF : Hid (Fe lr ((x - y) % PR) ∧ lr.length = 5) := ⟨hF, hF.len⟩
   have c0 : wr.cell? ⟨w.heap.size, 0, none⟩ = some (.int .u64 (a0 + (4503599627370494 - b0))) := HQ.out.1.cell 0
   have f0 := HQ.out.1.frozen 0
   have e0 : IntKind.u64.wrap (a0 + (4503599627370494 - b0) - 36) = a0 + (4503599627370494 - b0) - 36 := by unfold Lim at *; rw [IntKind.wrap_u64]; omega
   have HS : Hid (Blk (wr.setCell ⟨w.heap.size, 0, none⟩ (.int .u64 (a0 + (4503599627370494 - b0) - 36))) w.heap.size 116 (u64s [a0 + (4503599627370494 - b0) - 36, a1 + (4503599627370494 - b1), a2 + (4503599627370494 - b2), a3 + (4503599627370494 - b3), a4 + (4503599627370494 - b4)])) := by
    have R := HQ.out.1.set 0 (.int .u64 (a0 + (4503599627370494 - b0) - 36))
    rw [u64s_set, List.set_cons_zero] at R
    exact R
   have HT : Hid (Kept (fun k => k = w.heap.size) wr (wr.setCell ⟨w.heap.size, 0, none⟩ (.int .u64 (a0 + (4503599627370494 - b0) - 36)))) := (Kept.refl (fun k => k = w.heap.size) wr).setCell (p := ⟨w.heap.size, 0, none⟩) rfl _
   clear hF hn hblk hkp hlr ha0 ha1 ha2 ha3 ha4 hb0 hb1 hb2 hb3 hb4 hx hy
   go_wp2_with (first | (go_at_call 167; refine (HW.out _ HS.out).mono ?_; rintro z y1 ⟨rfl, q1, q3⟩; have q2 := HT.out.trans q3; have HR : Hid (Blk y1 w.heap.size 116 (u64s lr) ∧ Blk y1 (w.heap.size + 1 + 1) 116 (u64s [0, 0, 0, 0, 0]) ∧ Below w.heap.size w y1) := ⟨q1, HQ.out.2.1.kept q2 (by omega), below_kept HQ.out.2.2 q2 HQ.out.2.2.size (fun j hj => by omega)⟩; clear q1 q2) | (refine wpList_load_blk rfl 116 (.tmp 2) rfl w.heap.size rfl (u64s lr) _ HR.out.1 Tryz.underlying116 rfl (by rw [u64s_length, HF.out.2]; exact sizeElem) ?_) | (refine wpList_store_blk rfl 116 116 _ _ rfl _ rfl _ (u64s lr) rfl HR.out.2.1 (by rw [u64s_length, HF.out.2]; rfl) (by rw [u64s_length, HF.out.2]; exact sizeElem) (u64s_one _) ?_; intro y7 b7 s7 k7))
   exact ret_blk rfl (w.heap.size + 1 + 1) (u64s lr) _ rfl b7 Tryz.underlying116 rfl (by rw [u64s_length, HF.out.2]; exact sizeElem) rfl ⟨lr, rfl, HF.out.1, below_kept HR.out.2.2 k7 HR.out.2.2.size (fun j hj => by omega)⟩
theorem build_zeroE (w : World) : (Instr.build 116 #[]).run Tryz.prog w = .ok (.agg (u64s [0, 0, 0, 0, 0]).toArray) w := by kernel_rfl
theorem fe_zero : Fe [0, 0, 0, 0, 0] 0 := Fe.of ⟨by decide, by decide⟩ ⟨by decide, by decide⟩ ⟨by decide, by decide⟩ ⟨by decide, by decide⟩ ⟨by decide, by decide⟩ (by decide)
theorem neg_any (l : List Int) (x : Int) (hl : Fe l x) (w : World) :
  Calls Tryz.prog 171 #[.agg (u64s l).toArray] w fun e w' => ∃ r, e = .returned (.agg (u64s r).toArray) ∧ Fe r ((0 - x) % PR) ∧ Below w.heap.size w w' := by
 have HL : Hid (Fe l x ∧ l.length = 5) := ⟨hl, hl.len⟩
 clear hl
 go_enter Tryz.func171, Tryz.ntmps171
 go_wp2_with (first | (refine wpList_box_new rfl 116 (.tmp 0) rfl (u64s l) rfl ?_; intro x1 z1 s1 l1) | (refine wpList_alloc_new rfl 116 rfl 5 _ zeroElem ?_; intro x2 z2 s2 l2; rw [s1] at z2; have b1 := z1.later l2 (by omega)) | (refine wpList_build rfl 116 _ rfl #[] (by simp) _ (build_zeroE _) ?_) | (refine wpList_load_blk rfl 116 (.tmp 1) rfl w.heap.size rfl (u64s l) _ b1 Tryz.underlying116 rfl (by rw [u64s_length, HL.out.2]; exact sizeElem) ?_) | (go_at_call 126; refine (sub_any _ _ _ _ fe_zero HL.out.1 _).mono ?_; rintro e x3 ⟨r, rfl, hr, l3⟩; have HR : Hid (Fe r ((0 - x) % PR) ∧ r.length = 5) := ⟨hr, hr.len⟩; have b3 := z2.later l3 (by omega); clear hr) | (refine wpList_store_blk rfl 116 116 _ _ rfl _ rfl _ (u64s r) rfl b3 (by rw [u64s_length, HR.out.2]; rfl) (by rw [u64s_length, HR.out.2]; exact sizeElem) (u64s_one _) ?_; intro x4 b4 s4 k4))
 exact ret_blk rfl (w.heap.size + 1) (u64s r) _ rfl b4 Tryz.underlying116 rfl (by rw [u64s_length, HR.out.2]; exact sizeElem) rfl ⟨r, rfl, HR.out.1, below_kept (below_chain (below_chain l1 l2 (by omega)) l3 (by omega)) k4 (by have := l3.size; omega) (fun j hj => by omega)⟩
theorem small_fe (n : Int) (h0 : 0 ≤ n) (h1 : n < 18446744073709551616) : Fe [n % 2251799813685248, n / 2251799813685248, 0, 0, 0] n := by
 refine Fe.of ⟨by omega, by omega⟩ ⟨by omega, by omega⟩ ⟨by decide, by decide⟩ ⟨by decide, by decide⟩ ⟨by decide, by decide⟩ ?_
 unfold v5 PR; omega
theorem small_any (n : Int) (h0 : 0 ≤ n) (h1 : n < 18446744073709551616) (w : World) :
  Calls Tryz.prog 79 #[.int .u64 n] w fun e w' => ∃ r, e = .returned (.agg (u64s r).toArray) ∧ Fe r n ∧ Below w.heap.size w w' := by
 have e0 := and51 n h0 h1
 have HF : Hid (Fe [n % 2251799813685248, n / 2251799813685248, 0, 0, 0] n) := small_fe n h0 h1
 clear h0 h1
 go_enter Tryz.func79, Tryz.ntmps79
 go_wp2_with (first | (refine wpList_alloc_new rfl 116 rfl 5 _ zeroElem ?_; intro x1 z1 s1 l1) | (refine wpList_build rfl 114 _ rfl #[(0, .int .u64 (n % 2251799813685248)), (1, .int .u64 (n / 2251799813685248))] (by simp [Act.eval]) (.agg (u64s [n % 2251799813685248, n / 2251799813685248, 0, 0, 0]).toArray) (by kernel_rfl) ?_) | (refine wpList_build rfl 116 _ rfl #[(0, .agg (u64s [n % 2251799813685248, n / 2251799813685248, 0, 0, 0]).toArray)] (by simp [Act.eval, Act.put]) (.agg (u64s [n % 2251799813685248, n / 2251799813685248, 0, 0, 0]).toArray) (by kernel_rfl) ?_) | (refine wpList_store_blk rfl 116 116 _ _ rfl _ rfl _ (u64s [n % 2251799813685248, n / 2251799813685248, 0, 0, 0]) rfl z1 rfl sizeElem (u64s_one _) ?_; intro x4 b4 s4 k4))
 exact ret_blk rfl w.heap.size (u64s [n % 2251799813685248, n / 2251799813685248, 0, 0, 0]) _ rfl b4 Tryz.underlying116 rfl sizeElem rfl ⟨_, rfl, HF.out, below_kept l1 k4 (by omega) (fun j hj => by omega)⟩
theorem bit_any (x : Int) (hx : Word x) (w : World) :
  Calls Tryz.prog 165 #[.int .u64 x] w fun e w' => e = .returned (.int .u64 (mk (x % 2 == 1))) ∧ w = w' := by
 have H : Hid (IntKind.u64.wrap (wrap64 (-wrap64 (bits .and .u64 x 1))) = mk (x % 2 == 1)) := bit_code x hx
 go_enter Tryz.func165, Tryz.ntmps165
 go_wp2
 go_ret
 exact ⟨ret_int H.out, rfl⟩
theorem ch64_any (m x y : Int) (hm : Word m) (hx : Word x) (hy : Word y) (w : World) :
  Calls Tryz.prog 227 #[.int .u64 m, .int .u64 x, .int .u64 y] w fun e w' => e = .returned (.int .u64 (pk m x y)) ∧ w = w' := by
 have H : Hid (bits .xor .u64 y (bits .and .u64 (bits .xor .u64 x y) m) = pk m x y) := choose_u64 m x y hm hx hy
 go_enter Tryz.func227, Tryz.ntmps227
 go_wp2
 go_ret
 exact ⟨ret_int H.out, rfl⟩
theorem pick_any (m x y : Int) (hm : Word m) (hx : Word x) (hy : Word y) (w : World) :
  Calls Tryz.prog 229 #[.int .u64 m, .int .u64 x, .int .u64 y] w fun e w' => e = .returned (.int .u64 (pk m x y)) ∧ w = w' := by
 go_enter Tryz.func229, Tryz.ntmps229
 go_wp2_with (go_at_call 227; refine (ch64_any _ _ _ hm hx hy _).mono ?_; rintro e w' ⟨rfl, rfl⟩)
 go_ret
 exact ⟨rfl, rfl⟩
theorem add64 (x y c : Int) (hx : Word x) (hy : Word y) (hc0 : 0 ≤ c) (hc : c ≤ 1) (w : World) : (callFunc 200 #[.int .u64 x, .int .u64 y, .int .u64 c]).run Tryz.prog w =
  .ok (.value (.tuple #[.int .u64 ((x + y + c) % 18446744073709551616), .int .u64 ((x + y + c) / 18446744073709551616)])) w := by
 obtain ⟨h1, h2⟩ := hx
 obtain ⟨h3, h4⟩ := hy
 obtain ⟨x, rfl⟩ := Int.eq_ofNat_of_zero_le h1
 obtain ⟨y, rfl⟩ := Int.eq_ofNat_of_zero_le h3
 obtain ⟨c, rfl⟩ := Int.eq_ofNat_of_zero_le hc0
 rw [run_callFunc_extern Tryz.func200 (by kernel_rfl) (by kernel_rfl) (by kernel_rfl) (e := add64Entry) (by kernel_rfl), run_add64 x y c (by omega) (by omega) (by omega) (by omega)]
 simp only [Result.andThen]
theorem add64_0 (x y : Int) (hx : Word x) (hy : Word y) (w : World) : (callFunc 200 #[.int .u64 x, .int .u64 y, .int .u64 0]).run Tryz.prog w =
  .ok (.value (.tuple #[.int .u64 ((x + y) % 18446744073709551616), .int .u64 ((x + y) / 18446744073709551616)])) w := by
 simpa using add64 x y 0 hx hy (Int.le_refl 0) (by decide) w
def bor (x y : Int) : Int := if x < y then 1 else 0
theorem bor_bd (x y : Int) : 0 ≤ bor x y ∧ bor x y ≤ 1 := by unfold bor; split <;> decide
theorem sub64 (x y b : Int) (hx : Word x) (hy : Word y) (hb0 : 0 ≤ b) (hb : b ≤ 1) (w : World) : (callFunc 246 #[.int .u64 x, .int .u64 y, .int .u64 b]).run Tryz.prog w =
  .ok (.value (.tuple #[.int .u64 ((x - y - b) % 18446744073709551616), .int .u64 (bor x (y + b))])) w := by
 obtain ⟨h1, h2⟩ := hx
 obtain ⟨h3, h4⟩ := hy
 obtain ⟨x, rfl⟩ := Int.eq_ofNat_of_zero_le h1
 obtain ⟨y, rfl⟩ := Int.eq_ofNat_of_zero_le h3
 obtain ⟨b, rfl⟩ := Int.eq_ofNat_of_zero_le hb0
 rw [run_callFunc_extern Tryz.func246 (by kernel_rfl) (by kernel_rfl) (by kernel_rfl) (e := sub64Entry) (by kernel_rfl), run_sub64 x y b (by omega)]
 have e1 : (((x + 18446744073709551616 - y - b) % 18446744073709551616 : Nat) : Int) = ((x : Int) - y - b) % 18446744073709551616 := by omega
 have e2 : ((if x < y + b then 1 else 0 : Nat) : Int) = bor x (y + b) := by unfold bor; split <;> split <;> omega
 rw [e1, e2]
 rfl
theorem sub64_0 (x y : Int) (hx : Word x) (hy : Word y) (w : World) : (callFunc 246 #[.int .u64 x, .int .u64 y, .int .u64 0]).run Tryz.prog w =
  .ok (.value (.tuple #[.int .u64 ((x - y) % 18446744073709551616), .int .u64 (bor x y)])) w := by
 simpa using sub64 x y 0 hx hy (Int.le_refl 0) (by decide) w
theorem mul64_nat (x y : Nat) (hx : x < 18446744073709551616) (hy : y < 18446744073709551616) (w : World) :
  Calls Tryz.prog 199 #[.int .u64 x, .int .u64 y] w fun e w' => e = .returned (.tuple #[.int .u64 ((x * y / 18446744073709551616 : Nat) : Int), .int .u64 ((x * y % 18446744073709551616 : Nat) : Int)]) ∧ w' = w := by
 obtain ⟨bd, bt, bw, hhi⟩ := Lib.mul64_hi x y hx hy
 have ba := Lib.half_mul_le (a := x / 4294967296) (b := y / 4294967296) (by omega) (by omega)
 have bb := Lib.half_mul_le (a := x / 4294967296) (b := y % 4294967296) (by omega) (by omega)
 have bc := Lib.half_mul_le (a := x % 4294967296) (b := y / 4294967296) (by omega) (by omega)
 have ba' : x / 4294967296 * (y / 4294967296) < 18446744073709551616 := by omega
 have bb' : x / 4294967296 * (y % 4294967296) < 18446744073709551616 := by omega
 have bc' : x % 4294967296 * (y / 4294967296) < 18446744073709551616 := by omega
 have bh1 : x / 4294967296 * (y / 4294967296) + (x / 4294967296 * (y % 4294967296) + x % 4294967296 * (y % 4294967296) / 4294967296) / 4294967296 < 18446744073709551616 := by omega
 have bh : x / 4294967296 * (y / 4294967296) + (x / 4294967296 * (y % 4294967296) + x % 4294967296 * (y % 4294967296) / 4294967296) / 4294967296 + ((x / 4294967296 * (y % 4294967296) + x % 4294967296 * (y % 4294967296) / 4294967296) % 4294967296 + x % 4294967296 * (y / 4294967296)) / 4294967296 < 18446744073709551616 := by omega
 go_enter Tryz.func199, Tryz.ntmps199
 go_wp2
 simp only [Mul64.maskN x hx, Mul64.maskN y hy, Mul64.divN, Mul64.mulN, Mul64.addN, Mul64.wrapN _ bd, Mul64.wrapN _ bb', Mul64.wrapN _ bt, Mul64.maskN _ bt, Mul64.wrapN _ bc', Mul64.wrapN _ bw, Mul64.wrapN _ ba', Mul64.wrapN _ bh1, Mul64.wrapN _ bh, Mul64.wrapM (x * y)]
 rw [hhi]
 go_ret2
 exact ⟨rfl, rfl⟩
theorem mul64_any (x y : Int) (hx : Word x) (hy : Word y) (w : World) :
  Calls Tryz.prog 199 #[.int .u64 x, .int .u64 y] w fun e w' => e = .returned (.tuple #[.int .u64 (x * y / 18446744073709551616), .int .u64 (x * y % 18446744073709551616)]) ∧ w = w' := by
 obtain ⟨h1, h2⟩ := hx
 obtain ⟨h3, h4⟩ := hy
 obtain ⟨x, rfl⟩ := Int.eq_ofNat_of_zero_le h1
 obtain ⟨y, rfl⟩ := Int.eq_ofNat_of_zero_le h3
 refine (mul64_nat x y (by omega) (by omega) w).mono ?_
 rintro e w' ⟨rfl, rfl⟩
 exact ⟨by simp, rfl⟩
theorem Blk.whole {w : World} {g : Nat} {t : TypeId} {vs : List Value} (h : Blk w g t vs) : w.rangeAt g 0 vs := fun j v hv => by rw [Nat.zero_add, h.cell]; exact hv
theorem zeroPair : (Tryz.prog.info? 267).map (fun i => (i.zero, i.size)) = some (some (.agg (u64s [0, 0]).toArray), 2) := by kernel_rfl
theorem sizePair : (Tryz.prog.info? 267).map (·.size) = some 2 := by kernel_rfl
theorem zeroNumber : (Tryz.prog.info? 270).map (fun i => (i.zero, i.size)) = some (some (.agg (u64s [0, 0, 0]).toArray), 3) := by kernel_rfl
theorem sizeNumber : (Tryz.prog.info? 270).map (·.size) = some 3 := by kernel_rfl
theorem product_any (x y : Int) (hx : Word x) (hy : Word y) (w : World) :
  Calls Tryz.prog 256 #[.int .u64 x, .int .u64 y] w fun e w' => e = .returned (.agg (u64s (pr (x * y))).toArray) ∧ Below w.heap.size w w' := by
 obtain ⟨z, hz⟩ : ∃ z, x * y = z := ⟨_, rfl⟩
 have hm := mul64_any x y hx hy
 rw [hz] at hm ⊢
 clear hz
 go_enter Tryz.func256, Tryz.ntmps256
 go_wp2_with (go_at_call 199; refine (hm _).mono ?_; rintro e w' ⟨rfl, rfl⟩)
 simp [bodyPost, results, Tryz.results256, go_sem, pr, u64s]
 exact (Below.refl _ _).alloc (Nat.le_refl _) _
theorem pplus_any (x y : Int) (hx : 0 ≤ x ∧ x < 340282366920938463463374607431768211456) (hy : 0 ≤ y ∧ y < 340282366920938463463374607431768211456) (w : World) :
  Calls Tryz.prog 226 #[.agg (u64s (pr x)).toArray, .agg (u64s (pr y)).toArray] w fun e w' => e = .returned (.agg (u64s (pr ((x + y) % 340282366920938463463374607431768211456))).toArray) ∧ Below w.heap.size w w' := by
 obtain ⟨x0, hx0⟩ : ∃ z, x % 18446744073709551616 = z := ⟨_, rfl⟩
 obtain ⟨x1, hx1⟩ : ∃ z, x / 18446744073709551616 = z := ⟨_, rfl⟩
 obtain ⟨y0, hy0⟩ : ∃ z, y % 18446744073709551616 = z := ⟨_, rfl⟩
 obtain ⟨y1, hy1⟩ : ∃ z, y / 18446744073709551616 = z := ⟨_, rfl⟩
 have e0 : (x + y) % 340282366920938463463374607431768211456 % 18446744073709551616 = (x0 + y0) % 18446744073709551616 := by omega
 have e1 : (x + y) % 340282366920938463463374607431768211456 / 18446744073709551616 = (x1 + y1 + (x0 + y0) / 18446744073709551616) % 18446744073709551616 := by omega
 simp only [pr, u64s, List.map_cons, List.map_nil, hx0, hx1, hy0, hy1, e0, e1]
 have a0 : Word x0 := ⟨by omega, by omega⟩
 have a1 : Word x1 := ⟨by omega, by omega⟩
 have b0 : Word y0 := ⟨by omega, by omega⟩
 have b1 : Word y1 := ⟨by omega, by omega⟩
 have k0 : 0 ≤ (x0 + y0) / 18446744073709551616 := by omega
 have k1 : (x0 + y0) / 18446744073709551616 ≤ 1 := by omega
 clear hx hy hx0 hx1 hy0 hy1 e0 e1
 go_enter Tryz.func226, Tryz.ntmps226
 go_wp2_with (first | simp only [add64_0 x0 y0 a0 b0] | simp only [add64 x1 y1 _ a1 b1 k0 k1])
 simp [bodyPost, results, Tryz.results226, go_sem]
 exact (((Below.refl _ _).alloc (Nat.le_refl _) _).alloc (by simp) _).alloc (by simp; omega) _
theorem nplus_any (x y : Int) (hx : 0 ≤ x) (hy : 0 ≤ y) (hs : x + y < 6277101735386680763835789423207666416102355444464034512896) (w : World) :
  Calls Tryz.prog 244 #[.agg (u64s (nm x)).toArray, .agg (u64s (nm y)).toArray] w fun e w' => e = .returned (.agg (u64s (nm (x + y))).toArray) ∧ Below w.heap.size w w' := by
 obtain ⟨x0, hx0⟩ : ∃ z, x % 18446744073709551616 = z := ⟨_, rfl⟩
 obtain ⟨x1, hx1⟩ : ∃ z, x / 18446744073709551616 % 18446744073709551616 = z := ⟨_, rfl⟩
 obtain ⟨x2, hx2⟩ : ∃ z, x / 340282366920938463463374607431768211456 = z := ⟨_, rfl⟩
 obtain ⟨y0, hy0⟩ : ∃ z, y % 18446744073709551616 = z := ⟨_, rfl⟩
 obtain ⟨y1, hy1⟩ : ∃ z, y / 18446744073709551616 % 18446744073709551616 = z := ⟨_, rfl⟩
 obtain ⟨y2, hy2⟩ : ∃ z, y / 340282366920938463463374607431768211456 = z := ⟨_, rfl⟩
 have e0 : (x + y) % 18446744073709551616 = (x0 + y0) % 18446744073709551616 := by omega
 have e1 : (x + y) / 18446744073709551616 % 18446744073709551616 = (x1 + y1 + (x0 + y0) / 18446744073709551616) % 18446744073709551616 := by omega
 have e2 : (x + y) / 340282366920938463463374607431768211456 = x2 + y2 + (x1 + y1 + (x0 + y0) / 18446744073709551616) / 18446744073709551616 := by omega
 simp only [nm, u64s, List.map_cons, List.map_nil, hx0, hx1, hx2, hy0, hy1, hy2, e0, e1, e2]
 have a0 : Word x0 := ⟨by omega, by omega⟩
 have a1 : Word x1 := ⟨by omega, by omega⟩
 have b0 : Word y0 := ⟨by omega, by omega⟩
 have b1 : Word y1 := ⟨by omega, by omega⟩
 have k0 : 0 ≤ (x0 + y0) / 18446744073709551616 := by omega
 have k1 : (x0 + y0) / 18446744073709551616 ≤ 1 := by omega
 have c0 : 0 ≤ x2 + y2 := by omega
 have c1 : x2 + y2 + (x1 + y1 + (x0 + y0) / 18446744073709551616) / 18446744073709551616 < 18446744073709551616 := by omega
 have v1 : IntKind.u64.wrap (x2 + y2) = x2 + y2 := by rw [IntKind.wrap_u64]; omega
 have v2 : IntKind.u64.wrap (x2 + y2 + (x1 + y1 + (x0 + y0) / 18446744073709551616) / 18446744073709551616) = x2 + y2 + (x1 + y1 + (x0 + y0) / 18446744073709551616) / 18446744073709551616 := by rw [IntKind.wrap_u64]; omega
 clear hx hy hs hx0 hx1 hx2 hy0 hy1 hy2 e0 e1 e2
 go_enter Tryz.func244, Tryz.ntmps244
 go_wp2_with (first | simp only [add64_0 x0 y0 a0 b0] | simp only [add64 x1 y1 _ a1 b1 k0 k1])
 simp [bodyPost, results, Tryz.results244, go_sem]
 exact (((Below.refl _ _).alloc (Nat.le_refl _) _).alloc (by simp) _).alloc (by simp; omega) _
end Go.Proofs.YthlbjkfjkggdoaaGreatDoor
