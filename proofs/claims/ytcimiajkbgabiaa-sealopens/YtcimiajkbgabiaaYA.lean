/- Joined texts: OBase OPlain ONum OMake OPut SBase SPlain SQuart SHeld. -/
import Derived.Test.YtcimiajkbgabiaaRows
import Derived.WalkKit
import Derived.WalkSpells
import Derived.WalkLawsBesides
import Derived.RowKit
import Derived.Laws.BitsAllLaws
import Derived.Deep.RegionHeld3
import Derived.Deep.DrawnRows
import Derived.BigRegion
import Derived.Deep.Draws
import Derived.Deep.QuietTactic
import Derived.BigQuiet
import Derived.OpenShut
import Derived.Deep.AppendLies
import Derived.Laws.AppendOwnNone
import Derived.Deep.WholeRow
import Derived.Deep.MidRow
namespace Go.Proofs.Ytcimiajkbgabiaa
open Go.RowKit
set_option linter.unusedVariables false
set_option linter.unusedSimpArgs false
attribute [local go_sem ↓] Go.wp_at_zero Go.wp_at_succ


abbrev Word (x : Int) : Prop := 0 ≤ x ∧ x < 18446744073709551616
theorem word_of_wf {x : Int} (h : (Lit.int .u64 x).wf = true) : Word x := by
  simp [Lit.wf, IntKind.min, IntKind.max, IntKind.signed, IntKind.bits] at h
  exact ⟨by omega, by omega⟩
theorem ret_int {k : IntKind} {a b : Int} (h : a = b) : Ending.returned (.int k a) = .returned (.int k b) := by rw [h]

/-- Of the blocks that were there all but those of S are as they were. -/
structure Kept (S : Nat → Prop) (w w' : World) : Prop where
  os : w'.os = w.os
  tape : w'.tape = w.tape
  output : w'.output = w.output
  size : w.heap.size ≤ w'.heap.size
  block : ∀ k, k < w.heap.size → ¬ S k → w'.heap[k]? = w.heap[k]?
theorem Kept.refl (S : Nat → Prop) (w : World) : Kept S w w := ⟨rfl, rfl, rfl, Nat.le_refl _, fun _ _ _ => rfl⟩
theorem Kept.trans {S : Nat → Prop} {a b c : World} (h : Kept S a b) (k : Kept S b c) : Kept S a c :=
  ⟨k.os.trans h.os, k.tape.trans h.tape, k.output.trans h.output, Nat.le_trans h.size k.size, fun i hi hs => (k.block i (Nat.lt_of_lt_of_le hi h.size) hs).trans (h.block i hi hs)⟩
theorem Kept.mono {S T : Nat → Prop} {a b : World} (h : Kept S a b) (hST : ∀ k, S k → T k) : Kept T a b :=
  ⟨h.os, h.tape, h.output, h.size, fun i hi hs => h.block i hi (fun x => hs (hST i x))⟩
theorem Kept.drew {S : Nat → Prop} {a w : World} (h : Kept S a w) : Kept S a w.drew := ⟨h.os, h.tape, h.output, h.size, h.block⟩
theorem Kept.setCell {S : Nat → Prop} {a w : World} (h : Kept S a w) {p : Addr} (hp : S p.block) (u : Value) : Kept S a (w.setCell p u) :=
  h.trans ⟨rfl, rfl, rfl, by simp [World.setCell], fun k _ hs => Below.heap_setCell _ _ _ _ (fun e => hs (e ▸ hp))⟩
theorem Kept.below {S : Nat → Prop} {a w : World} (h : Kept S a w) {B : Nat} (hB : B ≤ a.heap.size) (hS : ∀ k, S k → B ≤ k) : Below B a w :=
  ⟨h.os, h.tape, h.output, h.size, fun k hk => h.block k (by omega) (fun x => by have := hS k x; omega)⟩

/-- Block g begins with the bytes zs, and may be written. -/
def RowAt (w : World) (g : Nat) (zs : List Int) : Prop := ∃ rest : List Value, w.heap[g]? = some (.cells (zs.map (Value.int .u8) ++ rest).toArray 5 (0, 0))
theorem RowAt.cell {w : World} {g : Nat} {zs : List Int} (h : RowAt w g zs) (j : Nat) (hj : j < zs.length) : w.cell? ⟨g, j, none⟩ = some (.int .u8 (zs.getD j 0)) := by
  obtain ⟨rest, h⟩ := h
  rw [cell_of_row w g j _ 5 (0, 0) h]
  simp [hj, List.getElem?_append]
theorem RowAt.frozen {w : World} {g : Nat} {zs : List Int} (h : RowAt w g zs) (j : Nat) : w.frozen? ⟨g, j, none⟩ = false := by
  obtain ⟨rest, h⟩ := h
  exact frozen_of_row w g j _ 5 h
theorem RowAt.set {w : World} {g : Nat} {zs : List Int} (h : RowAt w g zs) (j : Nat) (hj : j < zs.length) (z : Int) : RowAt (w.setCell ⟨g, j, none⟩ (.int .u8 z)) g (zs.set j z) := by
  obtain ⟨rest, h⟩ := h
  refine ⟨rest, ?_⟩
  rw [heap_setCell_same w g j _ 5 _ h, List.map_set]
  simp [hj]
theorem RowAt.other {w : World} {g : Nat} {zs : List Int} (h : RowAt w g zs) {p : Addr} (hp : g ≠ p.block) (u : Value) : RowAt (w.setCell p u) g zs := by
  obtain ⟨rest, h⟩ := h
  exact ⟨rest, by rw [Below.heap_setCell _ _ _ _ hp]; exact h⟩
theorem RowAt.drew {w : World} {g : Nat} {zs : List Int} (h : RowAt w g zs) : RowAt w.drew g zs := h
theorem RowAt.drewN {w : World} {g : Nat} {zs : List Int} (h : RowAt w g zs) (k : Nat) : RowAt (w.drewN k) g zs := h
theorem RowAt.lt {w : World} {g : Nat} {zs : List Int} (h : RowAt w g zs) : g < w.heap.size := by
  obtain ⟨rest, h⟩ := h
  rcases Nat.lt_or_ge g w.heap.size with h' | h'
  · exact h'
  · rw [Array.getElem?_eq_none h'] at h; cases h
theorem RowAt.block {w w' : World} {g : Nat} {zs : List Int} (h : RowAt w g zs) (e : w'.heap[g]? = w.heap[g]?) : RowAt w' g zs := by
  obtain ⟨rest, h⟩ := h
  exact ⟨rest, by rw [e]; exact h⟩
theorem RowAt.alloc {w : World} {g : Nat} {zs : List Int} (h : RowAt w g zs) (o : Obj) : RowAt (w.alloc o) g zs := h.block (Below.heap_alloc w o g h.lt)
theorem RowAt.new (w : World) (zs : List Int) : RowAt (w.alloc (.cells (zs.map (Value.int .u8)).toArray 5)) w.heap.size zs := ⟨[], by rw [List.append_nil]; exact heap_alloc_new w _⟩
theorem RowAt.take {w : World} {g : Nat} {zs : List Int} (h : RowAt w g zs) (n : Nat) : RowAt w g (zs.take n) := by
  obtain ⟨rest, h⟩ := h
  refine ⟨(zs.drop n).map (Value.int .u8) ++ rest, ?_⟩
  rw [← List.append_assoc, ← List.map_append, List.take_append_drop]; exact h
theorem RowAt.of_own {w : World} {base : Nat} {g n cap : Nat} {zs : List Int} (h : w.ownsRow base 5 1 (.slice (some ⟨g, 0, none⟩) n cap) n (zs.map (Value.int .u8))) : RowAt w g zs ∧ base ≤ g ∧ n ≤ cap ∧ cap ≤ maxLen ∧ zs.length = n := by
  obtain ⟨hl, h⟩ := h
  rcases h with ⟨h, _⟩ | ⟨g', cap', cur, h, hb, hh, hc, hm, hs, ht⟩
  · cases h
  · simp only [Value.slice.injEq, Option.some.injEq, Addr.mk.injEq, and_true, true_and] at h
    obtain ⟨rfl, rfl⟩ := h
    rw [Nat.mul_one] at ht
    refine ⟨⟨cur.toList.drop n, ?_⟩, hb, hc, hm, by simpa using hl⟩
    rw [← ht, List.take_append_drop]; simpa using hh
def Bytes (zs : List Int) : Prop := ∀ z ∈ zs, 0 ≤ z ∧ z < 256
theorem Bytes.at {zs : List Int} (h : Bytes zs) (j : Nat) (hj : j < zs.length) : 0 ≤ zs.getD j 0 ∧ zs.getD j 0 < 256 := by
  have e : zs.getD j 0 = zs[j] := by simp [List.getD, hj]
  rw [e]; exact h _ (List.getElem_mem hj)
theorem Kept.cell {S : Nat → Prop} {w w' : World} (h : Kept S w w') {p : Addr} (hp : p.block < w.heap.size) (hS : ¬ S p.block) : w'.cell? p = w.cell? p := World.cell?_of_block (w := w) (h.block p.block hp hS)
theorem ret_bool {a b : Bool} (h : a = b) : Ending.returned (.bool a) = .returned (.bool b) := by rw [h]

/-- A slice at ao of n bytes, which are zs. -/
structure Seen (w : World) (ao : Option Addr) (n : Nat) (zs : List Int) : Prop where
  len : zs.length = n
  top : n ≤ 140737488355328
  bytes : Bytes zs
  cells : 0 < n → ∃ b o, ao = some ⟨b, o, none⟩ ∧ b < w.heap.size ∧ ∀ i, i < n → w.cell? ⟨b, o + i, none⟩ = some (.int .u8 (zs.getD i 0))
theorem Seen.later {w w' : World} {ao : Option Addr} {n : Nat} {zs : List Int} (h : Seen w ao n zs) {B : Nat} (hb : Below B w w') (hB : w.heap.size ≤ B) : Seen w' ao n zs :=
  ⟨h.len, h.top, h.bytes, fun hn => by
    obtain ⟨b, o, e, hlt, hc⟩ := h.cells hn
    exact ⟨b, o, e, Nat.lt_of_lt_of_le hlt hb.size, fun i hi => (hb.cell (p := ⟨b, o + i, none⟩) (Nat.lt_of_lt_of_le hlt hB)).trans (hc i hi)⟩⟩
theorem Seen.heap {w w' : World} {ao : Option Addr} {n : Nat} {zs : List Int} (h : Seen w ao n zs) (e : w'.heap = w.heap) : Seen w' ao n zs :=
  h.later (B := w.heap.size + w'.heap.size) (w' := { w with heap := w'.heap }) ⟨rfl, rfl, rfl, by simp [e], fun k _ => by simp [e]⟩ (Nat.le_add_right _ _) |> fun g => ⟨g.len, g.top, g.bytes, g.cells⟩
theorem Seen.drewN {w : World} {ao : Option Addr} {n : Nat} {zs : List Int} (h : Seen w ao n zs) (k : Nat) : Seen (w.drewN k) ao n zs := ⟨h.len, h.top, h.bytes, h.cells⟩
theorem Seen.of_row {w : World} {g n : Nat} {zs : List Int} (h : RowAt w g zs) (hl : n ≤ zs.length) (ht : n ≤ 140737488355328) (hb : Bytes zs) : Seen w (some ⟨g, 0, none⟩) n (zs.take n) :=
  ⟨by simp; omega, ht, fun z hz => hb z (List.mem_of_mem_take hz), fun _ => ⟨g, 0, rfl, h.lt, fun i hi => by
    rw [Nat.zero_add, h.cell i (by omega)]
    simp [List.getD, hi]⟩⟩
theorem byte_of_wf {z : Int} (h : (Lit.int .u8 z).wf = true) : 0 ≤ z ∧ z < 256 := by
  simp [Lit.wf, IntKind.min, IntKind.max, IntKind.signed, IntKind.bits] at h
  exact ⟨by omega, by omega⟩
theorem Seen.of_ints {w : World} {x : Addr} {n cap : Nat} {zs : List Int} (hn : n ≤ 140737488355328) (hl : n ≤ cap) (hz : zs.length = cap)
    (hcell : ∀ i, i < zs.length → w.cell? (x.add i) = some (.int .u8 (zs.getD i 0))) (hw : ∀ z ∈ zs, (Lit.int .u8 z).wf = true) : Seen w (some x) n (zs.take n) :=
  ⟨by simp; omega, hn, fun z hz => byte_of_wf (hw z (List.mem_of_mem_take hz)), fun h0 => by
    obtain ⟨b, o, rfl, hc⟩ := ints_at hcell (by omega)
    refine ⟨b, o, rfl, ?_, fun i hi => ?_⟩
    · have := hc 0 (by omega)
      exact World.block_lt_of_cell? _ _ this
    · rw [hc i (by omega)]
      simp [List.getD, hi]⟩
theorem Seen.empty (w : World) (ao : Option Addr) : Seen w ao 0 [] := ⟨rfl, by decide, fun z hz => (by cases hz), fun h => (by omega)⟩

theorem below_dn {B : Nat} {a w : World} (h : Below B a w) (n : Nat) : Below B a (w.drewN n) := h.trans ⟨rfl, rfl, rfl, Nat.le_refl _, fun _ _ => rfl⟩
/-- A world that is another but for draws may stand in its place. -/
theorem below_ahead {B : Nat} {W w' : World} {k : Nat} (h : Below B (W.drewN k) w') : Below B W w' := ⟨h.os, h.tape, h.output, h.size, h.block⟩
theorem info_byte : (Try.prog.info? 5).map (fun i => (i.zero, i.size, i.bytes)) = some (some (.int .u8 0), 1, 1) := by kernel_rfl

/-- A value that owns the bytes zs in new memory: nil, or a row. -/
theorem own_cases {w : World} {base : Nat} {v : Value} {zs : List Int} (h : w.ownsRow base 5 1 v zs.length (zs.map (Value.int .u8))) :
    (v = .slice none 0 0 ∧ zs = []) ∨ ∃ g cap, v = .slice (some ⟨g, 0, none⟩) zs.length cap ∧ RowAt w g zs ∧ base ≤ g ∧ zs.length ≤ cap ∧ cap ≤ maxLen := by
  rcases h.2 with ⟨h1, h2⟩ | ⟨g, cap, cur, rfl, r⟩
  · left; exact ⟨h1, List.length_eq_zero_iff.1 h2⟩
  · right
    have := RowAt.of_own h
    exact ⟨g, cap, rfl, this.1, this.2.1, this.2.2.1, this.2.2.2.1⟩

theorem step_own {w wr w1 : World} {v v' : Value} {zs : List Int} {z : Int} {k : Nat}
    (hb : Below w.heap.size w wr) (hown : wr.ownsRow w.heap.size 5 1 v k ((zs.map (Value.int .u8)).take k)) (hk : k < zs.length) (hz : zs.getD k 0 = z)
    (hown' : w1.ownsRow w.heap.size 5 1 v' (k + 1) ((zs.map (Value.int .u8)).take k ++ [.int .u8 z])) (hg : (wr.alloc (.cells #[.int .u8 z] 5)).grownBy w1 v.ownBlock) :
    w1.ownsRow w.heap.size 5 1 v' (k + 1) ((zs.map (Value.int .u8)).take (k + 1)) ∧ Below w.heap.size w w1 := by
  constructor
  · rw [List.take_succ_eq_append_getElem (by simpa using hk)]
    have e : zs[k] = z := by rw [← hz]; simp [List.getD, hk]
    rw [List.getElem_map, e]; exact hown'
  · exact (hb.alloc hb.size _).grown hg (by have := hb.size; simp; omega) (fun j hj => (hown.lt j hj).1)

theorem own_len {w : World} {base : Nat} {v : Value} {n : Nat} {zs : List Int} (hl : zs.length = n) (h : w.ownsRow base 5 1 v n (zs.map (Value.int .u8))) :
    (v = .slice none 0 0 ∧ n = 0) ∨ ∃ g cap, v = .slice (some ⟨g, 0, none⟩) n cap ∧ RowAt w g zs ∧ base ≤ g ∧ n ≤ cap ∧ cap ≤ maxLen := by
  subst hl
  rcases own_cases h with ⟨h1, h2⟩ | h
  · left; exact ⟨h1, by rw [h2]; rfl⟩
  · right; exact h

theorem RowAt.later {w w' : World} {g : Nat} {zs : List Int} (h : RowAt w g zs) {B : Nat} (hb : Below B w w') (hB : w.heap.size ≤ B) : RowAt w' g zs := h.block (hb.block g (Nat.lt_of_lt_of_le h.lt hB))
theorem RowAt.kept {S : Nat → Prop} {w w' : World} {g : Nat} {zs : List Int} (h : RowAt w g zs) (hk : Kept S w w') (hS : ¬ S g) : RowAt w' g zs := h.block (hk.block g h.lt hS)
theorem Seen.drew {w : World} {ao : Option Addr} {n : Nat} {zs : List Int} (h : Seen w ao n zs) : Seen w.drew ao n zs := h.drewN 1
theorem Seen.kept {S : Nat → Prop} {w w' : World} {ao : Option Addr} {n : Nat} {zs : List Int} (h : Seen w ao n zs) (hk : Kept S w w') (hS : ∀ b o, 0 < n → ao = some ⟨b, o, none⟩ → ¬ S b) : Seen w' ao n zs :=
  ⟨h.len, h.top, h.bytes, fun hn => by
    obtain ⟨b, o, e, hlt, hc⟩ := h.cells hn
    exact ⟨b, o, e, Nat.lt_of_lt_of_le hlt hk.size, fun i hi => (hk.cell (p := ⟨b, o + i, none⟩) hlt (hS b o hn e)).trans (hc i hi)⟩⟩
theorem Seen.old {w : World} {ao : Option Addr} {n : Nat} {zs : List Int} (h : Seen w ao n zs) {B : Nat} (hB : w.heap.size ≤ B) : ∀ b o, 0 < n → ao = some ⟨b, o, none⟩ → b < B := by
  intro b o hn e
  obtain ⟨b', o', e', hlt, _⟩ := h.cells hn
  rw [e] at e'
  simp at e'
  omega
theorem own_seen {w : World} {base : Nat} {v : Value} {n : Nat} {zs : List Int} (hl : zs.length = n) (hb : Bytes zs) (ht : n ≤ 140737488355328) (h : w.ownsRow base 5 1 v n (zs.map (Value.int .u8))) :
    ∃ vo cap, v = .slice vo n cap ∧ Seen w vo n zs ∧ ∀ b o, vo = some ⟨b, o, none⟩ → base ≤ b := by
  rcases own_len hl h with ⟨rfl, rfl⟩ | ⟨g, cap, rfl, hr, hg, _, _⟩
  · have e : zs = [] := List.length_eq_zero_iff.1 hl
    subst e
    exact ⟨none, 0, rfl, Seen.empty _ _, fun b o h => by cases h⟩
  · refine ⟨_, cap, rfl, ?_, fun b o h => by simp at h; omega⟩
    have := Seen.of_row (n := n) hr (by omega) ht hb
    rwa [List.take_of_length_le (by omega)] at this
theorem ownsRow_below {w w' : World} {base : Nat} {e : TypeId} {size : Nat} {v : Value} {n : Nat} {xs : List Value} (h : w.ownsRow base e size v n xs) (hb : Below w.heap.size w w') : w'.ownsRow base e size v n xs := by
  refine ⟨h.1, ?_⟩
  rcases h.2 with h2 | ⟨g, cap, cur, hv, hg, hh, r⟩
  · exact .inl h2
  · exact .inr ⟨g, cap, cur, hv, hg, by rw [hb.block g (lt_of_block hh)]; exact hh, r⟩
theorem ownsRow_base {w : World} {base base' : Nat} {e : TypeId} {size : Nat} {v : Value} {n : Nat} {xs : List Value} (h : w.ownsRow base e size v n xs) (hb : base' ≤ base) : w.ownsRow base' e size v n xs := by
  refine ⟨h.1, ?_⟩
  rcases h.2 with h2 | ⟨g, cap, cur, hv, hg, r⟩
  · exact .inl h2
  · exact .inr ⟨g, cap, cur, hv, by omega, r⟩
end Go.Proofs.Ytcimiajkbgabiaa

namespace Go.Proofs.Ytcimiajkbgabiaa
open Go.RowKit

/-- The number whose bytes these are, the lowest first. -/
def le : List Int → Int
  | [] => 0
  | z :: zs => z + 256 * le zs
/-- The bytes of a number, so many, the lowest first. -/
def leB : Nat → Int → List Int
  | 0, _ => []
  | k + 1, v => v % 256 :: leB k (v / 256)
theorem leB_length (k : Nat) (v : Int) : (leB k v).length = k := by
  induction k generalizing v with
  | zero => rfl
  | succ k ih => simp [leB, ih]
theorem leB_bytes (k : Nat) (v : Int) : Bytes (leB k v) := by
  induction k generalizing v with
  | zero => intro z hz; cases hz
  | succ k ih =>
    intro z hz
    simp only [leB, List.mem_cons] at hz
    rcases hz with rfl | hz
    · omega
    · exact ih _ z hz
theorem le_bd (zs : List Int) (h : Bytes zs) : 0 ≤ le zs ∧ le zs < 256 ^ zs.length := by
  induction zs with
  | nil => simp [le]
  | cons z zs ih =>
    have hz := h z (by simp)
    have := ih (fun y hy => h y (by simp [hy]))
    simp only [le, List.length_cons, Int.pow_succ]
    omega
theorem le_leB (k : Nat) (v : Int) : le (leB k v) = v % 256 ^ k := by
  induction k generalizing v with
  | zero => simp [leB, le]
  | succ k ih =>
    simp only [leB, le, ih]
    have hp : (0 : Int) < 256 ^ k := Int.pow_pos (by decide)
    have h1 := Int.mul_ediv_add_emod v 256
    have h2 := Int.mul_ediv_add_emod (v / 256) (256 ^ k)
    have b1 := Int.emod_nonneg (v / 256) (Int.ne_of_gt hp)
    have b2 := Int.emod_lt_of_pos (v / 256) hp
    have e : (256 : Int) ^ (k + 1) = 256 ^ k * 256 := Int.pow_succ ..
    have key : v = (256 ^ k * 256) * (v / 256 / 256 ^ k) + (v % 256 + 256 * (v / 256 % 256 ^ k)) := by
      have : (256 ^ k * 256) * (v / 256 / 256 ^ k) = 256 * (256 ^ k * (v / 256 / 256 ^ k)) := by
        rw [Int.mul_comm (256 ^ k) 256, Int.mul_assoc]
      rw [this]; omega
    rw [e]
    have g : v % (256 ^ k * 256) = v % 256 + 256 * (v / 256 % 256 ^ k) := by
      conv => lhs; rw [key]
      rw [Int.mul_add_emod_self_left]
      exact Int.emod_eq_of_lt (by omega) (by omega)
    exact g.symm
theorem leB_le (zs : List Int) (h : Bytes zs) : leB zs.length (le zs) = zs := by
  induction zs with
  | nil => rfl
  | cons z zs ih =>
    have hz := h z (by simp)
    simp only [List.length_cons, leB, le]
    have e1 : (z + 256 * le zs) % 256 = z := by omega
    have e2 : (z + 256 * le zs) / 256 = le zs := by omega
    rw [e1, e2, ih (fun y hy => h y (by simp [hy]))]
theorem leB_at (k : Nat) (v : Int) (i : Nat) (hi : i < k) : (leB k v).getD i 0 = v / 256 ^ i % 256 := by
  induction k generalizing v i with
  | zero => omega
  | succ k ih =>
    cases i with
    | zero => simp [leB]
    | succ i =>
      simp only [leB, List.getD_cons_succ]
      rw [ih _ _ (by omega), Int.ediv_ediv_of_nonneg (by decide)]
      congr 2
      rw [Int.pow_succ, Int.mul_comm]
theorem le_drop (zs : List Int) (k : Nat) (hk : k < zs.length) : le (zs.drop k) = zs.getD k 0 + 256 * le (zs.drop (k + 1)) := by
  rw [List.drop_eq_getElem_cons hk]
  simp [le, List.getD, hk]
theorem bytes_drop {zs : List Int} (h : Bytes zs) (k : Nat) : Bytes (zs.drop k) := fun z hz => h z (List.mem_of_mem_drop hz)
theorem bytes_take {zs : List Int} (h : Bytes zs) (k : Nat) : Bytes (zs.take k) := fun z hz => h z (List.mem_of_mem_take hz)
theorem bytes_app {xs ys : List Int} (hx : Bytes xs) (hy : Bytes ys) : Bytes (xs ++ ys) := fun z hz => by
  rcases List.mem_append.1 hz with h | h
  · exact hx z h
  · exact hy z h
theorem bytes_rev {zs : List Int} (h : Bytes zs) : Bytes zs.reverse := fun z hz => h z (List.mem_reverse.1 hz)
/-- A byte laid below a number. -/
theorem or_low (a b : Int) (ha : 0 ≤ a ∧ a * 256 < 18446744073709551616) (hb : 0 ≤ b ∧ b < 256) : bits .or .u64 (a * 256) b = b + 256 * a := by
  rw [u64_or _ _ (by omega) ha.2 hb.1 (by omega)]
  obtain ⟨a, rfl⟩ := Int.eq_ofNat_of_zero_le ha.1
  obtain ⟨b, rfl⟩ := Int.eq_ofNat_of_zero_le hb.1
  have h := Nat.shiftLeft_add_eq_or_of_lt (i := 8) (b := b) (by omega) a
  have e1 : ((a : Int) * 256).toNat = a <<< 8 := by rw [Nat.shiftLeft_eq]; omega
  rw [e1, Int.toNat_natCast, ← h, Nat.shiftLeft_eq]; omega
theorem le_drop_bd (zs : List Int) (h : Bytes zs) (n k : Nat) (hl : zs.length = n) (hn : n ≤ 8) (hk : 0 < k) : 0 ≤ le (zs.drop k) ∧ le (zs.drop k) * 256 < 18446744073709551616 := by
  have b := le_bd _ (bytes_drop h k)
  have hle : (256 : Int) ^ (zs.drop k).length ≤ 256 ^ 7 := by
    rw [List.length_drop]
    have : 256 ^ (zs.length - k) ≤ 256 ^ 7 := Nat.pow_le_pow_right (by decide) (by omega)
    show ((256 : Nat) : Int) ^ _ ≤ ((256 : Nat) : Int) ^ 7
    rw [← Int.natCast_pow, ← Int.natCast_pow]
    exact Int.ofNat_le.2 this
  omega
end Go.Proofs.Ytcimiajkbgabiaa

namespace Go.Proofs.Ytcimiajkbgabiaa
open Go.RowKit
set_option linter.unusedVariables false
set_option linter.unusedSimpArgs false

set_option maxRecDepth 20000 in
theorem len64_8 (w : World) : Calls Try.prog 71 #[.int .u64 255] w fun e w' => e = .returned (.int .i64 8) ∧ w = w' := by
  go_enter Try.func71, Try.ntmps71
  go_wp2
  go_ret
  exact ⟨by kernel_rfl, rfl⟩
set_option maxRecDepth 20000 in
theorem len64_16 (w : World) : Calls Try.prog 71 #[.int .u64 65535] w fun e w' => e = .returned (.int .i64 16) ∧ w = w' := by
  go_enter Try.func71, Try.ntmps71
  go_wp2
  go_ret
  exact ⟨by kernel_rfl, rfl⟩
set_option maxRecDepth 20000 in
theorem len64_32 (w : World) : Calls Try.prog 71 #[.int .u64 4294967295] w fun e w' => e = .returned (.int .i64 32) ∧ w = w' := by
  go_enter Try.func71, Try.ntmps71
  go_wp2
  go_ret
  exact ⟨by kernel_rfl, rfl⟩
set_option maxRecDepth 20000 in
theorem len64_64 (w : World) : Calls Try.prog 71 #[.int .u64 18446744073709551615] w fun e w' => e = .returned (.int .i64 64) ∧ w = w' := by
  go_enter Try.func71, Try.ntmps71
  go_wp2
  go_ret
  exact ⟨by kernel_rfl, rfl⟩

/-- The error of so many bytes for a number that has k. -/
def fit (n k : Nat) : Int := if n < k then 20 else if k < n then 21 else 0
theorem fit_short {n k : Nat} (h : n < k) : fit n k = 20 := by unfold fit; rw [if_pos h]
theorem fit_rest {n k : Nat} (h : k < n) : fit n k = 21 := by unfold fit; rw [if_neg (by omega), if_pos h]
theorem fit_ok (n : Nat) : fit n n = 0 := by unfold fit; rw [if_neg (by omega), if_neg (by omega)]
theorem byteAt_eq (v : Int) (i : Nat) : v / 2 ^ (8 * i) % 256 = v / 256 ^ i % 256 := by
  have : (256 : Int) ^ i = 2 ^ (8 * i) := by rw [Int.pow_mul]; rfl
  rw [this]

theorem width_32 (w : World) : Calls Try.prog 51 #[] w fun e w' => e = .returned (.int .i64 4) ∧ w = w' := by
  go_enter Try.func51, Try.ntmps51
  go_wp2_with (go_at_call 71; refine (len64_32 _).mono ?_; rintro e w' ⟨rfl, rfl⟩)
  go_ret
  exact ⟨rfl, rfl⟩
theorem fits_32 (ao : Option Addr) (n c : Nat) (hn : n ≤ 140737488355328) (w : World) :
    Calls Try.prog 82 #[.slice ao n c] w fun e w' => e = .returned (.int .i64 (fit n 4)) ∧ w = w' := by
  rcases Nat.lt_trichotomy n 4 with h | h | h
  · rw [fit_short h]
    have h1 : (n : Int) < 4 := by omega
    go_enter Try.func82, Try.ntmps82
    go_wp2_with (go_at_call 51; refine (width_32 _).mono ?_; rintro e w' ⟨rfl, rfl⟩)
    go_ret
    exact ⟨rfl, rfl⟩
  · subst h
    rw [fit_ok]
    go_enter Try.func82, Try.ntmps82
    go_wp2_with (go_at_call 51; refine (width_32 _).mono ?_; rintro e w' ⟨rfl, rfl⟩)
    go_ret
    exact ⟨rfl, rfl⟩
  · rw [fit_rest h]
    have h1 : (4 : Int) < (n : Int) := by omega
    go_enter Try.func82, Try.ntmps82
    go_wp2_with (go_at_call 51; refine (width_32 _).mono ?_; rintro e w' ⟨rfl, rfl⟩)
    go_ret
    exact ⟨rfl, rfl⟩
theorem byteAt_32 (v : Int) (hv : 0 ≤ v ∧ v < 4294967296) (i : Nat) (hi : i < 4) (w : World) :
    Calls Try.prog 52 #[.int .u32 v, .int .i64 i] w fun e w' => e = .returned (.int .u8 (v / 256 ^ i % 256)) ∧ w = w' := by
  go_enter Try.func52, Try.ntmps52
  go_wp2
  go_ret
  exact ⟨by rw [← byteAt_eq]; rfl, rfl⟩
theorem width_64 (w : World) : Calls Try.prog 53 #[] w fun e w' => e = .returned (.int .i64 8) ∧ w = w' := by
  go_enter Try.func53, Try.ntmps53
  go_wp2_with (go_at_call 71; refine (len64_64 _).mono ?_; rintro e w' ⟨rfl, rfl⟩)
  go_ret
  exact ⟨rfl, rfl⟩
theorem fits_64 (ao : Option Addr) (n c : Nat) (hn : n ≤ 140737488355328) (w : World) :
    Calls Try.prog 81 #[.slice ao n c] w fun e w' => e = .returned (.int .i64 (fit n 8)) ∧ w = w' := by
  rcases Nat.lt_trichotomy n 8 with h | h | h
  · rw [fit_short h]
    have h1 : (n : Int) < 8 := by omega
    go_enter Try.func81, Try.ntmps81
    go_wp2_with (go_at_call 53; refine (width_64 _).mono ?_; rintro e w' ⟨rfl, rfl⟩)
    go_ret
    exact ⟨rfl, rfl⟩
  · subst h
    rw [fit_ok]
    go_enter Try.func81, Try.ntmps81
    go_wp2_with (go_at_call 53; refine (width_64 _).mono ?_; rintro e w' ⟨rfl, rfl⟩)
    go_ret
    exact ⟨rfl, rfl⟩
  · rw [fit_rest h]
    have h1 : (8 : Int) < (n : Int) := by omega
    go_enter Try.func81, Try.ntmps81
    go_wp2_with (go_at_call 53; refine (width_64 _).mono ?_; rintro e w' ⟨rfl, rfl⟩)
    go_ret
    exact ⟨rfl, rfl⟩
theorem byteAt_64 (v : Int) (hv : 0 ≤ v ∧ v < 18446744073709551616) (i : Nat) (hi : i < 8) (w : World) :
    Calls Try.prog 54 #[.int .u64 v, .int .i64 i] w fun e w' => e = .returned (.int .u8 (v / 256 ^ i % 256)) ∧ w = w' := by
  go_enter Try.func54, Try.ntmps54
  go_wp2
  go_ret
  exact ⟨by rw [← byteAt_eq]; rfl, rfl⟩

/-- What Little tells. -/
def leV (k n : Nat) (zs : List Int) : Int := if n = k then le zs else 0
theorem leV_ok (n : Nat) (zs : List Int) : leV n n zs = le zs := by simp [leV]
theorem leV_no {n k : Nat} (zs : List Int) (h : n ≠ k) : leV k n zs = 0 := by simp [leV, h]

theorem little_32 (ao : Option Addr) (n c : Nat) (zs : List Int) (w : World) (hx : Seen w ao n zs) :
    Calls Try.prog 61 #[.slice ao n c] w fun e w' => e = .returned (.tuple #[.int .u32 (leV 4 n zs), .int .i64 (fit n 4)]) ∧ w = w' := by
  have t1 := hx.top
  by_cases hn : n = 4
  · subst hn
    have HL : Hid (zs.length = 4) := hx.len
    have HB : Hid (Bytes zs) := hx.bytes
    rw [leV_ok, fit_ok]
    have hf := fits_32 ao 4 c (by decide) w
    rw [fit_ok] at hf
    go_enter Try.func61, Try.ntmps61
    go_wp2_with (go_at_call 82; refine hf.mono ?_; rintro e w' ⟨rfl, rfl⟩)
    go_loopw [5, 6] (fun v i wr => ∃ (m : Nat) (I : Int), m ≤ 4 ∧ I + 1 = m ∧ i = .int .i64 I ∧ v = .int .u64 (le (zs.drop m)) ∧ wr = w) (fun _ i _ => (intOf i + 1).toNat)
    case atStart => exact ⟨4, 4 - 1, by omega, by omega, rfl, by rw [List.drop_of_length_le (by have := HL.out; omega)]; rfl, rfl⟩
    case round =>
      obtain ⟨m, I, hm, hI, rfl, rfl, rfl⟩ := hrel
      by_cases hlt : 0 < m
      · obtain ⟨b, o, rfl, hb, hc⟩ := hx.cells (by decide)
        obtain ⟨p, rfl⟩ : ∃ p, m = p + 1 := ⟨m - 1, by omega⟩
        obtain rfl : I = (p : Int) := by omega
        have c1 := hc p (by omega)
        have hd := le_drop zs p (by have := HL.out; omega)
        have hbd := le_drop_bd zs HB.out 4 (p + 1) HL.out (by decide) (by omega)
        have hz := HB.out.at p (by have := HL.out; omega)
        obtain ⟨Z, hZ⟩ : ∃ Z, zs.getD p 0 = Z := ⟨_, rfl⟩
        obtain ⟨A, hA⟩ : ∃ A, le (zs.drop (p + 1)) = A := ⟨_, rfl⟩
        rw [hZ] at c1 hd hz
        rw [hA] at hd hbd
        have HO : Hid (bits .or .u64 (A * 256) Z = le (zs.drop p)) := by show _ = _; rw [or_low A Z hbd hz, hd]
        have HA : Hid (le (zs.drop (p + 1)) = A) := hA
        rw [hA]
        have w1 : A * 256 % 18446744073709551616 = A * 256 := by omega
        have i1 : (0 : Int) ≤ (p : Int) := by omega
        have i2 : (p : Int) < 4 := by omega
        clear hZ hA hc hx hd hf
        go_wp2
        go_roundw
        case rel => exact ⟨p, (p : Int) - 1, by omega, by omega, by go_num, by rw [← HO.out], by first | rfl | trivial⟩
        case measure => simp [intOf] <;> omega
      · obtain rfl : m = 0 := by omega
        obtain rfl : I = -1 := by omega
        have hbd := le_bd zs HB.out
        rw [HL.out] at hbd
        have hbd' : 0 ≤ le zs ∧ le zs < 4294967296 := by simpa using hbd
        rw [List.drop_zero]
        obtain ⟨A, hA⟩ : ∃ A, le zs = A := ⟨_, rfl⟩
        rw [hA] at hbd' ⊢
        have HA : Hid (le zs = A) := hA
        clear hx hf hbd hA
        go_wp2
        go_ret2
        exact ⟨by rw [HA.out]; rfl, rfl⟩
  · rw [leV_no zs hn]
    have hf := fits_32 ao n c t1 w
    have he : (fit n 4 != 0) = true := by
      rcases Nat.lt_or_gt_of_ne hn with h | h
      · rw [fit_short h]; rfl
      · rw [fit_rest h]; rfl
    generalize fit n 4 = E at *
    go_enter Try.func61, Try.ntmps61
    go_wp2_with (go_at_call 82; refine hf.mono ?_; rintro e w' ⟨rfl, rfl⟩)
    go_ret2
    exact ⟨rfl, rfl⟩
theorem little_64 (ao : Option Addr) (n c : Nat) (zs : List Int) (w : World) (hx : Seen w ao n zs) :
    Calls Try.prog 59 #[.slice ao n c] w fun e w' => e = .returned (.tuple #[.int .u64 (leV 8 n zs), .int .i64 (fit n 8)]) ∧ w = w' := by
  have t1 := hx.top
  by_cases hn : n = 8
  · subst hn
    have HL : Hid (zs.length = 8) := hx.len
    have HB : Hid (Bytes zs) := hx.bytes
    rw [leV_ok, fit_ok]
    have hf := fits_64 ao 8 c (by decide) w
    rw [fit_ok] at hf
    go_enter Try.func59, Try.ntmps59
    go_wp2_with (go_at_call 81; refine hf.mono ?_; rintro e w' ⟨rfl, rfl⟩)
    go_loopw [5, 6] (fun v i wr => ∃ (m : Nat) (I : Int), m ≤ 8 ∧ I + 1 = m ∧ i = .int .i64 I ∧ v = .int .u64 (le (zs.drop m)) ∧ wr = w) (fun _ i _ => (intOf i + 1).toNat)
    case atStart => exact ⟨8, 8 - 1, by omega, by omega, rfl, by rw [List.drop_of_length_le (by have := HL.out; omega)]; rfl, rfl⟩
    case round =>
      obtain ⟨m, I, hm, hI, rfl, rfl, rfl⟩ := hrel
      by_cases hlt : 0 < m
      · obtain ⟨b, o, rfl, hb, hc⟩ := hx.cells (by decide)
        obtain ⟨p, rfl⟩ : ∃ p, m = p + 1 := ⟨m - 1, by omega⟩
        obtain rfl : I = (p : Int) := by omega
        have c1 := hc p (by omega)
        have hd := le_drop zs p (by have := HL.out; omega)
        have hbd := le_drop_bd zs HB.out 8 (p + 1) HL.out (by decide) (by omega)
        have hz := HB.out.at p (by have := HL.out; omega)
        obtain ⟨Z, hZ⟩ : ∃ Z, zs.getD p 0 = Z := ⟨_, rfl⟩
        obtain ⟨A, hA⟩ : ∃ A, le (zs.drop (p + 1)) = A := ⟨_, rfl⟩
        rw [hZ] at c1 hd hz
        rw [hA] at hd hbd
        have HO : Hid (bits .or .u64 (A * 256) Z = le (zs.drop p)) := by show _ = _; rw [or_low A Z hbd hz, hd]
        have HA : Hid (le (zs.drop (p + 1)) = A) := hA
        rw [hA]
        have w1 : A * 256 % 18446744073709551616 = A * 256 := by omega
        have i1 : (0 : Int) ≤ (p : Int) := by omega
        have i2 : (p : Int) < 8 := by omega
        clear hZ hA hc hx hd hf
        go_wp2
        go_roundw
        case rel => exact ⟨p, (p : Int) - 1, by omega, by omega, by go_num, by rw [← HO.out], by first | rfl | trivial⟩
        case measure => simp [intOf] <;> omega
      · obtain rfl : m = 0 := by omega
        obtain rfl : I = -1 := by omega
        have hbd := le_bd zs HB.out
        rw [HL.out] at hbd
        have hbd' : 0 ≤ le zs ∧ le zs < 18446744073709551616 := by simpa using hbd
        rw [List.drop_zero]
        obtain ⟨A, hA⟩ : ∃ A, le zs = A := ⟨_, rfl⟩
        rw [hA] at hbd' ⊢
        have HA : Hid (le zs = A) := hA
        clear hx hf hbd hA
        go_wp2
        go_ret2
        exact ⟨by rw [HA.out]; rfl, rfl⟩
  · rw [leV_no zs hn]
    have hf := fits_64 ao n c t1 w
    have he : (fit n 8 != 0) = true := by
      rcases Nat.lt_or_gt_of_ne hn with h | h
      · rw [fit_short h]; rfl
      · rw [fit_rest h]; rfl
    generalize fit n 8 = E at *
    go_enter Try.func59, Try.ntmps59
    go_wp2_with (go_at_call 81; refine hf.mono ?_; rintro e w' ⟨rfl, rfl⟩)
    go_ret2
    exact ⟨rfl, rfl⟩
end Go.Proofs.Ytcimiajkbgabiaa

namespace Go.Proofs.Ytcimiajkbgabiaa
open Go.RowKit
set_option linter.unusedVariables false
set_option linter.unusedSimpArgs false

theorem add_at (b o j : Nat) : (⟨b, o, none⟩ : Addr).add j = ⟨b, o + j, none⟩ := by
  unfold Addr.add
  split
  · next h => subst h; rfl
  · rfl
theorem seen_news {w : World} {ao : Option Addr} {n : Nat} {zs : List Int} (hx : Seen w ao n zs) {ad : Addr} (e : ao = some ad) :
    ∀ j u, (zs.map (Value.int .u8))[j]? = some u → w.cell? (ad.add j) = some u := by
  intro j u hj
  have hlt : j < n := by
    rcases Nat.lt_or_ge j n with h | h
    · exact h
    · rw [List.getElem?_eq_none (by have := hx.len; simp; omega)] at hj; cases hj
  obtain ⟨b, o, e', _, hc⟩ := hx.cells (by omega)
  rw [e] at e'
  cases e'
  rw [add_at, hc j hlt, ← hj, List.getElem?_map]
  have : j < zs.length := by have := hx.len; omega
  simp [List.getD, this]
theorem one_bytes (zs : List Int) : ∀ u ∈ zs.map (Value.int .u8), u.oneCell' = true := by
  intro u hu
  obtain ⟨z, _, rfl⟩ := List.mem_map.1 hu
  rfl
theorem seen_nil {w : World} {n : Nat} {zs : List Int} (hx : Seen w none n zs) : n = 0 ∧ zs = [] := by
  have h : n = 0 := by
    rcases Nat.eq_zero_or_pos n with h | h
    · exact h
    · obtain ⟨b, o, e, _⟩ := hx.cells h; cases e
  exact ⟨h, List.length_eq_zero_iff.1 (by rw [hx.len]; exact h)⟩
theorem below_grown {w w1 w2 : World} {v : Value} {n : Nat} {xs : List Value} (hb : Below w.heap.size w w1) (ho : w1.ownsRow w.heap.size 5 1 v n xs) (hg : w1.grownBy w2 v.ownBlock) : Below w.heap.size w w2 :=
  hb.grown hg hb.size (fun j hj => (ho.lt j hj).1)
theorem own_made (w : World) (c : Nat) (hc : c ≤ maxLen) (cs : Array Value) (hs : cs.size = c) : (w.alloc (.cells cs 5)).ownsRow w.heap.size 5 1 (.slice (some ⟨w.heap.size, 0, none⟩) 0 c) 0 [] :=
  World.ownsRow_made w _ c (Nat.le_refl _) hc (by rw [hs, Nat.mul_one])

/-- append of a slice that is seen, nil or not, onto a row of the call's own. -/
theorem wpList_append_seen {ops : Array Oper} {rest : List Oper} {o : Oper} {a : Act} {Q : Exit → Act → World → Prop} {w : World} (hgd : o.guard = none) (s x : Operand)
    (ho : o.op = .call { callee := .builtin .append, args := #[s, x], argTypes := #[22, 22] }) (base : Nat) (v : Value) (n : Nat) (xs : List Value) (hs : a.eval s = v) (hown : w.ownsRow base 5 1 v n xs)
    (ao : Option Addr) (m c : Nat) (zs : List Int) (hx : a.eval x = .slice ao m c) (hsn : Seen w ao m zs) (hc : ao = none → c = 0) (hb : n + m ≤ 140737488355328) (hbase : base ≤ w.heap.size)
    (h : ∀ v' w', w'.ownsRow base 5 1 v' (n + m) (xs ++ zs.map (Value.int .u8)) → w.grownBy w' v.ownBlock → wpList Try.prog ops Q rest (a.put o.dst v') w') : wpList Try.prog ops Q (o :: rest) a w := by
  obtain ⟨i0, hi, hz0, hz1, hz2⟩ := info_parts info_byte
  cases ao with
  | none =>
    obtain ⟨rfl, rfl⟩ := seen_nil hsn
    obtain rfl := hc rfl
    refine wpList_append_own_none hgd s x 22 ho base 5 i0 1 Try.underlying22 hi v n xs hs hown hx (h v w ?_ ?_)
    · simpa using hown
    · exact ⟨rfl, rfl, rfl, Nat.le_refl _, fun _ _ _ => rfl⟩
  | some ad =>
    refine wpList_append_own _ hgd s x 22 ho base 5 i0 (.int .u8 0) 1 1 Try.underlying22 hi hz0 hz1 hz2 rfl (by decide) v n xs hs hown ad m c (zs.map (Value.int .u8)) hx ?_ (seen_news hsn rfl) (one_bytes zs) ?_ ?_ hbase (fun v' w' h1 h2 _ => h v' w' h1 h2)
    · rw [List.length_map, hsn.len, Nat.mul_one]
    · unfold maxLen; omega
    · omega

/-- The same, and where the new slice lies. -/
theorem wpList_append_seen_at {ops : Array Oper} {rest : List Oper} {o : Oper} {a : Act} {Q : Exit → Act → World → Prop} {w : World} (hgd : o.guard = none) (s x : Operand)
    (ho : o.op = .call { callee := .builtin .append, args := #[s, x], argTypes := #[22, 22] }) (base : Nat) (v : Value) (n : Nat) (xs : List Value) (hs : a.eval s = v) (hown : w.ownsRow base 5 1 v n xs)
    (ao : Option Addr) (m c : Nat) (zs : List Int) (hx : a.eval x = .slice ao m c) (hsn : Seen w ao m zs) (hc : ao = none → c = 0) (hb : n + m ≤ 140737488355328) (hbase : base ≤ w.heap.size)
    (h : ∀ v' w', w'.ownsRow base 5 1 v' (n + m) (xs ++ zs.map (Value.int .u8)) → w.grownBy w' v.ownBlock → (v'.ownBlock = v.ownBlock ∨ v'.ownBlock = some w.heap.size) → wpList Try.prog ops Q rest (a.put o.dst v') w') : wpList Try.prog ops Q (o :: rest) a w := by
  obtain ⟨i0, hi, hz0, hz1, hz2⟩ := info_parts info_byte
  cases ao with
  | none =>
    obtain ⟨rfl, rfl⟩ := seen_nil hsn
    obtain rfl := hc rfl
    refine wpList_append_own_none hgd s x 22 ho base 5 i0 1 Try.underlying22 hi v n xs hs hown hx (h v w ?_ ?_ (.inl rfl))
    · simpa using hown
    · exact ⟨rfl, rfl, rfl, Nat.le_refl _, fun _ _ _ => rfl⟩
  | some ad =>
    refine wpList_append_own_at _ hgd s x 22 ho base 5 i0 (.int .u8 0) 1 1 Try.underlying22 hi hz0 hz1 hz2 rfl (by decide) v n xs hs hown ad m c (zs.map (Value.int .u8)) hx ?_ (seen_news hsn rfl) (one_bytes zs) ?_ ?_ hbase (fun v' w' h1 h2 _ h4 => h v' w' h1 h2 h4)
    · rw [List.length_map, hsn.len, Nat.mul_one]
    · unfold maxLen; omega
    · omega

set_option maxRecDepth 20000 in
theorem clone_any (ao : Option Addr) (n c : Nat) (zs : List Int) (w : World) (hx : Seen w ao n zs) :
    Calls Try.prog 41 #[.slice ao n c] w fun e w' => ∃ v, e = .returned v ∧ w'.ownsRow w.heap.size 5 1 v n (zs.map (Value.int .u8)) ∧ Below w.heap.size w w' := by
  have t1 := hx.top
  obtain ⟨i0, hi, hz0, hz1, hz2⟩ := info_parts info_byte
  cases ao with
  | none =>
    obtain ⟨rfl, rfl⟩ := seen_nil hx
    have hq : ∀ wx, (binOp .eql 22 (.slice none 0 c) (.slice none 0 0)).run Try.prog wx = .ok (.bool true) wx := fun wx => Lib.run_eql_slice_nil wx 22 5 none 0 c 0 0 Try.underlying22
    go_enter Try.func41, Try.ntmps41
    go_wp2
    go_ret
    exact ⟨_, rfl, World.ownsRow_nil _ _ _ _, Below.refl _ _⟩
  | some ad =>
    have hb1 : Below w.heap.size w (w.alloc (.cells #[] 5)) := (Below.refl _ _).alloc (Nat.le_refl _) _
    have ho1 := own_made w 0 (Nat.zero_le _) #[] rfl
    have HN : Hid _ := seen_news (hx.later hb1 (Nat.le_refl _)) rfl
    have HL : Hid (zs.length = n) := hx.len
    have hq : ∀ wx, (binOp .eql 22 (.slice (some ad) n c) (.slice none 0 0)).run Try.prog wx = .ok (.bool false) wx := fun wx => Lib.run_eql_slice_nil wx 22 5 (some ad) n c 0 0 Try.underlying22
    go_enter Try.func41, Try.ntmps41
    go_wp2_with (at_builtin; refine wpList_append_own _ rfl _ _ 22 rfl w.heap.size 5 i0 (.int .u8 0) 1 1 Try.underlying22 hi hz0 hz1 hz2 rfl (by decide) _ 0 [] rfl ho1 ad n c (zs.map (Value.int .u8)) rfl ?c0 HN.out (one_bytes zs) ?c3 ?c4 hb1.size ?_)
    case c0 => simp [HL.out]
    case c3 => unfold maxLen; omega
    case c4 => omega
    · intro v' w1 hown hgrow _
      have R : Hid (Below w.heap.size w w1) := below_grown hb1 ho1 hgrow
      try simp only [Nat.zero_add, List.nil_append] at hown
      have HO : Hid _ := hown
      clear hown hgrow ho1
      go_wp2
      go_ret
      exact ⟨_, rfl, HO.out, R.out⟩

set_option maxRecDepth 20000 in
theorem room_any (ao : Option Addr) (n c m : Nat) (zs : List Int) (w : World) (hx : Seen w ao n zs) (hc : ao = none → c = 0) (hm : m ≤ 8) :
    Calls Try.prog 50 #[.slice ao n c, .int .i64 m] w fun e w' => ∃ v, e = .returned v ∧ w'.ownsRow w.heap.size 5 1 v n (zs.map (Value.int .u8)) ∧ Below w.heap.size w w' := by
  have t1 := hx.top
  obtain ⟨i0, hi, hz0, hz1, hz2⟩ := info_parts info_byte
  obtain ⟨w0, hmk, ho1, hg0⟩ := run_make_own (P := Try.prog) w w.heap.size 22 5 i0 (.int .u8 0) 1 Try.underlying22 hi hz0 hz1 .i64 .i64 (n + m) (by rw [hz2]; omega) (by unfold maxLen; omega) (Nat.le_refl _)
  have hb1 : Below w.heap.size w w0 := (Below.refl _ _).grown hg0 (Nat.le_refl _) (fun j hj => by cases hj)
  have ec : ((n + m : Nat) : Int) = (n : Int) + (m : Int) := by omega
  rw [ec] at hmk
  have HL : Hid (zs.length = n) := hx.len
  have hs := hx.later hb1 (Nat.le_refl _)
  cases ao with
  | none =>
    obtain ⟨rfl, rfl⟩ := seen_nil hx
    obtain rfl := hc rfl
    rw [Nat.zero_add] at ho1
    simp at hmk
    have HO : Hid (w0.ownsRow w.heap.size 5 1 (.slice (some ⟨w.heap.size, 0, none⟩) 0 m) 0 []) := ho1
    clear ho1
    go_enter Try.func50, Try.ntmps50
    go_wp2_with (at_builtin; refine wpList_append_own_none rfl _ _ 22 rfl w.heap.size 5 i0 1 Try.underlying22 hi _ 0 [] rfl HO.out rfl ?_)
    go_ret
    exact ⟨_, rfl, HO.out, hb1⟩
  | some ad =>
    have HN : Hid _ := seen_news hs rfl
    have HO1 : Hid (w0.ownsRow w.heap.size 5 1 (.slice (some ⟨w.heap.size, 0, none⟩) 0 (n + m)) 0 []) := ho1
    have HB1 : Hid _ := hb1
    clear ho1 hs
    go_enter Try.func50, Try.ntmps50
    go_wp2_with (at_builtin; refine wpList_append_own _ rfl _ _ 22 rfl w.heap.size 5 i0 (.int .u8 0) 1 1 Try.underlying22 hi hz0 hz1 hz2 rfl (by decide) _ 0 [] rfl HO1.out ad n c (zs.map (Value.int .u8)) rfl ?c0 HN.out (one_bytes zs) ?c3 ?c4 HB1.out.size ?_)
    case c0 => simp [HL.out]
    case c3 => unfold maxLen; omega
    try case c4 => omega
    · intro v' w1 hown hgrow _
      have R : Hid (Below w.heap.size w w1) := below_grown HB1.out HO1.out hgrow
      try simp only [Nat.zero_add, List.nil_append] at hown
      have HO : Hid _ := hown
      clear hown hgrow hb1 hg0
      go_wp2
      go_ret
      exact ⟨_, rfl, HO.out, R.out⟩
end Go.Proofs.Ytcimiajkbgabiaa

namespace Go.Proofs.Ytcimiajkbgabiaa
open Go.RowKit
set_option linter.unusedVariables false
set_option linter.unusedSimpArgs false

theorem app_getD (xs ys : List Int) (n k : Nat) (hl : xs.length = n) : (xs ++ ys).getD (n + k) 0 = ys.getD k 0 := by
  subst hl
  simp [List.getD, List.getElem?_append_right]
theorem app_take (xs ys : List Int) (n : Nat) (hl : xs.length = n) : ((xs ++ ys).map (Value.int .u8)).take n = xs.map (Value.int .u8) := by
  rw [List.map_append, List.take_append_of_le_length (by simp; omega), List.take_of_length_le (by simp; omega)]
theorem app_all (xs ys : List Int) (n k : Nat) (hl : xs.length = n) (hk : ys.length = k) : ((xs ++ ys).map (Value.int .u8)).take (n + k) = (xs ++ ys).map (Value.int .u8) :=
  List.take_of_length_le (by simp; omega)

set_option maxHeartbeats 1000000 in
set_option maxRecDepth 20000 in
theorem put_32 (ao : Option Addr) (n c : Nat) (zs : List Int) (x : Int) (w : World) (hx : Seen w ao n zs) (hc : ao = none → c = 0) (hn : n + 8 ≤ 140737488355328) (hv : 0 ≤ x ∧ x < 4294967296) :
    Calls Try.prog 35 #[.slice ao n c, .int .u32 x] w fun e w' => ∃ v, e = .returned v ∧ w'.ownsRow w.heap.size 5 1 v (n + 4) ((zs ++ leB 4 x).map (Value.int .u8)) ∧ Below w.heap.size w w' := by
  obtain ⟨i0, hi, hz0, hz1, hz2⟩ := info_parts info_byte
  have A1 : Hid (∀ k, k < 4 → (zs ++ leB 4 x).getD (n + k) 0 = x / 256 ^ k % 256) := fun k hk => by rw [app_getD _ _ _ _ hx.len, leB_at _ _ _ hk]
  have A2 : Hid (((zs ++ leB 4 x).map (Value.int .u8)).take n = zs.map (Value.int .u8)) := app_take _ _ _ hx.len
  have A3 : Hid (((zs ++ leB 4 x).map (Value.int .u8)).take (n + 4) = (zs ++ leB 4 x).map (Value.int .u8)) := app_all _ _ _ _ hx.len (leB_length _ _)
  have A4 : Hid ((zs ++ leB 4 x).length = n + 4) := by show _ = _; rw [List.length_append, hx.len, leB_length]
  generalize zs ++ leB 4 x = zm at *
  have hr := room_any ao n c 4 zs w hx hc (by decide)
  go_enter Try.func35, Try.ntmps35
  go_wp2_with (first | (go_at_call 51; with_reducible refine (width_32 _).mono ?_; rintro e w' ⟨rfl, rfl⟩) | (go_at_call 50; refine hr.mono ?_; rintro e w1 ⟨v, rfl, hown, hbel⟩))
  go_loopw [5, 11] (fun v i wr => ∃ k : Nat, k ≤ 4 ∧ i = .int .i64 k ∧ wr.ownsRow w.heap.size 5 1 v (n + k) ((zm.map (Value.int .u8)).take (n + k)) ∧ Below w.heap.size w wr) (fun _ i _ => 4 - (intOf i).toNat)
  case atStart => exact ⟨0, Nat.zero_le _, rfl, by rw [Nat.add_zero, A2.out]; exact hown, hbel⟩
  case round =>
    clear hown hbel hx hr
    obtain ⟨k, hk, rfl, hown, hbel⟩ := hrel
    by_cases hlt : k < 4
    · have hsz := hbel.size
      have HZ : Hid (zm.getD (n + k) 0 = x / 256 ^ k % 256) := A1.out k hlt
      have i1 : (k : Int) < 4 := by omega
      go_wp2_with fail
      refine (byteAt_32 x hv k hlt wr).mono ?_
      rintro e w' ⟨rfl, rfl⟩
      go_wp2_with (at_builtin; refine wpList_append_own _ rfl _ _ 22 rfl w.heap.size 5 i0 (.int .u8 0) 1 1 Try.underlying22 hi hz0 hz1 hz2 rfl (by decide) _ _ _ rfl (hown.alloc _) ⟨wr.heap.size, 0, none⟩ 1 1 [.int .u8 (x / 256 ^ k % 256)] rfl rfl ?c1 ?c2 ?c3 ?c4 ?c5 ?_)
      case c1 => exact cell_one_new _ _ _
      case c2 => intro u hu; simp at hu; subst hu; rfl
      case c3 => unfold maxLen; omega
      case c4 => omega
      case c5 => simp; omega
      · intro v' w1 hown' hgrow _
        have R := step_own hbel hown (by have := A4.out; omega) HZ.out hown' hgrow
        clear hown' hgrow hown hbel
        go_wp2
        go_roundw
        case rel => exact ⟨k + 1, by omega, by go_num, R.1, R.2⟩
        case measure => simp [intOf] <;> omega
    · have e : k = 4 := by omega
      subst e
      have HO : Hid _ := hown
      have HB : Hid _ := hbel
      clear hown hbel
      go_wp2
      go_ret
      refine ⟨_, rfl, ?_, HB.out⟩
      have h := HO.out
      rwa [A3.out] at h
set_option maxHeartbeats 1000000 in
set_option maxRecDepth 20000 in
theorem put_64 (ao : Option Addr) (n c : Nat) (zs : List Int) (x : Int) (w : World) (hx : Seen w ao n zs) (hc : ao = none → c = 0) (hn : n + 8 ≤ 140737488355328) (hv : 0 ≤ x ∧ x < 18446744073709551616) :
    Calls Try.prog 36 #[.slice ao n c, .int .u64 x] w fun e w' => ∃ v, e = .returned v ∧ w'.ownsRow w.heap.size 5 1 v (n + 8) ((zs ++ leB 8 x).map (Value.int .u8)) ∧ Below w.heap.size w w' := by
  obtain ⟨i0, hi, hz0, hz1, hz2⟩ := info_parts info_byte
  have A1 : Hid (∀ k, k < 8 → (zs ++ leB 8 x).getD (n + k) 0 = x / 256 ^ k % 256) := fun k hk => by rw [app_getD _ _ _ _ hx.len, leB_at _ _ _ hk]
  have A2 : Hid (((zs ++ leB 8 x).map (Value.int .u8)).take n = zs.map (Value.int .u8)) := app_take _ _ _ hx.len
  have A3 : Hid (((zs ++ leB 8 x).map (Value.int .u8)).take (n + 8) = (zs ++ leB 8 x).map (Value.int .u8)) := app_all _ _ _ _ hx.len (leB_length _ _)
  have A4 : Hid ((zs ++ leB 8 x).length = n + 8) := by show _ = _; rw [List.length_append, hx.len, leB_length]
  generalize zs ++ leB 8 x = zm at *
  have hr := room_any ao n c 8 zs w hx hc (by decide)
  go_enter Try.func36, Try.ntmps36
  go_wp2_with (first | (go_at_call 53; with_reducible refine (width_64 _).mono ?_; rintro e w' ⟨rfl, rfl⟩) | (go_at_call 50; refine hr.mono ?_; rintro e w1 ⟨v, rfl, hown, hbel⟩))
  go_loopw [5, 11] (fun v i wr => ∃ k : Nat, k ≤ 8 ∧ i = .int .i64 k ∧ wr.ownsRow w.heap.size 5 1 v (n + k) ((zm.map (Value.int .u8)).take (n + k)) ∧ Below w.heap.size w wr) (fun _ i _ => 8 - (intOf i).toNat)
  case atStart => exact ⟨0, Nat.zero_le _, rfl, by rw [Nat.add_zero, A2.out]; exact hown, hbel⟩
  case round =>
    clear hown hbel hx hr
    obtain ⟨k, hk, rfl, hown, hbel⟩ := hrel
    by_cases hlt : k < 8
    · have hsz := hbel.size
      have HZ : Hid (zm.getD (n + k) 0 = x / 256 ^ k % 256) := A1.out k hlt
      have i1 : (k : Int) < 8 := by omega
      go_wp2_with fail
      refine (byteAt_64 x hv k hlt wr).mono ?_
      rintro e w' ⟨rfl, rfl⟩
      go_wp2_with (at_builtin; refine wpList_append_own _ rfl _ _ 22 rfl w.heap.size 5 i0 (.int .u8 0) 1 1 Try.underlying22 hi hz0 hz1 hz2 rfl (by decide) _ _ _ rfl (hown.alloc _) ⟨wr.heap.size, 0, none⟩ 1 1 [.int .u8 (x / 256 ^ k % 256)] rfl rfl ?c1 ?c2 ?c3 ?c4 ?c5 ?_)
      case c1 => exact cell_one_new _ _ _
      case c2 => intro u hu; simp at hu; subst hu; rfl
      case c3 => unfold maxLen; omega
      case c4 => omega
      case c5 => simp; omega
      · intro v' w1 hown' hgrow _
        have R := step_own hbel hown (by have := A4.out; omega) HZ.out hown' hgrow
        clear hown' hgrow hown hbel
        go_wp2
        go_roundw
        case rel => exact ⟨k + 1, by omega, by go_num, R.1, R.2⟩
        case measure => simp [intOf] <;> omega
    · have e : k = 8 := by omega
      subst e
      have HO : Hid _ := hown
      have HB : Hid _ := hbel
      clear hown hbel
      go_wp2
      go_ret
      refine ⟨_, rfl, ?_, HB.out⟩
      have h := HO.out
      rwa [A3.out] at h
end Go.Proofs.Ytcimiajkbgabiaa

namespace Go.Proofs.Ytcimiajkbgabiaa
open Go.RowKit
set_option linter.unusedVariables false
set_option linter.unusedSimpArgs false

/-- Block g is of type t and holds just these values. -/
def Blk (w : World) (g : Nat) (t : TypeId) (vs : List Value) : Prop := w.heap[g]? = some (.cells vs.toArray t (0, 0))
theorem Blk.cell {w : World} {g : Nat} {t : TypeId} {vs : List Value} (h : Blk w g t vs) (j : Nat) : w.cell? ⟨g, j, none⟩ = vs[j]? := by
  rw [cell_of_row w g j _ t (0, 0) h]; simp
theorem Blk.frozen {w : World} {g : Nat} {t : TypeId} {vs : List Value} (h : Blk w g t vs) (j : Nat) : w.frozen? ⟨g, j, none⟩ = false := frozen_of_row w g j _ t h
theorem Blk.lt {w : World} {g : Nat} {t : TypeId} {vs : List Value} (h : Blk w g t vs) : g < w.heap.size := by
  rcases Nat.lt_or_ge g w.heap.size with h' | h'
  · exact h'
  · unfold Blk at h; rw [Array.getElem?_eq_none h'] at h; cases h
theorem Blk.block {w w' : World} {g : Nat} {t : TypeId} {vs : List Value} (h : Blk w g t vs) (e : w'.heap[g]? = w.heap[g]?) : Blk w' g t vs := e.trans h
theorem Blk.later {w w' : World} {g : Nat} {t : TypeId} {vs : List Value} (h : Blk w g t vs) {B : Nat} (hb : Below B w w') (hB : g < B) : Blk w' g t vs := h.block (hb.block g hB)
theorem Blk.kept {S : Nat → Prop} {w w' : World} {g : Nat} {t : TypeId} {vs : List Value} (h : Blk w g t vs) (hk : Kept S w w') (hS : ¬ S g) : Blk w' g t vs := h.block (hk.block g h.lt hS)
theorem Blk.drewN {w : World} {g : Nat} {t : TypeId} {vs : List Value} (h : Blk w g t vs) (k : Nat) : Blk (w.drewN k) g t vs := h
theorem Blk.drew {w : World} {g : Nat} {t : TypeId} {vs : List Value} (h : Blk w g t vs) : Blk w.drew g t vs := h
theorem Blk.set {w : World} {g : Nat} {t : TypeId} {vs : List Value} (h : Blk w g t vs) (j : Nat) (u : Value) : Blk (w.setCell ⟨g, j, none⟩ u) g t (vs.set j u) := by
  unfold Blk
  rw [heap_setCell_same w g j _ t _ h]; simp
theorem Blk.other {w : World} {g : Nat} {t : TypeId} {vs : List Value} (h : Blk w g t vs) {p : Addr} (hp : g ≠ p.block) (u : Value) : Blk (w.setCell p u) g t vs := h.block (Below.heap_setCell _ _ _ _ hp)
theorem Blk.range {w : World} {g : Nat} {t : TypeId} {xs ys zs : List Value} (h : Blk w g t (xs ++ (ys ++ zs))) : w.rangeAt g xs.length ys := fun j v hv => by
  have hj : j < ys.length := (List.getElem?_eq_some_iff.1 hv).1
  rw [h.cell, List.getElem?_append_right (Nat.le_add_right _ _), Nat.add_sub_cancel_left, List.getElem?_append_left hj]; exact hv
theorem Blk.there {w : World} {g : Nat} {t : TypeId} {vs : List Value} (h : Blk w g t vs) {o n : Nat} (hn : o + n ≤ vs.length) : w.there g o n := fun j hj =>
  ⟨by rw [h.cell, List.getElem?_eq_getElem (by omega)]; rfl, h.frozen _⟩

/-- setCells over a block that is known whole. -/
theorem set_mid (xs ys zs : List Value) (v y : Value) : (xs ++ (y :: (ys ++ zs))).set xs.length v = xs ++ [v] ++ (ys ++ zs) := by
  rw [List.set_append_right _ _ (Nat.le_refl _), Nat.sub_self, List.set_cons_zero]; simp
theorem Blk.setCells {g : Nat} {t : TypeId} : ∀ (us ys : List Value) {w : World} {xs zs : List Value}, us.length = ys.length → Blk w g t (xs ++ (ys ++ zs)) → Blk (w.setCells g xs.length us) g t (xs ++ (us ++ zs))
  | [], [], w, xs, zs, _, h => h
  | u :: us, y :: ys, w, xs, zs, hl, h => by
    have h1 := h.set xs.length u
    rw [List.cons_append, set_mid] at h1
    have := Blk.setCells us ys (xs := xs ++ [u]) (zs := zs) (by simpa using hl) h1
    rw [List.length_append] at this
    simpa [World.setCells] using this
theorem setCells_heap_other (b : Nat) : ∀ (vs : List Value) (o : Nat) (w : World) (k : Nat), k ≠ b → (w.setCells b o vs).heap[k]? = w.heap[k]?
  | [], _, _, _, _ => rfl
  | v :: r, o, w, k, h => by
    rw [World.setCells, setCells_heap_other b r _ _ k h]
    exact Below.heap_setCell _ _ _ _ h
theorem setCells_size (b : Nat) : ∀ (vs : List Value) (o : Nat) (w : World), (w.setCells b o vs).heap.size = w.heap.size
  | [], _, _ => rfl
  | v :: r, o, w => by
    rw [World.setCells, setCells_size b r]
    simp [World.setCell]
theorem setCells_rest (b : Nat) : ∀ (vs : List Value) (o : Nat) (w : World), (w.setCells b o vs).os = w.os ∧ (w.setCells b o vs).tape = w.tape ∧ (w.setCells b o vs).output = w.output
  | [], _, _ => ⟨rfl, rfl, rfl⟩
  | v :: r, o, w => by
    rw [World.setCells]
    exact setCells_rest b r _ _
theorem Kept.setCells {S : Nat → Prop} {a w : World} (h : Kept S a w) {b : Nat} (hb : S b) (o : Nat) (vs : List Value) : Kept S a (w.setCells b o vs) :=
  h.trans ⟨(setCells_rest b vs o w).1, (setCells_rest b vs o w).2.1, (setCells_rest b vs o w).2.2, by rw [setCells_size]; exact Nat.le_refl _, fun k _ hs => setCells_heap_other b vs o w k (fun e => hs (e ▸ hb))⟩
theorem Kept.drewN {S : Nat → Prop} {a w : World} (h : Kept S a w) (n : Nat) : Kept S a (w.drewN n) := ⟨h.os, h.tape, h.output, h.size, h.block⟩
theorem Kept.of_below {S : Nat → Prop} {w w' : World} {B : Nat} (h : Below B w w') (hS : ∀ k, k < w.heap.size → B ≤ k → S k) : Kept S w w' :=
  ⟨h.os, h.tape, h.output, h.size, fun k hk hs => h.block k (by
    rcases Nat.lt_or_ge k B with h1 | h1
    · exact h1
    · exact absurd (hS k hk h1) hs)⟩
theorem Kept.new {w w' : World} (S : Nat → Prop) (h : Below w.heap.size w w') : Kept S w w' := Kept.of_below h (fun k h1 h2 => by omega)
theorem one_ints (k : IntKind) (zs : List Int) : ∀ v ∈ zs.map (Value.int k), v.oneCell' = true := by
  intro v hv
  obtain ⟨z, _, rfl⟩ := List.mem_map.1 hv
  rfl

/-- A new variable of zeros. -/
theorem wpList_alloc_new {ops : Array Oper} {rest : List Oper} {o : Oper} {a : Act} {Q : Exit → Act → World → Prop} {w : World} (hgd : o.guard = none) (t : TypeId) (ho : o.op = .alloc t) (n : Nat) (vs : List Value)
    (hz : (Try.prog.info? t).map (fun i => (i.zero, i.size)) = some (some (.agg vs.toArray), n))
    (h : ∀ w', Blk w' w.heap.size t vs → w'.heap.size = w.heap.size + 1 → Below w.heap.size w w' → wpList Try.prog ops Q rest (a.put o.dst (.pointer (some ⟨w.heap.size, 0, none⟩))) w') : wpList Try.prog ops Q (o :: rest) a w := by
  refine wpList_plain hgd fun K hK => ?_
  unfold Oper.wp execOp
  simp only [ho, Sem.run_bind, Instr.alloc, (zero_of_info hz).1, newVar, newRow, run_newObj_alloc, Sem.run_pure, Result.andThen_ok]
  exact hK _ _ (h _ (heap_alloc_new w _) (by simp) ((Below.refl _ _).alloc (Nat.le_refl _) _))
/-- A new variable that holds a value of many cells. -/
theorem wpList_box_new {ops : Array Oper} {rest : List Oper} {o : Oper} {a : Act} {Q : Exit → Act → World → Prop} {w : World} (hgd : o.guard = none) (t : TypeId) (x : Operand) (ho : o.op = .box t x) (vs : List Value) (hx : a.eval x = .agg vs.toArray)
    (h : ∀ w', Blk w' w.heap.size t vs → w'.heap.size = w.heap.size + 1 → Below w.heap.size w w' → wpList Try.prog ops Q rest (a.put o.dst (.pointer (some ⟨w.heap.size, 0, none⟩))) w') : wpList Try.prog ops Q (o :: rest) a w := by
  refine wpList_plain hgd fun K hK => ?_
  unfold Oper.wp execOp
  simp only [ho, hx, Sem.run_bind, Instr.box, Value.cells, newVar, newRow, run_newObj_alloc, Sem.run_pure, Result.andThen_ok]
  exact hK _ _ (h _ (heap_alloc_new w _) (by simp) ((Below.refl _ _).alloc (Nat.le_refl _) _))
/-- A whole variable read. -/
theorem wpList_load_blk {ops : Array Oper} {rest : List Oper} {o : Oper} {a : Act} {Q : Exit → Act → World → Prop} {w : World} (hgd : o.guard = none) (t : TypeId) (x : Operand) (ho : o.op = .load t x) (g : Nat) (hx : a.eval x = .pointer (some ⟨g, 0, none⟩))
    (vs : List Value) (d : TypeDesc) (hb : Blk w g t vs) (hu : Try.prog.underlying t = some d) (hd : d.isRow = true) (hi : (Try.prog.info? t).map (·.size) = some vs.length)
    (h : wpList Try.prog ops Q rest (a.put o.dst (.agg vs.toArray)) w) : wpList Try.prog ops Q (o :: rest) a w :=
  wpList_load_mid hgd t x ho g 0 hx vs d (fun j v hv => by rw [Nat.zero_add, hb.cell]; exact hv) hu hd hi h
/-- A whole variable written. -/
theorem wpList_store_blk {ops : Array Oper} {rest : List Oper} {o : Oper} {a : Act} {Q : Exit → Act → World → Prop} {w : World} (hgd : o.guard = none) (t t' : TypeId) (x y : Operand) (ho : o.op = .store t x y) (g : Nat) (hx : a.eval x = .pointer (some ⟨g, 0, none⟩))
    (vs us : List Value) (hy : a.eval y = .agg us.toArray) (hb : Blk w g t' vs) (hl : us.length = vs.length) (hi : (Try.prog.info? t).map (·.size) = some us.length) (h1 : ∀ v ∈ us, v.oneCell' = true)
    (h : ∀ w', Blk w' g t' us → w'.heap.size = w.heap.size → Kept (fun k => k = g) w w' → wpList Try.prog ops Q rest (a.put o.dst undef) w') : wpList Try.prog ops Q (o :: rest) a w := by
  refine wpList_store_mid hgd t x y ho g 0 us.toArray hx hy (hb.there (by simp; omega)) (by simpa using hi) (all_oneCell_toArray h1) (h _ ?_ ?_ ?_)
  · have := Blk.setCells (xs := []) (zs := []) us vs hl (by simpa using hb)
    simpa using this
  · exact setCells_size ..
  · exact (Kept.refl _ _).setCells (S := fun k => k = g) rfl _ _
/-- In a region that draws: an operation that yields its value in whatever world is taken first. -/
theorem take_op {md : Region.Mode} {ops : Array Oper} {Q : Exit → Act → World → Prop} {oi : Oper} {fuel : Nat} {listed : Array Bool} {a : Act} {w : World} (i : Nat) (d : Option Tmp) (v : Value) (hi : ops[i]? = some oi) (hd : oi.dst = d)
    (hs : Region.noSelect ops = true) (hf : Region.free md ops listed i = true) (hr : (Region.ready md ops listed).contains i = true) (hQ : ∀ c a w, Q (.panic c) (a.put d v) w → Q (.panic c) a w)
    (hw : Region.wanted oi (yielded ops a.tmps) = true) (hy : ∀ w, (execOp a.eval oi).run Try.prog w = .ok (.value v) w)
    (h : wpAny Try.prog md ops Q fuel (listed.setIfInBounds i true) (a.put d v) w) : wpAny Try.prog md ops Q (fuel + 1) listed a w := by
  subst hd
  exact wpAny_take hi hs hf hr hQ (Or.inl ⟨hw, hy⟩) h
/-- In a region that draws: many cells read, many cells written. -/
theorem step_load {ops : Array Oper} {Q : Exit → Act → World → Prop} {o : Oper} {a : Act} {w : World} {K : Act → World → Prop} {E : Prop} (d : Option Tmp) (hdst : o.dst = d) (hw : Region.wanted o (yielded ops a.tmps) = true) (ty : TypeId) (x : Operand) (ho : o.op = .load ty x)
    (b off : Nat) (hx : a.eval x = .pointer (some ⟨b, off, none⟩)) (cs : List Value) (ds : TypeDesc) (hc : w.rangeAt b off cs) (hu : Try.prog.underlying ty = some ds) (hd : ds.isRow = true) (hi : (Try.prog.info? ty).map (·.size) = some cs.length)
    (h : K (a.put d (.agg cs.toArray)) w) : if Region.wanted o (yielded ops a.tmps) = true then Oper.wp Try.prog o a w K Q else E := by
  subst hdst
  rw [if_pos hw]
  exact wp_load_mid ty x ho b off hx cs ds hc hu hd hi h
theorem step_store {ops : Array Oper} {Q : Exit → Act → World → Prop} {o : Oper} {a : Act} {w : World} {K : Act → World → Prop} {E : Prop} (hdst : o.dst = none) (hw : Region.wanted o (yielded ops a.tmps) = true) (ty : TypeId) (x y : Operand) (ho : o.op = .store ty x y)
    (b off : Nat) (hx : a.eval x = .pointer (some ⟨b, off, none⟩)) (cs : List Value) (hy : a.eval y = .agg cs.toArray) (ht : w.there b off cs.length) (hi : (Try.prog.info? ty).map (·.size) = some cs.length) (h1 : ∀ v ∈ cs, v.oneCell' = true)
    (h : K a (w.setCells b off cs)) : if Region.wanted o (yielded ops a.tmps) = true then Oper.wp Try.prog o a w K Q else E := by
  rw [if_pos hw]
  refine wp_store_mid ty x y ho b off cs.toArray hx hy (by simpa using ht) (by simpa using hi) (all_oneCell_toArray h1) ?_
  rw [hdst]
  exact h
/-- One operation of a region that draws, carried out. -/
def Stp (ops : Array Oper) (Q : Exit → Act → World → Prop) (o : Oper) (a : Act) (w : World) (a' : Act) (w' : World) : Prop :=
  ∀ K : Act → World → Prop, K a' w' → if Region.wanted o (yielded ops a.tmps) = true then Oper.wp Try.prog o a w K Q else K (a.put o.dst undef) w
theorem one_step {md : Region.Mode} {ops : Array Oper} {Q : Exit → Act → World → Prop} {fuel : Nat} {listed : Array Bool} {a a' : Act} {w w' : World} (i : Nat) {oi : Oper} (hi : ops[i]? = some oi) (hr : Region.ready md ops listed = [i])
    (s : Stp ops Q oi a w a' w') (h : wpAny Try.prog md ops Q fuel (listed.setIfInBounds i true) a' w') : wpAny Try.prog md ops Q (fuel + 1) listed a w :=
  wpAny_ready hr (by simp) (AllReady.cons hi (fun K hK => s K (hK _ _ h)) AllReady.nil)
/-- Two operations that may come in either order, and come to one end. -/
theorem two_steps {md : Region.Mode} {ops : Array Oper} {Q : Exit → Act → World → Prop} {fuel : Nat} {listed : Array Bool} {a a1 a2 a3 : Act} {w : World} (i j : Nat) {oi oj : Oper} (hi : ops[i]? = some oi) (hj : ops[j]? = some oj) (hij : i ≠ j)
    (hr : Region.ready md ops listed = [i, j]) (hr1 : Region.ready md ops (listed.setIfInBounds i true) = [j]) (hr2 : Region.ready md ops (listed.setIfInBounds j true) = [i])
    (s1 : Stp ops Q oi a w a1 w) (s2 : Stp ops Q oj a1 w a3 w) (t1 : Stp ops Q oj a w a2 w) (t2 : Stp ops Q oi a2 w a3 w)
    (h : wpAny Try.prog md ops Q fuel ((listed.setIfInBounds i true).setIfInBounds j true) a3 w) : wpAny Try.prog md ops Q (fuel + 2) listed a w := by
  have e : (listed.setIfInBounds i true).setIfInBounds j true = (listed.setIfInBounds j true).setIfInBounds i true := by
    apply Array.ext_getElem?
    intro k
    simp only [Array.getElem?_setIfInBounds, Array.size_setIfInBounds]
    by_cases h1 : i = k <;> by_cases h2 : j = k <;> simp_all
  refine wpAny_ready hr (by simp) (AllReady.cons hi (fun K hK => s1 K (hK _ _ (one_step j hj hr1 s2 h))) (AllReady.cons hj (fun K hK => t1 K (hK _ _ (one_step i hi hr2 t2 ?_))) AllReady.nil))
  rw [← e]; exact h
/-- A value built of parts. -/
theorem wpList_build {ops : Array Oper} {rest : List Oper} {o : Oper} {a : Act} {Q : Exit → Act → World → Prop} {w : World} (hgd : o.guard = none) (t : TypeId) (parts : Array (Nat × Operand)) (ho : o.op = .build t parts) (ps : Array (Nat × Value))
    (hp : (parts.map fun (i, x) => (i, a.eval x)) = ps) (v : Value) (hrun : (Instr.build t ps).run Try.prog w = .ok v w) (h : wpList Try.prog ops Q rest (a.put o.dst v) w) : wpList Try.prog ops Q (o :: rest) a w := by
  refine wpList_plain hgd fun K hK => ?_
  unfold Oper.wp execOp
  simp only [ho, hp, Sem.run_bind, hrun, Sem.run_pure, Result.andThen_ok]
  exact hK _ _ h
/-- A call that ends with its result in a variable of many cells. -/
theorem ret_blk {fn : Func} {p : Tmp} {ty : TypeId} (h : fn.results = #[.cell p ty]) {R : Ending → World → Prop} {a : Act} {w : World} (g : Nat) (vs : List Value) (d : TypeDesc) (hp : a.tmps.getD p undef = .pointer (some ⟨g, 0, none⟩))
    (hb : Blk w g ty vs) (hu : Try.prog.underlying ty = some d) (hd : d.isRow = true) (hi : (Try.prog.info? ty).map (·.size) = some vs.length) (hdef : a.defers = []) (hR : R (.returned (.agg vs.toArray)) w) : bodyPost Try.prog fn R .ret a w :=
  bodyPost_ret (results_cell_row h _ _ g ty vs.toArray (0, 0) d hp hb hu (by cases d <;> simp_all) (by simpa using hi)) hdef hR
theorem below_kept {S : Nat → Prop} {w w1 w2 : World} {B : Nat} (h : Below B w w1) (k : Kept S w1 w2) (hB : B ≤ w1.heap.size) (hS : ∀ j, j < B → ¬ S j) : Below B w w2 :=
  ⟨by rw [k.os, h.os], by rw [k.tape, h.tape], by rw [k.output, h.output], Nat.le_trans h.size k.size, fun j hj => by rw [k.block j (by omega) (hS j hj), h.block j hj]⟩
theorem below_chain {w w1 w2 : World} {B C : Nat} (h : Below B w w1) (k : Below C w1 w2) (hB : B ≤ C) : Below B w w2 :=
  ⟨by rw [k.os, h.os], by rw [k.tape, h.tape], by rw [k.output, h.output], Nat.le_trans h.size k.size, fun j hj => by rw [k.block j (by omega), h.block j hj]⟩
def u32s (zs : List Int) : List Value := zs.map (Value.int .u32)
def u8s (zs : List Int) : List Value := zs.map (Value.int .u8)
theorem u32s_length (zs : List Int) : (u32s zs).length = zs.length := by simp [u32s]
theorem u8s_length (zs : List Int) : (u8s zs).length = zs.length := by simp [u8s]
theorem u32s_one (zs : List Int) : ∀ v ∈ u32s zs, v.oneCell' = true := one_ints _ _
theorem u8s_one (zs : List Int) : ∀ v ∈ u8s zs, v.oneCell' = true := one_ints _ _
theorem u32s_set (zs : List Int) (j : Nat) (z : Int) : (u32s zs).set j (.int .u32 z) = u32s (zs.set j z) := by simp [u32s, List.map_set]
theorem u8s_set (zs : List Int) (j : Nat) (z : Int) : (u8s zs).set j (.int .u8 z) = u8s (zs.set j z) := by simp [u8s, List.map_set]
theorem u8s_cell {w : World} {g : Nat} {t : TypeId} {zs : List Int} (h : Blk w g t (u8s zs)) (j : Nat) (hj : j < zs.length) : w.cell? ⟨g, j, none⟩ = some (.int .u8 (zs.getD j 0)) := by
  rw [h.cell]; simp [u8s, hj, List.getD]
theorem u32s_cell {w : World} {g : Nat} {t : TypeId} {zs : List Int} (h : Blk w g t (u32s zs)) (j : Nat) (hj : j < zs.length) : w.cell? ⟨g, j, none⟩ = some (.int .u32 (zs.getD j 0)) := by
  rw [h.cell]; simp [u32s, hj, List.getD]
theorem set_next (xs : List Int) (n : Nat) (z y : Int) : (xs ++ List.replicate (n + 1) y).set xs.length z = (xs ++ [z]) ++ List.replicate n y := by
  rw [List.set_append_right _ _ (Nat.le_refl _), Nat.sub_self, List.replicate_succ, List.set_cons_zero]; simp
theorem getD_front (xs ys : List Int) (j : Nat) (hj : j < xs.length) : (xs ++ ys).getD j 0 = xs.getD j 0 := by
  simp [List.getD, List.getElem?_append_left hj]

def addW (xs ys : List Int) : List Int := List.zipWith (fun x y => (x + y) % 4294967296) xs ys
theorem addW_length (xs ys : List Int) (n : Nat) (hx : xs.length = n) (hy : ys.length = n) : (addW xs ys).length = n := by simp [addW, hx, hy]
theorem addW_at (xs ys : List Int) (n i : Nat) (hx : xs.length = n) (hy : ys.length = n) (hi : i < n) : (addW xs ys).getD i 0 = (xs.getD i 0 + ys.getD i 0) % 4294967296 := by
  have h1 : i < xs.length := by omega
  have h2 : i < ys.length := by omega
  have h3 : i < (List.zipWith (fun x y => (x + y) % 4294967296) xs ys).length := by simp; omega
  simp only [addW, List.getD]
  rw [List.getElem?_eq_getElem h3, List.getElem?_eq_getElem h1, List.getElem?_eq_getElem h2]
  simp
theorem half_set (xs ys : List Int) (n i : Nat) (hx : xs.length = n) (hy : ys.length = n) (hi : i < n) : (xs.take i ++ ys.drop i).set i (xs.getD i 0) = xs.take (i + 1) ++ ys.drop (i + 1) := by
  have e : (xs.take i).length = i := by simp; omega
  have h1 : i < xs.length := by omega
  have h2 : xs.getD i 0 = xs[i] := by simp [List.getD, h1]
  rw [List.set_append_right _ _ (by omega), e, Nat.sub_self, List.drop_eq_getElem_cons (by omega : i < ys.length), List.set_cons_zero, List.take_succ_eq_append_getElem h1, h2, List.append_assoc]
  rfl
theorem half_at (xs ys : List Int) (n i : Nat) (hx : xs.length = n) (hy : ys.length = n) (hi : i < n) : (xs.take i ++ ys.drop i).getD i 0 = ys.getD i 0 := by
  have e : (xs.take i).length = i := by simp; omega
  simp only [List.getD]
  rw [List.getElem?_append_right (by omega), e, Nat.sub_self, List.getElem?_drop, Nat.add_zero]
theorem half_length (xs ys : List Int) (n i : Nat) (hx : xs.length = n) (hy : ys.length = n) (hi : i ≤ n) : (xs.take i ++ ys.drop i).length = n := by simp; omega
end Go.Proofs.Ytcimiajkbgabiaa

namespace Go.Proofs.Ytcimiajkbgabiaa
open Go.RowKit
set_option linter.unusedVariables false

/-- A word turned to the left. -/
def rotl (x : Int) (n : Nat) : Int := bits .or .u32 (x * 2 ^ n % 4294967296) (x / 2 ^ (32 - n))
structure Q4 where
  a : Int
  b : Int
  c : Int
  d : Int
def Q4.list (q : Q4) : List Int := [q.a, q.b, q.c, q.d]
/-- Four of the eight steps. -/
def halfD (q : Q4) (n : Nat) : Int := rotl (bits .xor .u32 q.d ((q.a + q.b) % 4294967296)) n
def halfC (q : Q4) (n : Nat) : Int := (q.c + halfD q n) % 4294967296
def halfQ (q : Q4) (n m : Nat) : Q4 := ⟨(q.a + q.b) % 4294967296, rotl (bits .xor .u32 q.b (halfC q n)) m, halfC q n, halfD q n⟩
def quarter (q : Q4) : Q4 := halfQ (halfQ q 16 12) 8 7
def qOf (st : List Int) (i j k l : Nat) : Q4 := ⟨st.getD i 0, st.getD j 0, st.getD k 0, st.getD l 0⟩
def qPut (st : List Int) (q : Q4) (i j k l : Nat) : List Int := (((st.set i q.a).set j q.b).set k q.c).set l q.d
theorem qPut_length (st : List Int) (q : Q4) (i j k l : Nat) : (qPut st q i j k l).length = st.length := by simp [qPut]
/-- Column c, slanted by s. -/
def colStep (st : List Int) (s c : Nat) : List Int :=
  qPut st (quarter (qOf st (c % 4) (4 + (c + s) % 4) (8 + (c + 2 * s) % 4) (12 + (c + 3 * s) % 4))) (c % 4) (4 + (c + s) % 4) (8 + (c + 2 * s) % 4) (12 + (c + 3 * s) % 4)
def cols (st : List Int) (s : Nat) : Nat → List Int
  | 0 => st
  | n + 1 => colStep (cols st s n) s n
def slants (st : List Int) : Nat → List Int
  | 0 => st
  | n + 1 => cols (slants st n) n 4
def passN (st : List Int) : Nat → List Int
  | 0 => st
  | n + 1 => slants (passN st n) 2
def stir (st : List Int) : List Int := passN st 10
theorem colStep_length (st : List Int) (s c : Nat) : (colStep st s c).length = st.length := qPut_length ..
theorem cols_length (st : List Int) (s n : Nat) : (cols st s n).length = st.length := by
  induction n with
  | zero => rfl
  | succ n ih => rw [cols, colStep_length, ih]
theorem slants_length (st : List Int) (n : Nat) : (slants st n).length = st.length := by
  induction n with
  | zero => rfl
  | succ n ih => rw [slants, cols_length, ih]
theorem passN_length (st : List Int) (n : Nat) : (passN st n).length = st.length := by
  induction n with
  | zero => rfl
  | succ n ih => rw [passN, slants_length, ih]
theorem stir_length (st : List Int) : (stir st).length = st.length := passN_length ..
/-- The words of bytes, by fours, the lowest first. -/
def w4 (zs : List Int) (t : Nat) : Int := le ((zs.drop (4 * t)).take 4)
def wds (zs : List Int) (k : Nat) : List Int := (List.range k).map (w4 zs)
theorem wds_length (zs : List Int) (k : Nat) : (wds zs k).length = k := by simp [wds]
theorem wds_succ (zs : List Int) (k : Nat) : wds zs (k + 1) = wds zs k ++ [w4 zs k] := by simp [wds, List.range_succ]
/-- The state of a key, a counter and a nonce. -/
def fixW : List Int := [1634760805, 857760878, 2036477234, 1797285236]
def begW (key : List Int) (ctr : Int) (nonce : List Int) : List Int := fixW ++ (wds key 8 ++ (ctr :: wds nonce 3))
theorem begW_length (key : List Int) (ctr : Int) (nonce : List Int) : (begW key ctr nonce).length = 16 := by simp [begW, fixW, wds_length]
def blkW (key : List Int) (ctr : Int) (nonce : List Int) : List Int := addW (stir (begW key ctr nonce)) (begW key ctr nonce)
theorem blkW_length (key : List Int) (ctr : Int) (nonce : List Int) : (blkW key ctr nonce).length = 16 := addW_length _ _ 16 (by rw [stir_length, begW_length]) (begW_length ..)
/-- The bytes of words, the lowest first. -/
def wB (st : List Int) (k : Nat) : List Int := (st.take k).flatMap (leB 4)
theorem wB_succ (st : List Int) (k : Nat) (hk : k < st.length) : wB st (k + 1) = wB st k ++ leB 4 (st.getD k 0) := by
  have e : st.getD k 0 = st[k] := by simp [List.getD, hk]
  rw [wB, List.take_succ_eq_append_getElem hk, List.flatMap_append, e]; simp [wB]
theorem wB_length (st : List Int) (k : Nat) (hk : k ≤ st.length) : (wB st k).length = 4 * k := by
  induction k with
  | zero => simp [wB]
  | succ k ih => rw [wB_succ st k (by omega), List.length_append, ih (by omega), leB_length]; omega
theorem wB_bytes (st : List Int) (k : Nat) : Bytes (wB st k) := by
  intro z hz
  simp only [wB, List.mem_flatMap] at hz
  obtain ⟨x, _, hx⟩ := hz
  exact leB_bytes 4 x z hx
def blkB (key : List Int) (ctr : Int) (nonce : List Int) : List Int := wB (blkW key ctr nonce) 16
theorem blkB_length (key : List Int) (ctr : Int) (nonce : List Int) : (blkB key ctr nonce).length = 64 := wB_length _ 16 (by rw [blkW_length]; omega)
theorem blkB_bytes (key : List Int) (ctr : Int) (nonce : List Int) : Bytes (blkB key ctr nonce) := wB_bytes _ _
/-- The byte of the key stream at a place. -/
def ks (key nonce : List Int) (p : Nat) : Int := (blkB key ((p / 64 : Nat) : Int) nonce).getD (p % 64) 0
theorem ks_byte (key nonce : List Int) (p : Nat) : 0 ≤ ks key nonce p ∧ ks key nonce p < 256 := (blkB_bytes key _ nonce).at _ (by rw [blkB_length]; omega)
/-- Bytes laid over the key stream from a place on; the first k of them. -/
def over (key nonce : List Int) (p : Nat) (zs : List Int) : List Int := (List.range zs.length).map (fun i => bits .xor .u8 (zs.getD i 0) (ks key nonce (p + i)))
theorem over_length (key nonce : List Int) (p : Nat) (zs : List Int) : (over key nonce p zs).length = zs.length := by simp [over]
theorem over_at (key nonce : List Int) (p : Nat) (zs : List Int) (i : Nat) (hi : i < zs.length) : (over key nonce p zs).getD i 0 = bits .xor .u8 (zs.getD i 0) (ks key nonce (p + i)) := by
  simp [over, List.getD, hi]
end Go.Proofs.Ytcimiajkbgabiaa

namespace Go.Proofs.Ytcimiajkbgabiaa
open Go.RowKit
set_option linter.unusedVariables false
set_option linter.unusedSimpArgs false

theorem results_tmp4 {fn : Func} {t u v x : Tmp} (h : fn.results = #[.tmp t, .tmp u, .tmp v, .tmp x]) (tmps : Array Value) (P : Program) (w : World) :
    (results fn tmps).run P w = .ok (.tuple #[tmps.getD t undef, tmps.getD u undef, tmps.getD v undef, tmps.getD x undef]) w := by
  simp [results, h]
def TurnL (k : Nat) : Prop := k = 16 ∨ k = 12 ∨ k = 8 ∨ k = 7
set_option maxRecDepth 20000 in
theorem rotL_any (x : Int) (k : Nat) (hk : TurnL k) (w : World) :
    Calls Try.prog 117 #[.int .u32 x, .int .i64 k] w fun e w' => e = .returned (.int .u32 (rotl x k)) ∧ w = w' := by
  have h1 : bits .and .u64 (k : Int) 31 = k := by
    rcases hk with rfl | rfl | rfl | rfl <;> decide
  rcases hk with rfl | rfl | rfl | rfl
  all_goals
    simp at h1
    go_enter Try.func117, Try.ntmps117
    go_wp2
    go_ret
    exact ⟨rfl, rfl⟩
theorem half_any (a b c d : Int) (n m : Nat) (hn : TurnL n) (hm : TurnL m) (w : World) :
    Calls Try.prog 109 #[.int .u32 a, .int .u32 b, .int .u32 c, .int .u32 d, .int .i64 n, .int .i64 m] w fun e w' => e = .returned (.tuple #[.int .u32 (halfQ ⟨a, b, c, d⟩ n m).a, .int .u32 (halfQ ⟨a, b, c, d⟩ n m).b, .int .u32 (halfQ ⟨a, b, c, d⟩ n m).c, .int .u32 (halfQ ⟨a, b, c, d⟩ n m).d]) ∧ w = w' := by
  go_enter Try.func109, Try.ntmps109
  go_wp2_with fail
  refine (rotL_any _ n hn _).mono ?_
  rintro e w' ⟨rfl, rfl⟩
  go_wp2_with fail
  refine (rotL_any _ m hm _).mono ?_
  rintro e w' ⟨rfl, rfl⟩
  go_wp2
  refine bodyPost_ret (results_tmp4 rfl _ _ _) rfl ?_
  exact ⟨rfl, rfl⟩
theorem quarter_any (a b c d : Int) (w : World) :
    Calls Try.prog 98 #[.int .u32 a, .int .u32 b, .int .u32 c, .int .u32 d] w fun e w' => e = .returned (.tuple #[.int .u32 (quarter ⟨a, b, c, d⟩).a, .int .u32 (quarter ⟨a, b, c, d⟩).b, .int .u32 (quarter ⟨a, b, c, d⟩).c, .int .u32 (quarter ⟨a, b, c, d⟩).d]) ∧ w = w' := by
  go_enter Try.func98, Try.ntmps98
  go_wp2_with fail
  refine (half_any a b c d 16 12 (by simp [TurnL]) (by simp [TurnL]) _).mono ?_
  rintro e w' ⟨rfl, rfl⟩
  go_wp2_with fail
  refine (half_any _ _ _ _ 8 7 (by simp [TurnL]) (by simp [TurnL]) _).mono ?_
  rintro e w' ⟨rfl, rfl⟩
  go_wp2
  refine bodyPost_ret (results_tmp4 rfl _ _ _) rfl ?_
  exact ⟨rfl, rfl⟩
theorem cell_any (r c : Nat) (hr : r < 4) (hc : c < 100) (w : World) :
    Calls Try.prog 97 #[.int .u64 r, .int .u64 c] w fun e w' => e = .returned (.int .u64 ((4 * r + c % 4 : Nat) : Int)) ∧ w = w' := by
  go_enter Try.func97, Try.ntmps97
  go_wp2
  go_ret
  refine ⟨?_, rfl⟩
  show Ending.returned (.int .u64 ((r : Int) * 4 + (c : Int) % 4)) = _
  exact ret_int (by omega)
theorem cell_at (r : Nat) (X : Int) (c : Nat) (hX : X = c) (hr : r < 4) (hc : c < 100) (w : World) :
    Calls Try.prog 97 #[.int .u64 r, .int .u64 X] w fun e w' => e = .returned (.int .u64 ((4 * r + c % 4 : Nat) : Int)) ∧ w = w' := by
  subst hX
  exact cell_any r c hr hc w
end Go.Proofs.Ytcimiajkbgabiaa

namespace Go.Proofs.Ytcimiajkbgabiaa
open Go.RowKit
set_option linter.unusedVariables false
set_option linter.unusedSimpArgs false

/-- Whatever order is picked; and S holds behind each operation so long as operation c has not come up. -/
def wpTill (md : Region.Mode) (ops : Array Oper) (Q : Exit → Act → World → Prop) (c : Nat) (S : World → Prop) : Nat → Array Bool → Act → World → Prop
  | 0, l, a, w => Region.ready md ops l = [] ∧ Q .normal a w
  | n + 1, l, a, w =>
    (Region.ready md ops l = [] → Q .normal a w) ∧
    ∀ i ∈ Region.ready md ops l, wpOp Try.prog ops Q i (fun a' w' => (i ≠ c → l.getD c true = false → S w') ∧ wpTill md ops Q c S n (l.setIfInBounds i true) a' w') a w
theorem till_any {md : Region.Mode} {ops : Array Oper} {Q : Exit → Act → World → Prop} {c : Nat} {S : World → Prop} : ∀ (n : Nat) (l : Array Bool) (a : Act) (w : World), wpTill md ops Q c S n l a w → wpAny Try.prog md ops Q n l a w
  | 0, _, _, _, h => h
  | n + 1, _, _, _, h => ⟨h.1, fun i hi => wpOp_mono (fun a' w' h' => till_any n _ a' w' h'.2) (h.2 i hi)⟩
theorem any_till {md : Region.Mode} {ops : Array Oper} {Q : Exit → Act → World → Prop} {c : Nat} {S : World → Prop} : ∀ (n : Nat) (l : Array Bool) (a : Act) (w : World), l.getD c true = true → wpAny Try.prog md ops Q n l a w → wpTill md ops Q c S n l a w
  | 0, _, _, _, _, h => h
  | n + 1, l, _, _, hc, h => ⟨h.1, fun i hi => wpOp_mono (fun a' w' h' => ⟨fun _ h0 => absurd (hc.symm.trans h0) (by decide), any_till n _ a' w' (by
      by_cases e : i = c
      · subst e; by_cases hs : i < l.size <;> simp [Array.getD, hs]
      · rw [getD_set_ne true e]; exact hc) h'⟩) (h.2 i hi)⟩
/-- The operation itself comes up. -/
theorem till_at {md : Region.Mode} {ops : Array Oper} {Q : Exit → Act → World → Prop} {c : Nat} {S : World → Prop} {n : Nat} {l : Array Bool} {a : Act} {w : World} (hr : Region.ready md ops l = [c])
    (h : wpAny Try.prog md ops Q (n + 1) l a w) : wpTill md ops Q c S (n + 1) l a w := by
  refine ⟨h.1, fun i hi => ?_⟩
  have h1 := h.2 i hi
  rw [hr] at hi
  obtain rfl : i = c := by simpa using hi
  exact wpOp_mono (fun a' w' h' => ⟨fun h0 => absurd rfl h0, any_till n _ a' w' (by by_cases hs : i < l.size <;> simp [Array.getD, hs]) h'⟩) h1
theorem till_region {ops : Array Oper} {Q : Exit → Act → World → Prop} {id : Nat} {a : Act} {w : World} (c : Nat) (S : World → Prop) (hm : Try.prog.follows .mixedOrders = true)
    (h : wpTill .any ops Q c S ops.size (Array.replicate ops.size false) a { w with drawn := w.drawn + 1 }) : (Code.region id ops true).wp Try.prog Q a w :=
  wp_region_any hm (till_any _ _ _ _ h)
/-- What the operation i leans on, T, holds until it comes up: always, or because S does and c waits for i. -/
def Leans (md : Region.Mode) (ops : Array Oper) (c : Nat) (S T : World → Prop) (i : Nat) (l : Array Bool) : Prop :=
  (∀ w, T w) ∨ ((∀ w, S w → T w) ∧ l.getD c true = false ∧ ∀ l' : Array Bool, l'.getD i true = false → c ∉ Region.ready md ops l')
theorem till_first {md : Region.Mode} {ops : Array Oper} {Q : Exit → Act → World → Prop} {c : Nat} {S T : World → Prop} {i : Nat} {oi : Oper} {v : Value} (hi : ops[i]? = some oi) (hsel : ∀ (j : Nat) (o : Oper) cs b, ops[j]? = some o → o.op ≠ .select cs b) (hic : i ≠ c)
    (hQ : ∀ c a w, Q (.panic c) (a.put oi.dst v) w → Q (.panic c) a w) :
    ∀ (n : Nat) (l : Array Bool) (a : Act) (w : World),
      (∀ j oj, ops[j]? = some oj → j ≠ i → l.getD j true = false → (∀ e ∈ oj.after, Region.binds md e = true → e.on ≠ i) → oi.apart ops oj = true) →
      i ∈ Region.ready md ops l → YieldsIf Try.prog ops T oi v a → T w → Leans md ops c S T i l → (l.getD c true = false → S w) →
      wpTill md ops Q c S n (l.setIfInBounds i true) (a.put oi.dst v) w → wpTill md ops Q c S (n + 1) l a w := by
  intro n
  induction n with
  | zero =>
    intro l a w _ hr hy hT _ hS H
    refine ⟨fun h => (by rw [h] at hr; cases hr), fun j hj => ?_⟩
    by_cases hji : j = i
    · subst hji; exact hy.wpOp hi hT ⟨fun _ h0 => hS h0, H⟩
    · have := ready_mono hj hji
      rw [H.1] at this
      cases this
  | succ n ih =>
    intro l a w hfree hr hy hT hL hS H
    refine ⟨fun h => (by rw [h] at hr; cases hr), fun j hj => ?_⟩
    by_cases hji : j = i
    · subst hji; exact hy.wpOp hi hT ⟨fun _ h0 => hS h0, H⟩
    · have h1 := H.2 j (ready_mono hj hji)
      obtain ⟨hjun, oj, hoj, hall⟩ := mem_ready.1 hj
      have hun := (mem_ready.1 hr).1
      have hnot : ∀ e ∈ oj.after, Region.binds md e = true → e.on ≠ i := fun e he hb heq => by
        have h1 := hall e he hb
        rw [heq] at h1
        rcases Nat.lt_or_ge i l.size with h' | h'
        · simp [h'] at hun h1; rw [hun] at h1; cases h1
        · simp [Array.getElem?_eq_none h'] at h1
      have h2 := wpOp_putIf hoj (hfree j oj hoj hji hjun hnot) (fun cs b => hsel i oi cs b hi) (fun cs b => hsel j oj cs b hoj) hQ hy h1
      have hfree' : ∀ k ok, ops[k]? = some ok → k ≠ i → (l.setIfInBounds j true).getD k true = false →
          (∀ e ∈ ok.after, Region.binds md e = true → e.on ≠ i) → oi.apart ops ok = true := fun k ok hk hki hkun hno => by
        refine hfree k ok hk hki ?_ hno
        by_cases hjk : j = k
        · subst hjk; exact hjun
        · rw [getD_set_ne true hjk] at hkun; exact hkun
      refine wpOp_mono (fun a' w' h3 => ?_) h2
      obtain ⟨h31, h32, h33⟩ := h3
      rw [getD_set_ne true hic] at h32
      have hS' : (l.setIfInBounds j true).getD c true = false → S w' := fun h0 => by
        by_cases hjc : j = c
        · subst hjc
          exfalso
          by_cases hs : j < l.size <;> simp [Array.getD, hs] at h0
        · rw [getD_set_ne true hjc] at h0; exact h32 hjc h0
      refine ⟨h32, ih (l.setIfInBounds j true) a' w' hfree' (ready_mono hr (Ne.symm hji)) h31 ?_ ?_ hS' ?_⟩
      · rcases hL with hL | ⟨hL1, hL2, hL3⟩
        · exact hL w'
        · exact hL1 w' (h32 (fun e => hL3 l hun (e ▸ hj)) hL2)
      · rcases hL with hL | ⟨hL1, hL2, hL3⟩
        · exact .inl hL
        · refine .inr ⟨hL1, ?_, hL3⟩
          have hjc : j ≠ c := fun e => hL3 l hun (by rw [← e]; exact hj)
          rw [getD_set_ne true hjc]; exact hL2
      · rw [Array.setIfInBounds_comm _ _ hji]
        exact h33
/-- An operation that yields its value in whatever world. -/
theorem tTake {md : Region.Mode} {ops : Array Oper} {Q : Exit → Act → World → Prop} {c : Nat} {S : World → Prop} {oi : Oper} {n : Nat} {l : Array Bool} {a : Act} {w : World} (i : Nat) (d : Option Tmp) (v : Value) (hi : ops[i]? = some oi) (hd : oi.dst = d)
    (hs : Region.noSelect ops = true) (hf : Region.free md ops l i = true) (hr : (Region.ready md ops l).contains i = true) (hic : i ≠ c) (hQ : ∀ c a w, Q (.panic c) (a.put d v) w → Q (.panic c) a w)
    (hw : Region.wanted oi (yielded ops a.tmps) = true) (hy : ∀ w, (execOp a.eval oi).run Try.prog w = .ok (.value v) w) (hS : S w)
    (h : wpTill md ops Q c S n (l.setIfInBounds i true) (a.put d v) w) : wpTill md ops Q c S (n + 1) l a w := by
  subst hd
  exact till_first (T := fun _ => True) hi (Region.noSelect_spec hs) hic hQ n l a w (Region.free_spec hi hf) (by simpa using hr) (Or.inl ⟨hw, fun w _ => hy w⟩) trivial (.inl fun _ => trivial) (fun _ => hS) h
def waits (md : Region.Mode) (ops : Array Oper) (c i : Nat) : Bool := ((ops[c]?).map (fun o => o.after.any fun e => Region.binds md e && e.on == i)).getD false
theorem waits_spec {md : Region.Mode} {ops : Array Oper} {c i : Nat} (h : waits md ops c i = true) : ∀ l' : Array Bool, l'.getD i true = false → c ∉ Region.ready md ops l' := by
  intro l hl hc
  obtain ⟨_, oc, hoc, hall⟩ := mem_ready.1 hc
  simp only [waits, hoc, Option.map_some, Option.getD_some, Array.any_eq_true, Bool.and_eq_true, beq_iff_eq] at h
  obtain ⟨k, hk, hb, he⟩ := h
  have h1 := hall _ (Array.getElem_mem hk) hb
  rw [he] at h1
  rcases Nat.lt_or_ge i l.size with h' | h'
  · simp [h'] at hl h1; rw [hl] at h1; cases h1
  · simp [Array.getElem?_eq_none h'] at h1
/-- A load, or what else leans on S, of an operation for which c waits. -/
theorem tLoad {md : Region.Mode} {ops : Array Oper} {Q : Exit → Act → World → Prop} {c : Nat} {S : World → Prop} {oi : Oper} {n : Nat} {l : Array Bool} {a : Act} {w : World} (i : Nat) (d : Option Tmp) (v : Value) (hi : ops[i]? = some oi) (hd : oi.dst = d)
    (hs : Region.noSelect ops = true) (hf : Region.free md ops l i = true) (hr : (Region.ready md ops l).contains i = true) (hic : i ≠ c) (hc : l.getD c true = false) (hwt : waits md ops c i = true) (hQ : ∀ c a w, Q (.panic c) (a.put d v) w → Q (.panic c) a w)
    (hw : Region.wanted oi (yielded ops a.tmps) = true) (hy : ∀ w, S w → (execOp a.eval oi).run Try.prog w = .ok (.value v) w) (hS : S w)
    (h : wpTill md ops Q c S n (l.setIfInBounds i true) (a.put d v) w) : wpTill md ops Q c S (n + 1) l a w := by
  subst hd
  exact till_first (T := S) hi (Region.noSelect_spec hs) hic hQ n l a w (Region.free_spec hi hf) (by simpa using hr) (Or.inl ⟨hw, hy⟩) hS (.inr ⟨fun _ h => h, hc, waits_spec hwt⟩) (fun _ => hS) h
/-- Many cells that S names are read; c waits for it. -/
theorem tLoadMid {md : Region.Mode} {ops : Array Oper} {Q : Exit → Act → World → Prop} {c : Nat} {S : World → Prop} {oi : Oper} {n : Nat} {l : Array Bool} {a : Act} {w : World} (i : Nat) (d : Option Tmp) (cs : List Value) (hi : ops[i]? = some oi) (hd : oi.dst = d)
    (hs : Region.noSelect ops = true) (hf : Region.free md ops l i = true) (hr : (Region.ready md ops l).contains i = true) (hic : i ≠ c) (hc : l.getD c true = false) (hwt : waits md ops c i = true) (hQ : ∀ c a w, Q (.panic c) (a.put d (.agg cs.toArray)) w → Q (.panic c) a w)
    (hw : Region.wanted oi (yielded ops a.tmps) = true) (ty : TypeId) (x : Operand) (ho : oi.op = .load ty x) (b off : Nat) (hx : a.eval x = .pointer (some ⟨b, off, none⟩)) (ds : TypeDesc) (hy : ∀ w, S w → w.rangeAt b off cs)
    (hu : Try.prog.underlying ty = some ds) (hdr : ds.isRow = true) (hz : (Try.prog.info? ty).map (·.size) = some cs.length) (hS : S w)
    (h : wpTill md ops Q c S n (l.setIfInBounds i true) (a.put d (.agg cs.toArray)) w) : wpTill md ops Q c S (n + 1) l a w := by
  subst hd
  exact till_first (T := S) hi (Region.noSelect_spec hs) hic hQ n l a w (Region.free_spec hi hf) (by simpa using hr) (yieldsIf_load_mid hw ty x ho b off hx cs ds hy hu hdr hz) hS (.inr ⟨fun _ h => h, hc, waits_spec hwt⟩) (fun _ => hS) h
/-- One operation alone may come up. -/
theorem till_ready {md : Region.Mode} {ops : Array Oper} {Q : Exit → Act → World → Prop} {c : Nat} {S : World → Prop} {oi : Oper} {n : Nat} {l : Array Bool} {a : Act} {w : World} (i : Nat) (hr : Region.ready md ops l = [i]) (hi : ops[i]? = some oi)
    (h : ∀ K : Act → World → Prop, (∀ a' w', S w' ∧ wpTill md ops Q c S n (l.setIfInBounds i true) a' w' → K a' w') → if Region.wanted oi (yielded ops a.tmps) = true then Oper.wp Try.prog oi a w K Q else K (a.put oi.dst undef) w) : wpTill md ops Q c S (n + 1) l a w := by
  refine ⟨fun h0 => (by rw [h0] at hr; cases hr), fun j hj => ?_⟩
  rw [hr] at hj
  obtain rfl : j = i := by simpa using hj
  exact wpOp_step hi fun K hK => h K (fun a' w' h' => hK a' w' ⟨fun _ _ => h'.1, h'.2⟩)
theorem step_alloc_new {ops : Array Oper} {o : Oper} {a : Act} {w : World} {K : Act → World → Prop} {Q : Exit → Act → World → Prop} {E : Prop} (hgd : o.guard = none) (t : TypeId) (ho : o.op = .alloc t) (n : Nat) (vs : List Value)
    (hz : (Try.prog.info? t).map (fun i => (i.zero, i.size)) = some (some (.agg vs.toArray), n)) (dst : Option Tmp) (hdst : o.dst = dst)
    (h : ∀ w', Blk w' w.heap.size t vs → w'.heap.size = w.heap.size + 1 → Below w.heap.size w w' → K (a.put dst (.pointer (some ⟨w.heap.size, 0, none⟩))) w') :
    if Region.wanted o (yielded ops a.tmps) = true then Oper.wp Try.prog o a w K Q else E := by
  subst hdst
  have hw : Region.wanted o (yielded ops a.tmps) = true := by simp [Region.wanted, hgd]
  rw [if_pos hw]
  unfold Oper.wp execOp
  simp only [ho, Sem.run_bind, Instr.alloc, (zero_of_info hz).1, newVar, newRow, run_newObj_alloc, Sem.run_pure, Result.andThen_ok]
  exact h _ (heap_alloc_new w _) (by simp) ((Below.refl _ _).alloc (Nat.le_refl _) _)
/-- Two operations that may come in either order, each way to a state of G. -/
theorem till_two {md : Region.Mode} {ops : Array Oper} {Q : Exit → Act → World → Prop} {c : Nat} {S : World → Prop} {oi oj : Oper} {n : Nat} {l : Array Bool} {a : Act} {w : World} (i j : Nat) (hi : ops[i]? = some oi) (hj : ops[j]? = some oj) (hij : i ≠ j)
    (hr : Region.ready md ops l = [i, j]) (hr1 : Region.ready md ops (l.setIfInBounds i true) = [j]) (hr2 : Region.ready md ops (l.setIfInBounds j true) = [i]) (G A B : Act → Act → World → Prop)
    (s1 : ∀ K : Act → World → Prop, (∀ a' w', A a a' w' → K a' w') → if Region.wanted oi (yielded ops a.tmps) = true then Oper.wp Try.prog oi a w K Q else K (a.put oi.dst undef) w) (sA : ∀ a' w', A a a' w' → S w')
    (s2 : ∀ a' w', A a a' w' → ∀ K : Act → World → Prop, (∀ a'' w'', G a a'' w'' → K a'' w'') → if Region.wanted oj (yielded ops a'.tmps) = true then Oper.wp Try.prog oj a' w' K Q else K (a'.put oj.dst undef) w')
    (t1 : ∀ K : Act → World → Prop, (∀ a' w', B a a' w' → K a' w') → if Region.wanted oj (yielded ops a.tmps) = true then Oper.wp Try.prog oj a w K Q else K (a.put oj.dst undef) w) (sB : ∀ a' w', B a a' w' → S w')
    (t2 : ∀ a' w', B a a' w' → ∀ K : Act → World → Prop, (∀ a'' w'', G a a'' w'' → K a'' w'') → if Region.wanted oi (yielded ops a'.tmps) = true then Oper.wp Try.prog oi a' w' K Q else K (a'.put oi.dst undef) w')
    (h : ∀ a' w', G a a' w' → S w' ∧ wpTill md ops Q c S n ((l.setIfInBounds i true).setIfInBounds j true) a' w') : wpTill md ops Q c S (n + 2) l a w := by
  have e : (l.setIfInBounds i true).setIfInBounds j true = (l.setIfInBounds j true).setIfInBounds i true := Array.setIfInBounds_comm _ _ hij
  refine ⟨fun h0 => (by rw [h0] at hr; cases hr), fun k hk => ?_⟩
  rw [hr] at hk
  rcases List.mem_cons.1 hk with rfl | hk
  · refine wpOp_step hi fun K hK => s1 K fun a' w' hA => hK a' w' ⟨fun _ _ => sA _ _ hA, ?_⟩
    exact till_ready j hr1 hj fun K' hK' => s2 a' w' hA K' fun a'' w'' hG => hK' a'' w'' (h _ _ hG)
  · obtain rfl : k = j := by simpa using hk
    refine wpOp_step hj fun K hK => t1 K fun a' w' hB => hK a' w' ⟨fun _ _ => sB _ _ hB, ?_⟩
    refine till_ready i hr2 hi fun K' hK' => t2 a' w' hB K' fun a'' w'' hG => hK' a'' w'' ?_
    rw [← e]
    exact h _ _ hG
end Go.Proofs.Ytcimiajkbgabiaa
