/- Joined texts: OBase OPlain ONum OMake OPut SBase PgBase PgInts PgDel PgUse SSlice SCopy. -/
import Derived.Test.YtnagndnpamcbbaaGreatRows
import Derived.WalkKit
import Derived.WalkSpells
import Derived.WalkLawsBesides
import Derived.RowKit
import Derived.Laws.BitsAllLaws
import Derived.Deep.RegionHeld3
import Derived.Deep.DrawnRows
import Derived.BigRegion
import Derived.Deep.Draws
import Derived.Deep.QuietTactic
import Derived.BigQuiet
import Derived.OpenShut
import Derived.Deep.AppendLies
import Derived.Laws.AppendOwnNone
import Derived.Deep.WholeRow
import Derived.Deep.MidRow
import Derived.Laws.OwnMore
import Derived.Lib.SliceRun
import Derived.Maps.AppendAt
import Derived.Laws.CopyOwn
namespace Go.Proofs.YtnagndnpamcbbaaGreat
open Go.RowKit
set_option linter.unusedVariables false
set_option linter.unusedSimpArgs false
attribute [local go_sem ↓] Go.wp_at_zero Go.wp_at_succ


abbrev Word (x : Int) : Prop := 0 ≤ x ∧ x < 18446744073709551616
theorem word_of_wf {x : Int} (h : (Lit.int .u64 x).wf = true) : Word x := by
  simp [Lit.wf, IntKind.min, IntKind.max, IntKind.signed, IntKind.bits] at h
  exact ⟨by omega, by omega⟩
theorem ret_int {k : IntKind} {a b : Int} (h : a = b) : Ending.returned (.int k a) = .returned (.int k b) := by rw [h]

/-- Of the blocks that were there all but those of S are as they were. -/
structure Kept (S : Nat → Prop) (w w' : World) : Prop where
  os : w'.os = w.os
  tape : w'.tape = w.tape
  output : w'.output = w.output
  size : w.heap.size ≤ w'.heap.size
  block : ∀ k, k < w.heap.size → ¬ S k → w'.heap[k]? = w.heap[k]?
theorem Kept.refl (S : Nat → Prop) (w : World) : Kept S w w := ⟨rfl, rfl, rfl, Nat.le_refl _, fun _ _ _ => rfl⟩
theorem Kept.trans {S : Nat → Prop} {a b c : World} (h : Kept S a b) (k : Kept S b c) : Kept S a c :=
  ⟨k.os.trans h.os, k.tape.trans h.tape, k.output.trans h.output, Nat.le_trans h.size k.size, fun i hi hs => (k.block i (Nat.lt_of_lt_of_le hi h.size) hs).trans (h.block i hi hs)⟩
theorem Kept.mono {S T : Nat → Prop} {a b : World} (h : Kept S a b) (hST : ∀ k, S k → T k) : Kept T a b :=
  ⟨h.os, h.tape, h.output, h.size, fun i hi hs => h.block i hi (fun x => hs (hST i x))⟩
theorem Kept.drew {S : Nat → Prop} {a w : World} (h : Kept S a w) : Kept S a w.drew := ⟨h.os, h.tape, h.output, h.size, h.block⟩
theorem Kept.setCell {S : Nat → Prop} {a w : World} (h : Kept S a w) {p : Addr} (hp : S p.block) (u : Value) : Kept S a (w.setCell p u) :=
  h.trans ⟨rfl, rfl, rfl, by simp [World.setCell], fun k _ hs => Below.heap_setCell _ _ _ _ (fun e => hs (e ▸ hp))⟩
theorem Kept.below {S : Nat → Prop} {a w : World} (h : Kept S a w) {B : Nat} (hB : B ≤ a.heap.size) (hS : ∀ k, S k → B ≤ k) : Below B a w :=
  ⟨h.os, h.tape, h.output, h.size, fun k hk => h.block k (by omega) (fun x => by have := hS k x; omega)⟩

/-- Block g begins with the bytes zs, and may be written. -/
def RowAt (w : World) (g : Nat) (zs : List Int) : Prop := ∃ rest : List Value, w.heap[g]? = some (.cells (zs.map (Value.int .u8) ++ rest).toArray 5 (0, 0))
theorem RowAt.cell {w : World} {g : Nat} {zs : List Int} (h : RowAt w g zs) (j : Nat) (hj : j < zs.length) : w.cell? ⟨g, j, none⟩ = some (.int .u8 (zs.getD j 0)) := by
  obtain ⟨rest, h⟩ := h
  rw [cell_of_row w g j _ 5 (0, 0) h]
  simp [hj, List.getElem?_append]
theorem RowAt.frozen {w : World} {g : Nat} {zs : List Int} (h : RowAt w g zs) (j : Nat) : w.frozen? ⟨g, j, none⟩ = false := by
  obtain ⟨rest, h⟩ := h
  exact frozen_of_row w g j _ 5 h
theorem RowAt.set {w : World} {g : Nat} {zs : List Int} (h : RowAt w g zs) (j : Nat) (hj : j < zs.length) (z : Int) : RowAt (w.setCell ⟨g, j, none⟩ (.int .u8 z)) g (zs.set j z) := by
  obtain ⟨rest, h⟩ := h
  refine ⟨rest, ?_⟩
  rw [heap_setCell_same w g j _ 5 _ h, List.map_set]
  simp [hj]
theorem RowAt.other {w : World} {g : Nat} {zs : List Int} (h : RowAt w g zs) {p : Addr} (hp : g ≠ p.block) (u : Value) : RowAt (w.setCell p u) g zs := by
  obtain ⟨rest, h⟩ := h
  exact ⟨rest, by rw [Below.heap_setCell _ _ _ _ hp]; exact h⟩
theorem RowAt.drew {w : World} {g : Nat} {zs : List Int} (h : RowAt w g zs) : RowAt w.drew g zs := h
theorem RowAt.drewN {w : World} {g : Nat} {zs : List Int} (h : RowAt w g zs) (k : Nat) : RowAt (w.drewN k) g zs := h
theorem RowAt.lt {w : World} {g : Nat} {zs : List Int} (h : RowAt w g zs) : g < w.heap.size := by
  obtain ⟨rest, h⟩ := h
  rcases Nat.lt_or_ge g w.heap.size with h' | h'
  · exact h'
  · rw [Array.getElem?_eq_none h'] at h; cases h
theorem RowAt.block {w w' : World} {g : Nat} {zs : List Int} (h : RowAt w g zs) (e : w'.heap[g]? = w.heap[g]?) : RowAt w' g zs := by
  obtain ⟨rest, h⟩ := h
  exact ⟨rest, by rw [e]; exact h⟩
theorem RowAt.alloc {w : World} {g : Nat} {zs : List Int} (h : RowAt w g zs) (o : Obj) : RowAt (w.alloc o) g zs := h.block (Below.heap_alloc w o g h.lt)
theorem RowAt.new (w : World) (zs : List Int) : RowAt (w.alloc (.cells (zs.map (Value.int .u8)).toArray 5)) w.heap.size zs := ⟨[], by rw [List.append_nil]; exact heap_alloc_new w _⟩
theorem RowAt.take {w : World} {g : Nat} {zs : List Int} (h : RowAt w g zs) (n : Nat) : RowAt w g (zs.take n) := by
  obtain ⟨rest, h⟩ := h
  refine ⟨(zs.drop n).map (Value.int .u8) ++ rest, ?_⟩
  rw [← List.append_assoc, ← List.map_append, List.take_append_drop]; exact h
theorem RowAt.of_own {w : World} {base : Nat} {g n cap : Nat} {zs : List Int} (h : w.ownsRow base 5 1 (.slice (some ⟨g, 0, none⟩) n cap) n (zs.map (Value.int .u8))) : RowAt w g zs ∧ base ≤ g ∧ n ≤ cap ∧ cap ≤ maxLen ∧ zs.length = n := by
  obtain ⟨hl, h⟩ := h
  rcases h with ⟨h, _⟩ | ⟨g', cap', cur, h, hb, hh, hc, hm, hs, ht⟩
  · cases h
  · simp only [Value.slice.injEq, Option.some.injEq, Addr.mk.injEq, and_true, true_and] at h
    obtain ⟨rfl, rfl⟩ := h
    rw [Nat.mul_one] at ht
    refine ⟨⟨cur.toList.drop n, ?_⟩, hb, hc, hm, by simpa using hl⟩
    rw [← ht, List.take_append_drop]; simpa using hh
def Bytes (zs : List Int) : Prop := ∀ z ∈ zs, 0 ≤ z ∧ z < 256
theorem Bytes.at {zs : List Int} (h : Bytes zs) (j : Nat) (hj : j < zs.length) : 0 ≤ zs.getD j 0 ∧ zs.getD j 0 < 256 := by
  have e : zs.getD j 0 = zs[j] := by simp [List.getD, hj]
  rw [e]; exact h _ (List.getElem_mem hj)
theorem Kept.cell {S : Nat → Prop} {w w' : World} (h : Kept S w w') {p : Addr} (hp : p.block < w.heap.size) (hS : ¬ S p.block) : w'.cell? p = w.cell? p := World.cell?_of_block (w := w) (h.block p.block hp hS)
theorem ret_bool {a b : Bool} (h : a = b) : Ending.returned (.bool a) = .returned (.bool b) := by rw [h]

/-- A slice at ao of n bytes, which are zs. -/
structure Seen (w : World) (ao : Option Addr) (n : Nat) (zs : List Int) : Prop where
  len : zs.length = n
  top : n ≤ 140737488355328
  bytes : Bytes zs
  cells : 0 < n → ∃ b o, ao = some ⟨b, o, none⟩ ∧ b < w.heap.size ∧ ∀ i, i < n → w.cell? ⟨b, o + i, none⟩ = some (.int .u8 (zs.getD i 0))
theorem Seen.later {w w' : World} {ao : Option Addr} {n : Nat} {zs : List Int} (h : Seen w ao n zs) {B : Nat} (hb : Below B w w') (hB : w.heap.size ≤ B) : Seen w' ao n zs :=
  ⟨h.len, h.top, h.bytes, fun hn => by
    obtain ⟨b, o, e, hlt, hc⟩ := h.cells hn
    exact ⟨b, o, e, Nat.lt_of_lt_of_le hlt hb.size, fun i hi => (hb.cell (p := ⟨b, o + i, none⟩) (Nat.lt_of_lt_of_le hlt hB)).trans (hc i hi)⟩⟩
theorem Seen.heap {w w' : World} {ao : Option Addr} {n : Nat} {zs : List Int} (h : Seen w ao n zs) (e : w'.heap = w.heap) : Seen w' ao n zs :=
  h.later (B := w.heap.size + w'.heap.size) (w' := { w with heap := w'.heap }) ⟨rfl, rfl, rfl, by simp [e], fun k _ => by simp [e]⟩ (Nat.le_add_right _ _) |> fun g => ⟨g.len, g.top, g.bytes, g.cells⟩
theorem Seen.drewN {w : World} {ao : Option Addr} {n : Nat} {zs : List Int} (h : Seen w ao n zs) (k : Nat) : Seen (w.drewN k) ao n zs := ⟨h.len, h.top, h.bytes, h.cells⟩
theorem Seen.of_row {w : World} {g n : Nat} {zs : List Int} (h : RowAt w g zs) (hl : n ≤ zs.length) (ht : n ≤ 140737488355328) (hb : Bytes zs) : Seen w (some ⟨g, 0, none⟩) n (zs.take n) :=
  ⟨by simp; omega, ht, fun z hz => hb z (List.mem_of_mem_take hz), fun _ => ⟨g, 0, rfl, h.lt, fun i hi => by
    rw [Nat.zero_add, h.cell i (by omega)]
    simp [List.getD, hi]⟩⟩
theorem byte_of_wf {z : Int} (h : (Lit.int .u8 z).wf = true) : 0 ≤ z ∧ z < 256 := by
  simp [Lit.wf, IntKind.min, IntKind.max, IntKind.signed, IntKind.bits] at h
  exact ⟨by omega, by omega⟩
theorem Seen.of_ints {w : World} {x : Addr} {n cap : Nat} {zs : List Int} (hn : n ≤ 140737488355328) (hl : n ≤ cap) (hz : zs.length = cap)
    (hcell : ∀ i, i < zs.length → w.cell? (x.add i) = some (.int .u8 (zs.getD i 0))) (hw : ∀ z ∈ zs, (Lit.int .u8 z).wf = true) : Seen w (some x) n (zs.take n) :=
  ⟨by simp; omega, hn, fun z hz => byte_of_wf (hw z (List.mem_of_mem_take hz)), fun h0 => by
    obtain ⟨b, o, rfl, hc⟩ := ints_at hcell (by omega)
    refine ⟨b, o, rfl, ?_, fun i hi => ?_⟩
    · have := hc 0 (by omega)
      exact World.block_lt_of_cell? _ _ this
    · rw [hc i (by omega)]
      simp [List.getD, hi]⟩
theorem Seen.empty (w : World) (ao : Option Addr) : Seen w ao 0 [] := ⟨rfl, by decide, fun z hz => (by cases hz), fun h => (by omega)⟩

theorem below_dn {B : Nat} {a w : World} (h : Below B a w) (n : Nat) : Below B a (w.drewN n) := h.trans ⟨rfl, rfl, rfl, Nat.le_refl _, fun _ _ => rfl⟩
/-- A world that is another but for draws may stand in its place. -/
theorem below_ahead {B : Nat} {W w' : World} {k : Nat} (h : Below B (W.drewN k) w') : Below B W w' := ⟨h.os, h.tape, h.output, h.size, h.block⟩
theorem info_byte : (Tryz.prog.info? 5).map (fun i => (i.zero, i.size, i.bytes)) = some (some (.int .u8 0), 1, 1) := by kernel_rfl

/-- A value that owns the bytes zs in new memory: nil, or a row. -/
theorem own_cases {w : World} {base : Nat} {v : Value} {zs : List Int} (h : w.ownsRow base 5 1 v zs.length (zs.map (Value.int .u8))) :
    (v = .slice none 0 0 ∧ zs = []) ∨ ∃ g cap, v = .slice (some ⟨g, 0, none⟩) zs.length cap ∧ RowAt w g zs ∧ base ≤ g ∧ zs.length ≤ cap ∧ cap ≤ maxLen := by
  rcases h.2 with ⟨h1, h2⟩ | ⟨g, cap, cur, rfl, r⟩
  · left; exact ⟨h1, List.length_eq_zero_iff.1 h2⟩
  · right
    have := RowAt.of_own h
    exact ⟨g, cap, rfl, this.1, this.2.1, this.2.2.1, this.2.2.2.1⟩

theorem step_own {w wr w1 : World} {v v' : Value} {zs : List Int} {z : Int} {k : Nat}
    (hb : Below w.heap.size w wr) (hown : wr.ownsRow w.heap.size 5 1 v k ((zs.map (Value.int .u8)).take k)) (hk : k < zs.length) (hz : zs.getD k 0 = z)
    (hown' : w1.ownsRow w.heap.size 5 1 v' (k + 1) ((zs.map (Value.int .u8)).take k ++ [.int .u8 z])) (hg : (wr.alloc (.cells #[.int .u8 z] 5)).grownBy w1 v.ownBlock) :
    w1.ownsRow w.heap.size 5 1 v' (k + 1) ((zs.map (Value.int .u8)).take (k + 1)) ∧ Below w.heap.size w w1 := by
  constructor
  · rw [List.take_succ_eq_append_getElem (by simpa using hk)]
    have e : zs[k] = z := by rw [← hz]; simp [List.getD, hk]
    rw [List.getElem_map, e]; exact hown'
  · exact (hb.alloc hb.size _).grown hg (by have := hb.size; simp; omega) (fun j hj => (hown.lt j hj).1)

theorem own_len {w : World} {base : Nat} {v : Value} {n : Nat} {zs : List Int} (hl : zs.length = n) (h : w.ownsRow base 5 1 v n (zs.map (Value.int .u8))) :
    (v = .slice none 0 0 ∧ n = 0) ∨ ∃ g cap, v = .slice (some ⟨g, 0, none⟩) n cap ∧ RowAt w g zs ∧ base ≤ g ∧ n ≤ cap ∧ cap ≤ maxLen := by
  subst hl
  rcases own_cases h with ⟨h1, h2⟩ | h
  · left; exact ⟨h1, by rw [h2]; rfl⟩
  · right; exact h

theorem RowAt.later {w w' : World} {g : Nat} {zs : List Int} (h : RowAt w g zs) {B : Nat} (hb : Below B w w') (hB : w.heap.size ≤ B) : RowAt w' g zs := h.block (hb.block g (Nat.lt_of_lt_of_le h.lt hB))
theorem RowAt.kept {S : Nat → Prop} {w w' : World} {g : Nat} {zs : List Int} (h : RowAt w g zs) (hk : Kept S w w') (hS : ¬ S g) : RowAt w' g zs := h.block (hk.block g h.lt hS)
theorem Seen.drew {w : World} {ao : Option Addr} {n : Nat} {zs : List Int} (h : Seen w ao n zs) : Seen w.drew ao n zs := h.drewN 1
theorem Seen.kept {S : Nat → Prop} {w w' : World} {ao : Option Addr} {n : Nat} {zs : List Int} (h : Seen w ao n zs) (hk : Kept S w w') (hS : ∀ b o, 0 < n → ao = some ⟨b, o, none⟩ → ¬ S b) : Seen w' ao n zs :=
  ⟨h.len, h.top, h.bytes, fun hn => by
    obtain ⟨b, o, e, hlt, hc⟩ := h.cells hn
    exact ⟨b, o, e, Nat.lt_of_lt_of_le hlt hk.size, fun i hi => (hk.cell (p := ⟨b, o + i, none⟩) hlt (hS b o hn e)).trans (hc i hi)⟩⟩
theorem Seen.old {w : World} {ao : Option Addr} {n : Nat} {zs : List Int} (h : Seen w ao n zs) {B : Nat} (hB : w.heap.size ≤ B) : ∀ b o, 0 < n → ao = some ⟨b, o, none⟩ → b < B := by
  intro b o hn e
  obtain ⟨b', o', e', hlt, _⟩ := h.cells hn
  rw [e] at e'
  simp at e'
  omega
theorem own_seen {w : World} {base : Nat} {v : Value} {n : Nat} {zs : List Int} (hl : zs.length = n) (hb : Bytes zs) (ht : n ≤ 140737488355328) (h : w.ownsRow base 5 1 v n (zs.map (Value.int .u8))) :
    ∃ vo cap, v = .slice vo n cap ∧ Seen w vo n zs ∧ ∀ b o, vo = some ⟨b, o, none⟩ → base ≤ b := by
  rcases own_len hl h with ⟨rfl, rfl⟩ | ⟨g, cap, rfl, hr, hg, _, _⟩
  · have e : zs = [] := List.length_eq_zero_iff.1 hl
    subst e
    exact ⟨none, 0, rfl, Seen.empty _ _, fun b o h => by cases h⟩
  · refine ⟨_, cap, rfl, ?_, fun b o h => by simp at h; omega⟩
    have := Seen.of_row (n := n) hr (by omega) ht hb
    rwa [List.take_of_length_le (by omega)] at this
theorem ownsRow_below {w w' : World} {base : Nat} {e : TypeId} {size : Nat} {v : Value} {n : Nat} {xs : List Value} (h : w.ownsRow base e size v n xs) (hb : Below w.heap.size w w') : w'.ownsRow base e size v n xs := by
  refine ⟨h.1, ?_⟩
  rcases h.2 with h2 | ⟨g, cap, cur, hv, hg, hh, r⟩
  · exact .inl h2
  · exact .inr ⟨g, cap, cur, hv, hg, by rw [hb.block g (lt_of_block hh)]; exact hh, r⟩
theorem ownsRow_base {w : World} {base base' : Nat} {e : TypeId} {size : Nat} {v : Value} {n : Nat} {xs : List Value} (h : w.ownsRow base e size v n xs) (hb : base' ≤ base) : w.ownsRow base' e size v n xs := by
  refine ⟨h.1, ?_⟩
  rcases h.2 with h2 | ⟨g, cap, cur, hv, hg, r⟩
  · exact .inl h2
  · exact .inr ⟨g, cap, cur, hv, by omega, r⟩
end Go.Proofs.YtnagndnpamcbbaaGreat

namespace Go.Proofs.YtnagndnpamcbbaaGreat
open Go.RowKit

/-- The number whose bytes these are, the lowest first. -/
def le : List Int → Int
  | [] => 0
  | z :: zs => z + 256 * le zs
/-- The bytes of a number, so many, the lowest first. -/
def leB : Nat → Int → List Int
  | 0, _ => []
  | k + 1, v => v % 256 :: leB k (v / 256)
theorem leB_length (k : Nat) (v : Int) : (leB k v).length = k := by
  induction k generalizing v with
  | zero => rfl
  | succ k ih => simp [leB, ih]
theorem leB_bytes (k : Nat) (v : Int) : Bytes (leB k v) := by
  induction k generalizing v with
  | zero => intro z hz; cases hz
  | succ k ih =>
    intro z hz
    simp only [leB, List.mem_cons] at hz
    rcases hz with rfl | hz
    · omega
    · exact ih _ z hz
theorem le_bd (zs : List Int) (h : Bytes zs) : 0 ≤ le zs ∧ le zs < 256 ^ zs.length := by
  induction zs with
  | nil => simp [le]
  | cons z zs ih =>
    have hz := h z (by simp)
    have := ih (fun y hy => h y (by simp [hy]))
    simp only [le, List.length_cons, Int.pow_succ]
    omega
theorem le_leB (k : Nat) (v : Int) : le (leB k v) = v % 256 ^ k := by
  induction k generalizing v with
  | zero => simp [leB, le]
  | succ k ih =>
    simp only [leB, le, ih]
    have hp : (0 : Int) < 256 ^ k := Int.pow_pos (by decide)
    have h1 := Int.mul_ediv_add_emod v 256
    have h2 := Int.mul_ediv_add_emod (v / 256) (256 ^ k)
    have b1 := Int.emod_nonneg (v / 256) (Int.ne_of_gt hp)
    have b2 := Int.emod_lt_of_pos (v / 256) hp
    have e : (256 : Int) ^ (k + 1) = 256 ^ k * 256 := Int.pow_succ ..
    have key : v = (256 ^ k * 256) * (v / 256 / 256 ^ k) + (v % 256 + 256 * (v / 256 % 256 ^ k)) := by
      have : (256 ^ k * 256) * (v / 256 / 256 ^ k) = 256 * (256 ^ k * (v / 256 / 256 ^ k)) := by
        rw [Int.mul_comm (256 ^ k) 256, Int.mul_assoc]
      rw [this]; omega
    rw [e]
    have g : v % (256 ^ k * 256) = v % 256 + 256 * (v / 256 % 256 ^ k) := by
      conv => lhs; rw [key]
      rw [Int.mul_add_emod_self_left]
      exact Int.emod_eq_of_lt (by omega) (by omega)
    exact g.symm
theorem leB_le (zs : List Int) (h : Bytes zs) : leB zs.length (le zs) = zs := by
  induction zs with
  | nil => rfl
  | cons z zs ih =>
    have hz := h z (by simp)
    simp only [List.length_cons, leB, le]
    have e1 : (z + 256 * le zs) % 256 = z := by omega
    have e2 : (z + 256 * le zs) / 256 = le zs := by omega
    rw [e1, e2, ih (fun y hy => h y (by simp [hy]))]
theorem leB_at (k : Nat) (v : Int) (i : Nat) (hi : i < k) : (leB k v).getD i 0 = v / 256 ^ i % 256 := by
  induction k generalizing v i with
  | zero => omega
  | succ k ih =>
    cases i with
    | zero => simp [leB]
    | succ i =>
      simp only [leB, List.getD_cons_succ]
      rw [ih _ _ (by omega), Int.ediv_ediv_of_nonneg (by decide)]
      congr 2
      rw [Int.pow_succ, Int.mul_comm]
theorem le_drop (zs : List Int) (k : Nat) (hk : k < zs.length) : le (zs.drop k) = zs.getD k 0 + 256 * le (zs.drop (k + 1)) := by
  rw [List.drop_eq_getElem_cons hk]
  simp [le, List.getD, hk]
theorem bytes_drop {zs : List Int} (h : Bytes zs) (k : Nat) : Bytes (zs.drop k) := fun z hz => h z (List.mem_of_mem_drop hz)
theorem bytes_take {zs : List Int} (h : Bytes zs) (k : Nat) : Bytes (zs.take k) := fun z hz => h z (List.mem_of_mem_take hz)
theorem bytes_app {xs ys : List Int} (hx : Bytes xs) (hy : Bytes ys) : Bytes (xs ++ ys) := fun z hz => by
  rcases List.mem_append.1 hz with h | h
  · exact hx z h
  · exact hy z h
theorem bytes_rev {zs : List Int} (h : Bytes zs) : Bytes zs.reverse := fun z hz => h z (List.mem_reverse.1 hz)
/-- A byte laid below a number. -/
theorem or_low (a b : Int) (ha : 0 ≤ a ∧ a * 256 < 18446744073709551616) (hb : 0 ≤ b ∧ b < 256) : bits .or .u64 (a * 256) b = b + 256 * a := by
  rw [u64_or _ _ (by omega) ha.2 hb.1 (by omega)]
  obtain ⟨a, rfl⟩ := Int.eq_ofNat_of_zero_le ha.1
  obtain ⟨b, rfl⟩ := Int.eq_ofNat_of_zero_le hb.1
  have h := Nat.shiftLeft_add_eq_or_of_lt (i := 8) (b := b) (by omega) a
  have e1 : ((a : Int) * 256).toNat = a <<< 8 := by rw [Nat.shiftLeft_eq]; omega
  rw [e1, Int.toNat_natCast, ← h, Nat.shiftLeft_eq]; omega
theorem le_drop_bd (zs : List Int) (h : Bytes zs) (n k : Nat) (hl : zs.length = n) (hn : n ≤ 8) (hk : 0 < k) : 0 ≤ le (zs.drop k) ∧ le (zs.drop k) * 256 < 18446744073709551616 := by
  have b := le_bd _ (bytes_drop h k)
  have hle : (256 : Int) ^ (zs.drop k).length ≤ 256 ^ 7 := by
    rw [List.length_drop]
    have : 256 ^ (zs.length - k) ≤ 256 ^ 7 := Nat.pow_le_pow_right (by decide) (by omega)
    show ((256 : Nat) : Int) ^ _ ≤ ((256 : Nat) : Int) ^ 7
    rw [← Int.natCast_pow, ← Int.natCast_pow]
    exact Int.ofNat_le.2 this
  omega
end Go.Proofs.YtnagndnpamcbbaaGreat

namespace Go.Proofs.YtnagndnpamcbbaaGreat
open Go.RowKit
set_option linter.unusedVariables false
set_option linter.unusedSimpArgs false

set_option maxRecDepth 20000 in
theorem len64_8 (w : World) : Calls Tryz.prog 166 #[.int .u64 255] w fun e w' => e = .returned (.int .i64 8) ∧ w = w' := by
  go_enter Tryz.func166, Tryz.ntmps166
  go_wp2
  go_ret
  exact ⟨by kernel_rfl, rfl⟩
set_option maxRecDepth 20000 in
theorem len64_16 (w : World) : Calls Tryz.prog 166 #[.int .u64 65535] w fun e w' => e = .returned (.int .i64 16) ∧ w = w' := by
  go_enter Tryz.func166, Tryz.ntmps166
  go_wp2
  go_ret
  exact ⟨by kernel_rfl, rfl⟩
set_option maxRecDepth 20000 in
theorem len64_32 (w : World) : Calls Tryz.prog 166 #[.int .u64 4294967295] w fun e w' => e = .returned (.int .i64 32) ∧ w = w' := by
  go_enter Tryz.func166, Tryz.ntmps166
  go_wp2
  go_ret
  exact ⟨by kernel_rfl, rfl⟩
set_option maxRecDepth 20000 in
theorem len64_64 (w : World) : Calls Tryz.prog 166 #[.int .u64 18446744073709551615] w fun e w' => e = .returned (.int .i64 64) ∧ w = w' := by
  go_enter Tryz.func166, Tryz.ntmps166
  go_wp2
  go_ret
  exact ⟨by kernel_rfl, rfl⟩

/-- The error of so many bytes for a number that has k. -/
def fit (n k : Nat) : Int := if n < k then 20 else if k < n then 21 else 0
theorem fit_short {n k : Nat} (h : n < k) : fit n k = 20 := by unfold fit; rw [if_pos h]
theorem fit_rest {n k : Nat} (h : k < n) : fit n k = 21 := by unfold fit; rw [if_neg (by omega), if_pos h]
theorem fit_ok (n : Nat) : fit n n = 0 := by unfold fit; rw [if_neg (by omega), if_neg (by omega)]
theorem byteAt_eq (v : Int) (i : Nat) : v / 2 ^ (8 * i) % 256 = v / 256 ^ i % 256 := by
  have : (256 : Int) ^ i = 2 ^ (8 * i) := by rw [Int.pow_mul]; rfl
  rw [this]

theorem width_32 (w : World) : Calls Tryz.prog 191 #[] w fun e w' => e = .returned (.int .i64 4) ∧ w = w' := by
  go_enter Tryz.func191, Tryz.ntmps191
  go_wp2_with (go_at_call 166; refine (len64_32 _).mono ?_; rintro e w' ⟨rfl, rfl⟩)
  go_ret
  exact ⟨rfl, rfl⟩
theorem fits_32 (ao : Option Addr) (n c : Nat) (hn : n ≤ 140737488355328) (w : World) :
    Calls Tryz.prog 249 #[.slice ao n c] w fun e w' => e = .returned (.int .i64 (fit n 4)) ∧ w = w' := by
  rcases Nat.lt_trichotomy n 4 with h | h | h
  · rw [fit_short h]
    have h1 : (n : Int) < 4 := by omega
    go_enter Tryz.func249, Tryz.ntmps249
    go_wp2_with (go_at_call 191; refine (width_32 _).mono ?_; rintro e w' ⟨rfl, rfl⟩)
    go_ret
    exact ⟨rfl, rfl⟩
  · subst h
    rw [fit_ok]
    go_enter Tryz.func249, Tryz.ntmps249
    go_wp2_with (go_at_call 191; refine (width_32 _).mono ?_; rintro e w' ⟨rfl, rfl⟩)
    go_ret
    exact ⟨rfl, rfl⟩
  · rw [fit_rest h]
    have h1 : (4 : Int) < (n : Int) := by omega
    go_enter Tryz.func249, Tryz.ntmps249
    go_wp2_with (go_at_call 191; refine (width_32 _).mono ?_; rintro e w' ⟨rfl, rfl⟩)
    go_ret
    exact ⟨rfl, rfl⟩
theorem byteAt_32 (v : Int) (hv : 0 ≤ v ∧ v < 4294967296) (i : Nat) (hi : i < 4) (w : World) :
    Calls Tryz.prog 192 #[.int .u32 v, .int .i64 i] w fun e w' => e = .returned (.int .u8 (v / 256 ^ i % 256)) ∧ w = w' := by
  go_enter Tryz.func192, Tryz.ntmps192
  go_wp2
  go_ret
  exact ⟨by rw [← byteAt_eq]; rfl, rfl⟩
theorem width_64 (w : World) : Calls Tryz.prog 193 #[] w fun e w' => e = .returned (.int .i64 8) ∧ w = w' := by
  go_enter Tryz.func193, Tryz.ntmps193
  go_wp2_with (go_at_call 166; refine (len64_64 _).mono ?_; rintro e w' ⟨rfl, rfl⟩)
  go_ret
  exact ⟨rfl, rfl⟩
theorem fits_64 (ao : Option Addr) (n c : Nat) (hn : n ≤ 140737488355328) (w : World) :
    Calls Tryz.prog 248 #[.slice ao n c] w fun e w' => e = .returned (.int .i64 (fit n 8)) ∧ w = w' := by
  rcases Nat.lt_trichotomy n 8 with h | h | h
  · rw [fit_short h]
    have h1 : (n : Int) < 8 := by omega
    go_enter Tryz.func248, Tryz.ntmps248
    go_wp2_with (go_at_call 193; refine (width_64 _).mono ?_; rintro e w' ⟨rfl, rfl⟩)
    go_ret
    exact ⟨rfl, rfl⟩
  · subst h
    rw [fit_ok]
    go_enter Tryz.func248, Tryz.ntmps248
    go_wp2_with (go_at_call 193; refine (width_64 _).mono ?_; rintro e w' ⟨rfl, rfl⟩)
    go_ret
    exact ⟨rfl, rfl⟩
  · rw [fit_rest h]
    have h1 : (8 : Int) < (n : Int) := by omega
    go_enter Tryz.func248, Tryz.ntmps248
    go_wp2_with (go_at_call 193; refine (width_64 _).mono ?_; rintro e w' ⟨rfl, rfl⟩)
    go_ret
    exact ⟨rfl, rfl⟩
theorem byteAt_64 (v : Int) (hv : 0 ≤ v ∧ v < 18446744073709551616) (i : Nat) (hi : i < 8) (w : World) :
    Calls Tryz.prog 194 #[.int .u64 v, .int .i64 i] w fun e w' => e = .returned (.int .u8 (v / 256 ^ i % 256)) ∧ w = w' := by
  go_enter Tryz.func194, Tryz.ntmps194
  go_wp2
  go_ret
  exact ⟨by rw [← byteAt_eq]; rfl, rfl⟩

/-- What Little tells. -/
def leV (k n : Nat) (zs : List Int) : Int := if n = k then le zs else 0
theorem leV_ok (n : Nat) (zs : List Int) : leV n n zs = le zs := by simp [leV]
theorem leV_no {n k : Nat} (zs : List Int) (h : n ≠ k) : leV k n zs = 0 := by simp [leV, h]

theorem little_32 (ao : Option Addr) (n c : Nat) (zs : List Int) (w : World) (hx : Seen w ao n zs) :
    Calls Tryz.prog 231 #[.slice ao n c] w fun e w' => e = .returned (.tuple #[.int .u32 (leV 4 n zs), .int .i64 (fit n 4)]) ∧ w = w' := by
  have t1 := hx.top
  by_cases hn : n = 4
  · subst hn
    have HL : Hid (zs.length = 4) := hx.len
    have HB : Hid (Bytes zs) := hx.bytes
    rw [leV_ok, fit_ok]
    have hf := fits_32 ao 4 c (by decide) w
    rw [fit_ok] at hf
    go_enter Tryz.func231, Tryz.ntmps231
    go_wp2_with (go_at_call 249; refine hf.mono ?_; rintro e w' ⟨rfl, rfl⟩)
    go_loopw [5, 6] (fun v i wr => ∃ (m : Nat) (I : Int), m ≤ 4 ∧ I + 1 = m ∧ i = .int .i64 I ∧ v = .int .u64 (le (zs.drop m)) ∧ wr = w) (fun _ i _ => (intOf i + 1).toNat)
    case atStart => exact ⟨4, 4 - 1, by omega, by omega, rfl, by rw [List.drop_of_length_le (by have := HL.out; omega)]; rfl, rfl⟩
    case round =>
      obtain ⟨m, I, hm, hI, rfl, rfl, rfl⟩ := hrel
      by_cases hlt : 0 < m
      · obtain ⟨b, o, rfl, hb, hc⟩ := hx.cells (by decide)
        obtain ⟨p, rfl⟩ : ∃ p, m = p + 1 := ⟨m - 1, by omega⟩
        obtain rfl : I = (p : Int) := by omega
        have c1 := hc p (by omega)
        have hd := le_drop zs p (by have := HL.out; omega)
        have hbd := le_drop_bd zs HB.out 4 (p + 1) HL.out (by decide) (by omega)
        have hz := HB.out.at p (by have := HL.out; omega)
        obtain ⟨Z, hZ⟩ : ∃ Z, zs.getD p 0 = Z := ⟨_, rfl⟩
        obtain ⟨A, hA⟩ : ∃ A, le (zs.drop (p + 1)) = A := ⟨_, rfl⟩
        rw [hZ] at c1 hd hz
        rw [hA] at hd hbd
        have HO : Hid (bits .or .u64 (A * 256) Z = le (zs.drop p)) := by show _ = _; rw [or_low A Z hbd hz, hd]
        have HA : Hid (le (zs.drop (p + 1)) = A) := hA
        rw [hA]
        have w1 : A * 256 % 18446744073709551616 = A * 256 := by omega
        have i1 : (0 : Int) ≤ (p : Int) := by omega
        have i2 : (p : Int) < 4 := by omega
        clear hZ hA hc hx hd hf
        go_wp2
        go_roundw
        case rel => exact ⟨p, (p : Int) - 1, by omega, by omega, by go_num, by rw [← HO.out], by first | rfl | trivial⟩
        case measure => simp [intOf] <;> omega
      · obtain rfl : m = 0 := by omega
        obtain rfl : I = -1 := by omega
        have hbd := le_bd zs HB.out
        rw [HL.out] at hbd
        have hbd' : 0 ≤ le zs ∧ le zs < 4294967296 := by simpa using hbd
        rw [List.drop_zero]
        obtain ⟨A, hA⟩ : ∃ A, le zs = A := ⟨_, rfl⟩
        rw [hA] at hbd' ⊢
        have HA : Hid (le zs = A) := hA
        clear hx hf hbd hA
        go_wp2
        go_ret2
        exact ⟨by rw [HA.out]; rfl, rfl⟩
  · rw [leV_no zs hn]
    have hf := fits_32 ao n c t1 w
    have he : (fit n 4 != 0) = true := by
      rcases Nat.lt_or_gt_of_ne hn with h | h
      · rw [fit_short h]; rfl
      · rw [fit_rest h]; rfl
    generalize fit n 4 = E at *
    go_enter Tryz.func231, Tryz.ntmps231
    go_wp2_with (go_at_call 249; refine hf.mono ?_; rintro e w' ⟨rfl, rfl⟩)
    go_ret2
    exact ⟨rfl, rfl⟩
theorem little_64 (ao : Option Addr) (n c : Nat) (zs : List Int) (w : World) (hx : Seen w ao n zs) :
    Calls Tryz.prog 229 #[.slice ao n c] w fun e w' => e = .returned (.tuple #[.int .u64 (leV 8 n zs), .int .i64 (fit n 8)]) ∧ w = w' := by
  have t1 := hx.top
  by_cases hn : n = 8
  · subst hn
    have HL : Hid (zs.length = 8) := hx.len
    have HB : Hid (Bytes zs) := hx.bytes
    rw [leV_ok, fit_ok]
    have hf := fits_64 ao 8 c (by decide) w
    rw [fit_ok] at hf
    go_enter Tryz.func229, Tryz.ntmps229
    go_wp2_with (go_at_call 248; refine hf.mono ?_; rintro e w' ⟨rfl, rfl⟩)
    go_loopw [5, 6] (fun v i wr => ∃ (m : Nat) (I : Int), m ≤ 8 ∧ I + 1 = m ∧ i = .int .i64 I ∧ v = .int .u64 (le (zs.drop m)) ∧ wr = w) (fun _ i _ => (intOf i + 1).toNat)
    case atStart => exact ⟨8, 8 - 1, by omega, by omega, rfl, by rw [List.drop_of_length_le (by have := HL.out; omega)]; rfl, rfl⟩
    case round =>
      obtain ⟨m, I, hm, hI, rfl, rfl, rfl⟩ := hrel
      by_cases hlt : 0 < m
      · obtain ⟨b, o, rfl, hb, hc⟩ := hx.cells (by decide)
        obtain ⟨p, rfl⟩ : ∃ p, m = p + 1 := ⟨m - 1, by omega⟩
        obtain rfl : I = (p : Int) := by omega
        have c1 := hc p (by omega)
        have hd := le_drop zs p (by have := HL.out; omega)
        have hbd := le_drop_bd zs HB.out 8 (p + 1) HL.out (by decide) (by omega)
        have hz := HB.out.at p (by have := HL.out; omega)
        obtain ⟨Z, hZ⟩ : ∃ Z, zs.getD p 0 = Z := ⟨_, rfl⟩
        obtain ⟨A, hA⟩ : ∃ A, le (zs.drop (p + 1)) = A := ⟨_, rfl⟩
        rw [hZ] at c1 hd hz
        rw [hA] at hd hbd
        have HO : Hid (bits .or .u64 (A * 256) Z = le (zs.drop p)) := by show _ = _; rw [or_low A Z hbd hz, hd]
        have HA : Hid (le (zs.drop (p + 1)) = A) := hA
        rw [hA]
        have w1 : A * 256 % 18446744073709551616 = A * 256 := by omega
        have i1 : (0 : Int) ≤ (p : Int) := by omega
        have i2 : (p : Int) < 8 := by omega
        clear hZ hA hc hx hd hf
        go_wp2
        go_roundw
        case rel => exact ⟨p, (p : Int) - 1, by omega, by omega, by go_num, by rw [← HO.out], by first | rfl | trivial⟩
        case measure => simp [intOf] <;> omega
      · obtain rfl : m = 0 := by omega
        obtain rfl : I = -1 := by omega
        have hbd := le_bd zs HB.out
        rw [HL.out] at hbd
        have hbd' : 0 ≤ le zs ∧ le zs < 18446744073709551616 := by simpa using hbd
        rw [List.drop_zero]
        obtain ⟨A, hA⟩ : ∃ A, le zs = A := ⟨_, rfl⟩
        rw [hA] at hbd' ⊢
        have HA : Hid (le zs = A) := hA
        clear hx hf hbd hA
        go_wp2
        go_ret2
        exact ⟨by rw [HA.out]; rfl, rfl⟩
  · rw [leV_no zs hn]
    have hf := fits_64 ao n c t1 w
    have he : (fit n 8 != 0) = true := by
      rcases Nat.lt_or_gt_of_ne hn with h | h
      · rw [fit_short h]; rfl
      · rw [fit_rest h]; rfl
    generalize fit n 8 = E at *
    go_enter Tryz.func229, Tryz.ntmps229
    go_wp2_with (go_at_call 248; refine hf.mono ?_; rintro e w' ⟨rfl, rfl⟩)
    go_ret2
    exact ⟨rfl, rfl⟩
end Go.Proofs.YtnagndnpamcbbaaGreat

namespace Go.Proofs.YtnagndnpamcbbaaGreat
open Go.RowKit
set_option linter.unusedVariables false
set_option linter.unusedSimpArgs false

theorem add_at (b o j : Nat) : (⟨b, o, none⟩ : Addr).add j = ⟨b, o + j, none⟩ := by
  unfold Addr.add
  split
  · next h => subst h; rfl
  · rfl
theorem seen_news {w : World} {ao : Option Addr} {n : Nat} {zs : List Int} (hx : Seen w ao n zs) {ad : Addr} (e : ao = some ad) :
    ∀ j u, (zs.map (Value.int .u8))[j]? = some u → w.cell? (ad.add j) = some u := by
  intro j u hj
  have hlt : j < n := by
    rcases Nat.lt_or_ge j n with h | h
    · exact h
    · rw [List.getElem?_eq_none (by have := hx.len; simp; omega)] at hj; cases hj
  obtain ⟨b, o, e', _, hc⟩ := hx.cells (by omega)
  rw [e] at e'
  cases e'
  rw [add_at, hc j hlt, ← hj, List.getElem?_map]
  have : j < zs.length := by have := hx.len; omega
  simp [List.getD, this]
theorem one_bytes (zs : List Int) : ∀ u ∈ zs.map (Value.int .u8), u.oneCell' = true := by
  intro u hu
  obtain ⟨z, _, rfl⟩ := List.mem_map.1 hu
  rfl
theorem seen_nil {w : World} {n : Nat} {zs : List Int} (hx : Seen w none n zs) : n = 0 ∧ zs = [] := by
  have h : n = 0 := by
    rcases Nat.eq_zero_or_pos n with h | h
    · exact h
    · obtain ⟨b, o, e, _⟩ := hx.cells h; cases e
  exact ⟨h, List.length_eq_zero_iff.1 (by rw [hx.len]; exact h)⟩
theorem below_grown {w w1 w2 : World} {v : Value} {n : Nat} {xs : List Value} (hb : Below w.heap.size w w1) (ho : w1.ownsRow w.heap.size 5 1 v n xs) (hg : w1.grownBy w2 v.ownBlock) : Below w.heap.size w w2 :=
  hb.grown hg hb.size (fun j hj => (ho.lt j hj).1)
theorem own_made (w : World) (c : Nat) (hc : c ≤ maxLen) (cs : Array Value) (hs : cs.size = c) : (w.alloc (.cells cs 5)).ownsRow w.heap.size 5 1 (.slice (some ⟨w.heap.size, 0, none⟩) 0 c) 0 [] :=
  World.ownsRow_made w _ c (Nat.le_refl _) hc (by rw [hs, Nat.mul_one])

/-- append of a slice that is seen, nil or not, onto a row of the call's own. -/
theorem wpList_append_seen {ops : Array Oper} {rest : List Oper} {o : Oper} {a : Act} {Q : Exit → Act → World → Prop} {w : World} (hgd : o.guard = none) (s x : Operand)
    (ho : o.op = .call { callee := .builtin .append, args := #[s, x], argTypes := #[67, 67] }) (base : Nat) (v : Value) (n : Nat) (xs : List Value) (hs : a.eval s = v) (hown : w.ownsRow base 5 1 v n xs)
    (ao : Option Addr) (m c : Nat) (zs : List Int) (hx : a.eval x = .slice ao m c) (hsn : Seen w ao m zs) (hc : ao = none → c = 0) (hb : n + m ≤ 140737488355328) (hbase : base ≤ w.heap.size)
    (h : ∀ v' w', w'.ownsRow base 5 1 v' (n + m) (xs ++ zs.map (Value.int .u8)) → w.grownBy w' v.ownBlock → wpList Tryz.prog ops Q rest (a.put o.dst v') w') : wpList Tryz.prog ops Q (o :: rest) a w := by
  obtain ⟨i0, hi, hz0, hz1, hz2⟩ := info_parts info_byte
  cases ao with
  | none =>
    obtain ⟨rfl, rfl⟩ := seen_nil hsn
    obtain rfl := hc rfl
    refine wpList_append_own_none hgd s x 67 ho base 5 i0 1 Tryz.underlying67 hi v n xs hs hown hx (h v w ?_ ?_)
    · simpa using hown
    · exact ⟨rfl, rfl, rfl, Nat.le_refl _, fun _ _ _ => rfl⟩
  | some ad =>
    refine wpList_append_own _ hgd s x 67 ho base 5 i0 (.int .u8 0) 1 1 Tryz.underlying67 hi hz0 hz1 hz2 rfl (by decide) v n xs hs hown ad m c (zs.map (Value.int .u8)) hx ?_ (seen_news hsn rfl) (one_bytes zs) ?_ ?_ hbase (fun v' w' h1 h2 _ => h v' w' h1 h2)
    · rw [List.length_map, hsn.len, Nat.mul_one]
    · unfold maxLen; omega
    · omega

/-- The same, and where the new slice lies. -/
theorem wpList_append_seen_at {ops : Array Oper} {rest : List Oper} {o : Oper} {a : Act} {Q : Exit → Act → World → Prop} {w : World} (hgd : o.guard = none) (s x : Operand)
    (ho : o.op = .call { callee := .builtin .append, args := #[s, x], argTypes := #[67, 67] }) (base : Nat) (v : Value) (n : Nat) (xs : List Value) (hs : a.eval s = v) (hown : w.ownsRow base 5 1 v n xs)
    (ao : Option Addr) (m c : Nat) (zs : List Int) (hx : a.eval x = .slice ao m c) (hsn : Seen w ao m zs) (hc : ao = none → c = 0) (hb : n + m ≤ 140737488355328) (hbase : base ≤ w.heap.size)
    (h : ∀ v' w', w'.ownsRow base 5 1 v' (n + m) (xs ++ zs.map (Value.int .u8)) → w.grownBy w' v.ownBlock → (v'.ownBlock = v.ownBlock ∨ v'.ownBlock = some w.heap.size) → wpList Tryz.prog ops Q rest (a.put o.dst v') w') : wpList Tryz.prog ops Q (o :: rest) a w := by
  obtain ⟨i0, hi, hz0, hz1, hz2⟩ := info_parts info_byte
  cases ao with
  | none =>
    obtain ⟨rfl, rfl⟩ := seen_nil hsn
    obtain rfl := hc rfl
    refine wpList_append_own_none hgd s x 67 ho base 5 i0 1 Tryz.underlying67 hi v n xs hs hown hx (h v w ?_ ?_ (.inl rfl))
    · simpa using hown
    · exact ⟨rfl, rfl, rfl, Nat.le_refl _, fun _ _ _ => rfl⟩
  | some ad =>
    refine wpList_append_own_at _ hgd s x 67 ho base 5 i0 (.int .u8 0) 1 1 Tryz.underlying67 hi hz0 hz1 hz2 rfl (by decide) v n xs hs hown ad m c (zs.map (Value.int .u8)) hx ?_ (seen_news hsn rfl) (one_bytes zs) ?_ ?_ hbase (fun v' w' h1 h2 _ h4 => h v' w' h1 h2 h4)
    · rw [List.length_map, hsn.len, Nat.mul_one]
    · unfold maxLen; omega
    · omega

set_option maxRecDepth 20000 in
theorem clone_any (ao : Option Addr) (n c : Nat) (zs : List Int) (w : World) (hx : Seen w ao n zs) :
    Calls Tryz.prog 94 #[.slice ao n c] w fun e w' => ∃ v, e = .returned v ∧ w'.ownsRow w.heap.size 5 1 v n (zs.map (Value.int .u8)) ∧ Below w.heap.size w w' := by
  have t1 := hx.top
  obtain ⟨i0, hi, hz0, hz1, hz2⟩ := info_parts info_byte
  cases ao with
  | none =>
    obtain ⟨rfl, rfl⟩ := seen_nil hx
    have hq : ∀ wx, (binOp .eql 67 (.slice none 0 c) (.slice none 0 0)).run Tryz.prog wx = .ok (.bool true) wx := fun wx => Lib.run_eql_slice_nil wx 67 5 none 0 c 0 0 Tryz.underlying67
    go_enter Tryz.func94, Tryz.ntmps94
    go_wp2
    go_ret
    exact ⟨_, rfl, World.ownsRow_nil _ _ _ _, Below.refl _ _⟩
  | some ad =>
    have hb1 : Below w.heap.size w (w.alloc (.cells #[] 5)) := (Below.refl _ _).alloc (Nat.le_refl _) _
    have ho1 := own_made w 0 (Nat.zero_le _) #[] rfl
    have HN : Hid _ := seen_news (hx.later hb1 (Nat.le_refl _)) rfl
    have HL : Hid (zs.length = n) := hx.len
    have hq : ∀ wx, (binOp .eql 67 (.slice (some ad) n c) (.slice none 0 0)).run Tryz.prog wx = .ok (.bool false) wx := fun wx => Lib.run_eql_slice_nil wx 67 5 (some ad) n c 0 0 Tryz.underlying67
    go_enter Tryz.func94, Tryz.ntmps94
    go_wp2_with (at_builtin; refine wpList_append_own _ rfl _ _ 67 rfl w.heap.size 5 i0 (.int .u8 0) 1 1 Tryz.underlying67 hi hz0 hz1 hz2 rfl (by decide) _ 0 [] rfl ho1 ad n c (zs.map (Value.int .u8)) rfl ?c0 HN.out (one_bytes zs) ?c3 ?c4 hb1.size ?_)
    case c0 => simp [HL.out]
    case c3 => unfold maxLen; omega
    case c4 => omega
    · intro v' w1 hown hgrow _
      have R : Hid (Below w.heap.size w w1) := below_grown hb1 ho1 hgrow
      try simp only [Nat.zero_add, List.nil_append] at hown
      have HO : Hid _ := hown
      clear hown hgrow ho1
      go_wp2
      go_ret
      exact ⟨_, rfl, HO.out, R.out⟩

set_option maxRecDepth 20000 in
theorem room_any (ao : Option Addr) (n c m : Nat) (zs : List Int) (w : World) (hx : Seen w ao n zs) (hc : ao = none → c = 0) (hm : m ≤ 8) :
    Calls Tryz.prog 190 #[.slice ao n c, .int .i64 m] w fun e w' => ∃ v, e = .returned v ∧ w'.ownsRow w.heap.size 5 1 v n (zs.map (Value.int .u8)) ∧ Below w.heap.size w w' := by
  have t1 := hx.top
  obtain ⟨i0, hi, hz0, hz1, hz2⟩ := info_parts info_byte
  obtain ⟨w0, hmk, ho1, hg0⟩ := run_make_own (P := Tryz.prog) w w.heap.size 67 5 i0 (.int .u8 0) 1 Tryz.underlying67 hi hz0 hz1 .i64 .i64 (n + m) (by rw [hz2]; omega) (by unfold maxLen; omega) (Nat.le_refl _)
  have hb1 : Below w.heap.size w w0 := (Below.refl _ _).grown hg0 (Nat.le_refl _) (fun j hj => by cases hj)
  have ec : ((n + m : Nat) : Int) = (n : Int) + (m : Int) := by omega
  rw [ec] at hmk
  have HL : Hid (zs.length = n) := hx.len
  have hs := hx.later hb1 (Nat.le_refl _)
  cases ao with
  | none =>
    obtain ⟨rfl, rfl⟩ := seen_nil hx
    obtain rfl := hc rfl
    rw [Nat.zero_add] at ho1
    simp at hmk
    have HO : Hid (w0.ownsRow w.heap.size 5 1 (.slice (some ⟨w.heap.size, 0, none⟩) 0 m) 0 []) := ho1
    clear ho1
    go_enter Tryz.func190, Tryz.ntmps190
    go_wp2_with (at_builtin; refine wpList_append_own_none rfl _ _ 67 rfl w.heap.size 5 i0 1 Tryz.underlying67 hi _ 0 [] rfl HO.out rfl ?_)
    go_ret
    exact ⟨_, rfl, HO.out, hb1⟩
  | some ad =>
    have HN : Hid _ := seen_news hs rfl
    have HO1 : Hid (w0.ownsRow w.heap.size 5 1 (.slice (some ⟨w.heap.size, 0, none⟩) 0 (n + m)) 0 []) := ho1
    have HB1 : Hid _ := hb1
    clear ho1 hs
    go_enter Tryz.func190, Tryz.ntmps190
    go_wp2_with (at_builtin; refine wpList_append_own _ rfl _ _ 67 rfl w.heap.size 5 i0 (.int .u8 0) 1 1 Tryz.underlying67 hi hz0 hz1 hz2 rfl (by decide) _ 0 [] rfl HO1.out ad n c (zs.map (Value.int .u8)) rfl ?c0 HN.out (one_bytes zs) ?c3 ?c4 HB1.out.size ?_)
    case c0 => simp [HL.out]
    case c3 => unfold maxLen; omega
    try case c4 => omega
    · intro v' w1 hown hgrow _
      have R : Hid (Below w.heap.size w w1) := below_grown HB1.out HO1.out hgrow
      try simp only [Nat.zero_add, List.nil_append] at hown
      have HO : Hid _ := hown
      clear hown hgrow hb1 hg0
      go_wp2
      go_ret
      exact ⟨_, rfl, HO.out, R.out⟩
end Go.Proofs.YtnagndnpamcbbaaGreat

namespace Go.Proofs.YtnagndnpamcbbaaGreat
open Go.RowKit
set_option linter.unusedVariables false
set_option linter.unusedSimpArgs false

theorem app_getD (xs ys : List Int) (n k : Nat) (hl : xs.length = n) : (xs ++ ys).getD (n + k) 0 = ys.getD k 0 := by
  subst hl
  simp [List.getD, List.getElem?_append_right]
theorem app_take (xs ys : List Int) (n : Nat) (hl : xs.length = n) : ((xs ++ ys).map (Value.int .u8)).take n = xs.map (Value.int .u8) := by
  rw [List.map_append, List.take_append_of_le_length (by simp; omega), List.take_of_length_le (by simp; omega)]
theorem app_all (xs ys : List Int) (n k : Nat) (hl : xs.length = n) (hk : ys.length = k) : ((xs ++ ys).map (Value.int .u8)).take (n + k) = (xs ++ ys).map (Value.int .u8) :=
  List.take_of_length_le (by simp; omega)

set_option maxHeartbeats 1000000 in
set_option maxRecDepth 20000 in
theorem put_32 (ao : Option Addr) (n c : Nat) (zs : List Int) (x : Int) (w : World) (hx : Seen w ao n zs) (hc : ao = none → c = 0) (hn : n + 8 ≤ 140737488355328) (hv : 0 ≤ x ∧ x < 4294967296) :
    Calls Tryz.prog 167 #[.slice ao n c, .int .u32 x] w fun e w' => ∃ v, e = .returned v ∧ w'.ownsRow w.heap.size 5 1 v (n + 4) ((zs ++ leB 4 x).map (Value.int .u8)) ∧ Below w.heap.size w w' := by
  obtain ⟨i0, hi, hz0, hz1, hz2⟩ := info_parts info_byte
  have A1 : Hid (∀ k, k < 4 → (zs ++ leB 4 x).getD (n + k) 0 = x / 256 ^ k % 256) := fun k hk => by rw [app_getD _ _ _ _ hx.len, leB_at _ _ _ hk]
  have A2 : Hid (((zs ++ leB 4 x).map (Value.int .u8)).take n = zs.map (Value.int .u8)) := app_take _ _ _ hx.len
  have A3 : Hid (((zs ++ leB 4 x).map (Value.int .u8)).take (n + 4) = (zs ++ leB 4 x).map (Value.int .u8)) := app_all _ _ _ _ hx.len (leB_length _ _)
  have A4 : Hid ((zs ++ leB 4 x).length = n + 4) := by show _ = _; rw [List.length_append, hx.len, leB_length]
  generalize zs ++ leB 4 x = zm at *
  have hr := room_any ao n c 4 zs w hx hc (by decide)
  go_enter Tryz.func167, Tryz.ntmps167
  go_wp2_with (first | (go_at_call 191; with_reducible refine (width_32 _).mono ?_; rintro e w' ⟨rfl, rfl⟩) | (go_at_call 190; refine hr.mono ?_; rintro e w1 ⟨v, rfl, hown, hbel⟩))
  go_loopw [5, 11] (fun v i wr => ∃ k : Nat, k ≤ 4 ∧ i = .int .i64 k ∧ wr.ownsRow w.heap.size 5 1 v (n + k) ((zm.map (Value.int .u8)).take (n + k)) ∧ Below w.heap.size w wr) (fun _ i _ => 4 - (intOf i).toNat)
  case atStart => exact ⟨0, Nat.zero_le _, rfl, by rw [Nat.add_zero, A2.out]; exact hown, hbel⟩
  case round =>
    clear hown hbel hx hr
    obtain ⟨k, hk, rfl, hown, hbel⟩ := hrel
    by_cases hlt : k < 4
    · have hsz := hbel.size
      have HZ : Hid (zm.getD (n + k) 0 = x / 256 ^ k % 256) := A1.out k hlt
      have i1 : (k : Int) < 4 := by omega
      go_wp2_with fail
      refine (byteAt_32 x hv k hlt wr).mono ?_
      rintro e w' ⟨rfl, rfl⟩
      go_wp2_with (at_builtin; refine wpList_append_own _ rfl _ _ 67 rfl w.heap.size 5 i0 (.int .u8 0) 1 1 Tryz.underlying67 hi hz0 hz1 hz2 rfl (by decide) _ _ _ rfl (hown.alloc _) ⟨wr.heap.size, 0, none⟩ 1 1 [.int .u8 (x / 256 ^ k % 256)] rfl rfl ?c1 ?c2 ?c3 ?c4 ?c5 ?_)
      case c1 => exact cell_one_new _ _ _
      case c2 => intro u hu; simp at hu; subst hu; rfl
      case c3 => unfold maxLen; omega
      case c4 => omega
      case c5 => simp; omega
      · intro v' w1 hown' hgrow _
        have R := step_own hbel hown (by have := A4.out; omega) HZ.out hown' hgrow
        clear hown' hgrow hown hbel
        go_wp2
        go_roundw
        case rel => exact ⟨k + 1, by omega, by go_num, R.1, R.2⟩
        case measure => simp [intOf] <;> omega
    · have e : k = 4 := by omega
      subst e
      have HO : Hid _ := hown
      have HB : Hid _ := hbel
      clear hown hbel
      go_wp2
      go_ret
      refine ⟨_, rfl, ?_, HB.out⟩
      have h := HO.out
      rwa [A3.out] at h
set_option maxHeartbeats 1000000 in
set_option maxRecDepth 20000 in
theorem put_64 (ao : Option Addr) (n c : Nat) (zs : List Int) (x : Int) (w : World) (hx : Seen w ao n zs) (hc : ao = none → c = 0) (hn : n + 8 ≤ 140737488355328) (hv : 0 ≤ x ∧ x < 18446744073709551616) :
    Calls Tryz.prog 168 #[.slice ao n c, .int .u64 x] w fun e w' => ∃ v, e = .returned v ∧ w'.ownsRow w.heap.size 5 1 v (n + 8) ((zs ++ leB 8 x).map (Value.int .u8)) ∧ Below w.heap.size w w' := by
  obtain ⟨i0, hi, hz0, hz1, hz2⟩ := info_parts info_byte
  have A1 : Hid (∀ k, k < 8 → (zs ++ leB 8 x).getD (n + k) 0 = x / 256 ^ k % 256) := fun k hk => by rw [app_getD _ _ _ _ hx.len, leB_at _ _ _ hk]
  have A2 : Hid (((zs ++ leB 8 x).map (Value.int .u8)).take n = zs.map (Value.int .u8)) := app_take _ _ _ hx.len
  have A3 : Hid (((zs ++ leB 8 x).map (Value.int .u8)).take (n + 8) = (zs ++ leB 8 x).map (Value.int .u8)) := app_all _ _ _ _ hx.len (leB_length _ _)
  have A4 : Hid ((zs ++ leB 8 x).length = n + 8) := by show _ = _; rw [List.length_append, hx.len, leB_length]
  generalize zs ++ leB 8 x = zm at *
  have hr := room_any ao n c 8 zs w hx hc (by decide)
  go_enter Tryz.func168, Tryz.ntmps168
  go_wp2_with (first | (go_at_call 193; with_reducible refine (width_64 _).mono ?_; rintro e w' ⟨rfl, rfl⟩) | (go_at_call 190; refine hr.mono ?_; rintro e w1 ⟨v, rfl, hown, hbel⟩))
  go_loopw [5, 11] (fun v i wr => ∃ k : Nat, k ≤ 8 ∧ i = .int .i64 k ∧ wr.ownsRow w.heap.size 5 1 v (n + k) ((zm.map (Value.int .u8)).take (n + k)) ∧ Below w.heap.size w wr) (fun _ i _ => 8 - (intOf i).toNat)
  case atStart => exact ⟨0, Nat.zero_le _, rfl, by rw [Nat.add_zero, A2.out]; exact hown, hbel⟩
  case round =>
    clear hown hbel hx hr
    obtain ⟨k, hk, rfl, hown, hbel⟩ := hrel
    by_cases hlt : k < 8
    · have hsz := hbel.size
      have HZ : Hid (zm.getD (n + k) 0 = x / 256 ^ k % 256) := A1.out k hlt
      have i1 : (k : Int) < 8 := by omega
      go_wp2_with fail
      refine (byteAt_64 x hv k hlt wr).mono ?_
      rintro e w' ⟨rfl, rfl⟩
      go_wp2_with (at_builtin; refine wpList_append_own _ rfl _ _ 67 rfl w.heap.size 5 i0 (.int .u8 0) 1 1 Tryz.underlying67 hi hz0 hz1 hz2 rfl (by decide) _ _ _ rfl (hown.alloc _) ⟨wr.heap.size, 0, none⟩ 1 1 [.int .u8 (x / 256 ^ k % 256)] rfl rfl ?c1 ?c2 ?c3 ?c4 ?c5 ?_)
      case c1 => exact cell_one_new _ _ _
      case c2 => intro u hu; simp at hu; subst hu; rfl
      case c3 => unfold maxLen; omega
      case c4 => omega
      case c5 => simp; omega
      · intro v' w1 hown' hgrow _
        have R := step_own hbel hown (by have := A4.out; omega) HZ.out hown' hgrow
        clear hown' hgrow hown hbel
        go_wp2
        go_roundw
        case rel => exact ⟨k + 1, by omega, by go_num, R.1, R.2⟩
        case measure => simp [intOf] <;> omega
    · have e : k = 8 := by omega
      subst e
      have HO : Hid _ := hown
      have HB : Hid _ := hbel
      clear hown hbel
      go_wp2
      go_ret
      refine ⟨_, rfl, ?_, HB.out⟩
      have h := HO.out
      rwa [A3.out] at h
end Go.Proofs.YtnagndnpamcbbaaGreat

namespace Go.Proofs.YtnagndnpamcbbaaGreat
open Go.RowKit
set_option linter.unusedVariables false
set_option linter.unusedSimpArgs false

/-- Block g is of type t and holds just these values. -/
def Blk (w : World) (g : Nat) (t : TypeId) (vs : List Value) : Prop := w.heap[g]? = some (.cells vs.toArray t (0, 0))
theorem Blk.cell {w : World} {g : Nat} {t : TypeId} {vs : List Value} (h : Blk w g t vs) (j : Nat) : w.cell? ⟨g, j, none⟩ = vs[j]? := by
  rw [cell_of_row w g j _ t (0, 0) h]; simp
theorem Blk.frozen {w : World} {g : Nat} {t : TypeId} {vs : List Value} (h : Blk w g t vs) (j : Nat) : w.frozen? ⟨g, j, none⟩ = false := frozen_of_row w g j _ t h
theorem Blk.lt {w : World} {g : Nat} {t : TypeId} {vs : List Value} (h : Blk w g t vs) : g < w.heap.size := by
  rcases Nat.lt_or_ge g w.heap.size with h' | h'
  · exact h'
  · unfold Blk at h; rw [Array.getElem?_eq_none h'] at h; cases h
theorem Blk.block {w w' : World} {g : Nat} {t : TypeId} {vs : List Value} (h : Blk w g t vs) (e : w'.heap[g]? = w.heap[g]?) : Blk w' g t vs := e.trans h
theorem Blk.later {w w' : World} {g : Nat} {t : TypeId} {vs : List Value} (h : Blk w g t vs) {B : Nat} (hb : Below B w w') (hB : g < B) : Blk w' g t vs := h.block (hb.block g hB)
theorem Blk.kept {S : Nat → Prop} {w w' : World} {g : Nat} {t : TypeId} {vs : List Value} (h : Blk w g t vs) (hk : Kept S w w') (hS : ¬ S g) : Blk w' g t vs := h.block (hk.block g h.lt hS)
theorem Blk.drewN {w : World} {g : Nat} {t : TypeId} {vs : List Value} (h : Blk w g t vs) (k : Nat) : Blk (w.drewN k) g t vs := h
theorem Blk.drew {w : World} {g : Nat} {t : TypeId} {vs : List Value} (h : Blk w g t vs) : Blk w.drew g t vs := h
theorem Blk.set {w : World} {g : Nat} {t : TypeId} {vs : List Value} (h : Blk w g t vs) (j : Nat) (u : Value) : Blk (w.setCell ⟨g, j, none⟩ u) g t (vs.set j u) := by
  unfold Blk
  rw [heap_setCell_same w g j _ t _ h]; simp
theorem Blk.other {w : World} {g : Nat} {t : TypeId} {vs : List Value} (h : Blk w g t vs) {p : Addr} (hp : g ≠ p.block) (u : Value) : Blk (w.setCell p u) g t vs := h.block (Below.heap_setCell _ _ _ _ hp)
theorem Blk.range {w : World} {g : Nat} {t : TypeId} {xs ys zs : List Value} (h : Blk w g t (xs ++ (ys ++ zs))) : w.rangeAt g xs.length ys := fun j v hv => by
  have hj : j < ys.length := (List.getElem?_eq_some_iff.1 hv).1
  rw [h.cell, List.getElem?_append_right (Nat.le_add_right _ _), Nat.add_sub_cancel_left, List.getElem?_append_left hj]; exact hv
theorem Blk.there {w : World} {g : Nat} {t : TypeId} {vs : List Value} (h : Blk w g t vs) {o n : Nat} (hn : o + n ≤ vs.length) : w.there g o n := fun j hj =>
  ⟨by rw [h.cell, List.getElem?_eq_getElem (by omega)]; rfl, h.frozen _⟩

/-- setCells over a block that is known whole. -/
theorem set_mid (xs ys zs : List Value) (v y : Value) : (xs ++ (y :: (ys ++ zs))).set xs.length v = xs ++ [v] ++ (ys ++ zs) := by
  rw [List.set_append_right _ _ (Nat.le_refl _), Nat.sub_self, List.set_cons_zero]; simp
theorem Blk.setCells {g : Nat} {t : TypeId} : ∀ (us ys : List Value) {w : World} {xs zs : List Value}, us.length = ys.length → Blk w g t (xs ++ (ys ++ zs)) → Blk (w.setCells g xs.length us) g t (xs ++ (us ++ zs))
  | [], [], w, xs, zs, _, h => h
  | u :: us, y :: ys, w, xs, zs, hl, h => by
    have h1 := h.set xs.length u
    rw [List.cons_append, set_mid] at h1
    have := Blk.setCells us ys (xs := xs ++ [u]) (zs := zs) (by simpa using hl) h1
    rw [List.length_append] at this
    simpa [World.setCells] using this
theorem setCells_heap_other (b : Nat) : ∀ (vs : List Value) (o : Nat) (w : World) (k : Nat), k ≠ b → (w.setCells b o vs).heap[k]? = w.heap[k]?
  | [], _, _, _, _ => rfl
  | v :: r, o, w, k, h => by
    rw [World.setCells, setCells_heap_other b r _ _ k h]
    exact Below.heap_setCell _ _ _ _ h
theorem setCells_size (b : Nat) : ∀ (vs : List Value) (o : Nat) (w : World), (w.setCells b o vs).heap.size = w.heap.size
  | [], _, _ => rfl
  | v :: r, o, w => by
    rw [World.setCells, setCells_size b r]
    simp [World.setCell]
theorem setCells_rest (b : Nat) : ∀ (vs : List Value) (o : Nat) (w : World), (w.setCells b o vs).os = w.os ∧ (w.setCells b o vs).tape = w.tape ∧ (w.setCells b o vs).output = w.output
  | [], _, _ => ⟨rfl, rfl, rfl⟩
  | v :: r, o, w => by
    rw [World.setCells]
    exact setCells_rest b r _ _
theorem Kept.setCells {S : Nat → Prop} {a w : World} (h : Kept S a w) {b : Nat} (hb : S b) (o : Nat) (vs : List Value) : Kept S a (w.setCells b o vs) :=
  h.trans ⟨(setCells_rest b vs o w).1, (setCells_rest b vs o w).2.1, (setCells_rest b vs o w).2.2, by rw [setCells_size]; exact Nat.le_refl _, fun k _ hs => setCells_heap_other b vs o w k (fun e => hs (e ▸ hb))⟩
theorem Kept.drewN {S : Nat → Prop} {a w : World} (h : Kept S a w) (n : Nat) : Kept S a (w.drewN n) := ⟨h.os, h.tape, h.output, h.size, h.block⟩
theorem Kept.of_below {S : Nat → Prop} {w w' : World} {B : Nat} (h : Below B w w') (hS : ∀ k, k < w.heap.size → B ≤ k → S k) : Kept S w w' :=
  ⟨h.os, h.tape, h.output, h.size, fun k hk hs => h.block k (by
    rcases Nat.lt_or_ge k B with h1 | h1
    · exact h1
    · exact absurd (hS k hk h1) hs)⟩
theorem Kept.new {w w' : World} (S : Nat → Prop) (h : Below w.heap.size w w') : Kept S w w' := Kept.of_below h (fun k h1 h2 => by omega)
theorem one_ints (k : IntKind) (zs : List Int) : ∀ v ∈ zs.map (Value.int k), v.oneCell' = true := by
  intro v hv
  obtain ⟨z, _, rfl⟩ := List.mem_map.1 hv
  rfl

/-- A new variable of zeros. -/
theorem wpList_alloc_new {ops : Array Oper} {rest : List Oper} {o : Oper} {a : Act} {Q : Exit → Act → World → Prop} {w : World} (hgd : o.guard = none) (t : TypeId) (ho : o.op = .alloc t) (n : Nat) (vs : List Value)
    (hz : (Tryz.prog.info? t).map (fun i => (i.zero, i.size)) = some (some (.agg vs.toArray), n))
    (h : ∀ w', Blk w' w.heap.size t vs → w'.heap.size = w.heap.size + 1 → Below w.heap.size w w' → wpList Tryz.prog ops Q rest (a.put o.dst (.pointer (some ⟨w.heap.size, 0, none⟩))) w') : wpList Tryz.prog ops Q (o :: rest) a w := by
  refine wpList_plain hgd fun K hK => ?_
  unfold Oper.wp execOp
  simp only [ho, Sem.run_bind, Instr.alloc, (zero_of_info hz).1, newVar, newRow, run_newObj_alloc, Sem.run_pure, Result.andThen_ok]
  exact hK _ _ (h _ (heap_alloc_new w _) (by simp) ((Below.refl _ _).alloc (Nat.le_refl _) _))
/-- A new variable that holds a value of many cells. -/
theorem wpList_box_new {ops : Array Oper} {rest : List Oper} {o : Oper} {a : Act} {Q : Exit → Act → World → Prop} {w : World} (hgd : o.guard = none) (t : TypeId) (x : Operand) (ho : o.op = .box t x) (vs : List Value) (hx : a.eval x = .agg vs.toArray)
    (h : ∀ w', Blk w' w.heap.size t vs → w'.heap.size = w.heap.size + 1 → Below w.heap.size w w' → wpList Tryz.prog ops Q rest (a.put o.dst (.pointer (some ⟨w.heap.size, 0, none⟩))) w') : wpList Tryz.prog ops Q (o :: rest) a w := by
  refine wpList_plain hgd fun K hK => ?_
  unfold Oper.wp execOp
  simp only [ho, hx, Sem.run_bind, Instr.box, Value.cells, newVar, newRow, run_newObj_alloc, Sem.run_pure, Result.andThen_ok]
  exact hK _ _ (h _ (heap_alloc_new w _) (by simp) ((Below.refl _ _).alloc (Nat.le_refl _) _))
/-- A whole variable read. -/
theorem wpList_load_blk {ops : Array Oper} {rest : List Oper} {o : Oper} {a : Act} {Q : Exit → Act → World → Prop} {w : World} (hgd : o.guard = none) (t : TypeId) (x : Operand) (ho : o.op = .load t x) (g : Nat) (hx : a.eval x = .pointer (some ⟨g, 0, none⟩))
    (vs : List Value) (d : TypeDesc) (hb : Blk w g t vs) (hu : Tryz.prog.underlying t = some d) (hd : d.isRow = true) (hi : (Tryz.prog.info? t).map (·.size) = some vs.length)
    (h : wpList Tryz.prog ops Q rest (a.put o.dst (.agg vs.toArray)) w) : wpList Tryz.prog ops Q (o :: rest) a w :=
  wpList_load_mid hgd t x ho g 0 hx vs d (fun j v hv => by rw [Nat.zero_add, hb.cell]; exact hv) hu hd hi h
/-- A whole variable written. -/
theorem wpList_store_blk {ops : Array Oper} {rest : List Oper} {o : Oper} {a : Act} {Q : Exit → Act → World → Prop} {w : World} (hgd : o.guard = none) (t t' : TypeId) (x y : Operand) (ho : o.op = .store t x y) (g : Nat) (hx : a.eval x = .pointer (some ⟨g, 0, none⟩))
    (vs us : List Value) (hy : a.eval y = .agg us.toArray) (hb : Blk w g t' vs) (hl : us.length = vs.length) (hi : (Tryz.prog.info? t).map (·.size) = some us.length) (h1 : ∀ v ∈ us, v.oneCell' = true)
    (h : ∀ w', Blk w' g t' us → w'.heap.size = w.heap.size → Kept (fun k => k = g) w w' → wpList Tryz.prog ops Q rest (a.put o.dst undef) w') : wpList Tryz.prog ops Q (o :: rest) a w := by
  refine wpList_store_mid hgd t x y ho g 0 us.toArray hx hy (hb.there (by simp; omega)) (by simpa using hi) (all_oneCell_toArray h1) (h _ ?_ ?_ ?_)
  · have := Blk.setCells (xs := []) (zs := []) us vs hl (by simpa using hb)
    simpa using this
  · exact setCells_size ..
  · exact (Kept.refl _ _).setCells (S := fun k => k = g) rfl _ _
/-- In a region that draws: an operation that yields its value in whatever world is taken first. -/
theorem take_op {md : Region.Mode} {ops : Array Oper} {Q : Exit → Act → World → Prop} {oi : Oper} {fuel : Nat} {listed : Array Bool} {a : Act} {w : World} (i : Nat) (d : Option Tmp) (v : Value) (hi : ops[i]? = some oi) (hd : oi.dst = d)
    (hs : Region.noSelect ops = true) (hf : Region.free md ops listed i = true) (hr : (Region.ready md ops listed).contains i = true) (hQ : ∀ c a w, Q (.panic c) (a.put d v) w → Q (.panic c) a w)
    (hw : Region.wanted oi (yielded ops a.tmps) = true) (hy : ∀ w, (execOp a.eval oi).run Tryz.prog w = .ok (.value v) w)
    (h : wpAny Tryz.prog md ops Q fuel (listed.setIfInBounds i true) (a.put d v) w) : wpAny Tryz.prog md ops Q (fuel + 1) listed a w := by
  subst hd
  exact wpAny_take hi hs hf hr hQ (Or.inl ⟨hw, hy⟩) h
/-- In a region that draws: many cells read, many cells written. -/
theorem step_load {ops : Array Oper} {Q : Exit → Act → World → Prop} {o : Oper} {a : Act} {w : World} {K : Act → World → Prop} {E : Prop} (d : Option Tmp) (hdst : o.dst = d) (hw : Region.wanted o (yielded ops a.tmps) = true) (ty : TypeId) (x : Operand) (ho : o.op = .load ty x)
    (b off : Nat) (hx : a.eval x = .pointer (some ⟨b, off, none⟩)) (cs : List Value) (ds : TypeDesc) (hc : w.rangeAt b off cs) (hu : Tryz.prog.underlying ty = some ds) (hd : ds.isRow = true) (hi : (Tryz.prog.info? ty).map (·.size) = some cs.length)
    (h : K (a.put d (.agg cs.toArray)) w) : if Region.wanted o (yielded ops a.tmps) = true then Oper.wp Tryz.prog o a w K Q else E := by
  subst hdst
  rw [if_pos hw]
  exact wp_load_mid ty x ho b off hx cs ds hc hu hd hi h
theorem step_store {ops : Array Oper} {Q : Exit → Act → World → Prop} {o : Oper} {a : Act} {w : World} {K : Act → World → Prop} {E : Prop} (hdst : o.dst = none) (hw : Region.wanted o (yielded ops a.tmps) = true) (ty : TypeId) (x y : Operand) (ho : o.op = .store ty x y)
    (b off : Nat) (hx : a.eval x = .pointer (some ⟨b, off, none⟩)) (cs : List Value) (hy : a.eval y = .agg cs.toArray) (ht : w.there b off cs.length) (hi : (Tryz.prog.info? ty).map (·.size) = some cs.length) (h1 : ∀ v ∈ cs, v.oneCell' = true)
    (h : K a (w.setCells b off cs)) : if Region.wanted o (yielded ops a.tmps) = true then Oper.wp Tryz.prog o a w K Q else E := by
  rw [if_pos hw]
  refine wp_store_mid ty x y ho b off cs.toArray hx hy (by simpa using ht) (by simpa using hi) (all_oneCell_toArray h1) ?_
  rw [hdst]
  exact h
/-- One operation of a region that draws, carried out. -/
def Stp (ops : Array Oper) (Q : Exit → Act → World → Prop) (o : Oper) (a : Act) (w : World) (a' : Act) (w' : World) : Prop :=
  ∀ K : Act → World → Prop, K a' w' → if Region.wanted o (yielded ops a.tmps) = true then Oper.wp Tryz.prog o a w K Q else K (a.put o.dst undef) w
theorem one_step {md : Region.Mode} {ops : Array Oper} {Q : Exit → Act → World → Prop} {fuel : Nat} {listed : Array Bool} {a a' : Act} {w w' : World} (i : Nat) {oi : Oper} (hi : ops[i]? = some oi) (hr : Region.ready md ops listed = [i])
    (s : Stp ops Q oi a w a' w') (h : wpAny Tryz.prog md ops Q fuel (listed.setIfInBounds i true) a' w') : wpAny Tryz.prog md ops Q (fuel + 1) listed a w :=
  wpAny_ready hr (by simp) (AllReady.cons hi (fun K hK => s K (hK _ _ h)) AllReady.nil)
/-- Two operations that may come in either order, and come to one end. -/
theorem two_steps {md : Region.Mode} {ops : Array Oper} {Q : Exit → Act → World → Prop} {fuel : Nat} {listed : Array Bool} {a a1 a2 a3 : Act} {w : World} (i j : Nat) {oi oj : Oper} (hi : ops[i]? = some oi) (hj : ops[j]? = some oj) (hij : i ≠ j)
    (hr : Region.ready md ops listed = [i, j]) (hr1 : Region.ready md ops (listed.setIfInBounds i true) = [j]) (hr2 : Region.ready md ops (listed.setIfInBounds j true) = [i])
    (s1 : Stp ops Q oi a w a1 w) (s2 : Stp ops Q oj a1 w a3 w) (t1 : Stp ops Q oj a w a2 w) (t2 : Stp ops Q oi a2 w a3 w)
    (h : wpAny Tryz.prog md ops Q fuel ((listed.setIfInBounds i true).setIfInBounds j true) a3 w) : wpAny Tryz.prog md ops Q (fuel + 2) listed a w := by
  have e : (listed.setIfInBounds i true).setIfInBounds j true = (listed.setIfInBounds j true).setIfInBounds i true := by
    apply Array.ext_getElem?
    intro k
    simp only [Array.getElem?_setIfInBounds, Array.size_setIfInBounds]
    by_cases h1 : i = k <;> by_cases h2 : j = k <;> simp_all
  refine wpAny_ready hr (by simp) (AllReady.cons hi (fun K hK => s1 K (hK _ _ (one_step j hj hr1 s2 h))) (AllReady.cons hj (fun K hK => t1 K (hK _ _ (one_step i hi hr2 t2 ?_))) AllReady.nil))
  rw [← e]; exact h
/-- A value built of parts. -/
theorem wpList_build {ops : Array Oper} {rest : List Oper} {o : Oper} {a : Act} {Q : Exit → Act → World → Prop} {w : World} (hgd : o.guard = none) (t : TypeId) (parts : Array (Nat × Operand)) (ho : o.op = .build t parts) (ps : Array (Nat × Value))
    (hp : (parts.map fun (i, x) => (i, a.eval x)) = ps) (v : Value) (hrun : (Instr.build t ps).run Tryz.prog w = .ok v w) (h : wpList Tryz.prog ops Q rest (a.put o.dst v) w) : wpList Tryz.prog ops Q (o :: rest) a w := by
  refine wpList_plain hgd fun K hK => ?_
  unfold Oper.wp execOp
  simp only [ho, hp, Sem.run_bind, hrun, Sem.run_pure, Result.andThen_ok]
  exact hK _ _ h
/-- A call that ends with its result in a variable of many cells. -/
theorem ret_blk {fn : Func} {p : Tmp} {ty : TypeId} (h : fn.results = #[.cell p ty]) {R : Ending → World → Prop} {a : Act} {w : World} (g : Nat) (vs : List Value) (d : TypeDesc) (hp : a.tmps.getD p undef = .pointer (some ⟨g, 0, none⟩))
    (hb : Blk w g ty vs) (hu : Tryz.prog.underlying ty = some d) (hd : d.isRow = true) (hi : (Tryz.prog.info? ty).map (·.size) = some vs.length) (hdef : a.defers = []) (hR : R (.returned (.agg vs.toArray)) w) : bodyPost Tryz.prog fn R .ret a w :=
  bodyPost_ret (results_cell_row h _ _ g ty vs.toArray (0, 0) d hp hb hu (by cases d <;> simp_all) (by simpa using hi)) hdef hR
theorem below_kept {S : Nat → Prop} {w w1 w2 : World} {B : Nat} (h : Below B w w1) (k : Kept S w1 w2) (hB : B ≤ w1.heap.size) (hS : ∀ j, j < B → ¬ S j) : Below B w w2 :=
  ⟨by rw [k.os, h.os], by rw [k.tape, h.tape], by rw [k.output, h.output], Nat.le_trans h.size k.size, fun j hj => by rw [k.block j (by omega) (hS j hj), h.block j hj]⟩
theorem below_chain {w w1 w2 : World} {B C : Nat} (h : Below B w w1) (k : Below C w1 w2) (hB : B ≤ C) : Below B w w2 :=
  ⟨by rw [k.os, h.os], by rw [k.tape, h.tape], by rw [k.output, h.output], Nat.le_trans h.size k.size, fun j hj => by rw [k.block j (by omega), h.block j hj]⟩
def u32s (zs : List Int) : List Value := zs.map (Value.int .u32)
def u8s (zs : List Int) : List Value := zs.map (Value.int .u8)
theorem u32s_length (zs : List Int) : (u32s zs).length = zs.length := by simp [u32s]
theorem u8s_length (zs : List Int) : (u8s zs).length = zs.length := by simp [u8s]
theorem u32s_one (zs : List Int) : ∀ v ∈ u32s zs, v.oneCell' = true := one_ints _ _
theorem u8s_one (zs : List Int) : ∀ v ∈ u8s zs, v.oneCell' = true := one_ints _ _
theorem u32s_set (zs : List Int) (j : Nat) (z : Int) : (u32s zs).set j (.int .u32 z) = u32s (zs.set j z) := by simp [u32s, List.map_set]
theorem u8s_set (zs : List Int) (j : Nat) (z : Int) : (u8s zs).set j (.int .u8 z) = u8s (zs.set j z) := by simp [u8s, List.map_set]
theorem u8s_cell {w : World} {g : Nat} {t : TypeId} {zs : List Int} (h : Blk w g t (u8s zs)) (j : Nat) (hj : j < zs.length) : w.cell? ⟨g, j, none⟩ = some (.int .u8 (zs.getD j 0)) := by
  rw [h.cell]; simp [u8s, hj, List.getD]
theorem u32s_cell {w : World} {g : Nat} {t : TypeId} {zs : List Int} (h : Blk w g t (u32s zs)) (j : Nat) (hj : j < zs.length) : w.cell? ⟨g, j, none⟩ = some (.int .u32 (zs.getD j 0)) := by
  rw [h.cell]; simp [u32s, hj, List.getD]
theorem set_next (xs : List Int) (n : Nat) (z y : Int) : (xs ++ List.replicate (n + 1) y).set xs.length z = (xs ++ [z]) ++ List.replicate n y := by
  rw [List.set_append_right _ _ (Nat.le_refl _), Nat.sub_self, List.replicate_succ, List.set_cons_zero]; simp
theorem getD_front (xs ys : List Int) (j : Nat) (hj : j < xs.length) : (xs ++ ys).getD j 0 = xs.getD j 0 := by
  simp [List.getD, List.getElem?_append_left hj]

def addW (xs ys : List Int) : List Int := List.zipWith (fun x y => (x + y) % 4294967296) xs ys
theorem addW_length (xs ys : List Int) (n : Nat) (hx : xs.length = n) (hy : ys.length = n) : (addW xs ys).length = n := by simp [addW, hx, hy]
theorem addW_at (xs ys : List Int) (n i : Nat) (hx : xs.length = n) (hy : ys.length = n) (hi : i < n) : (addW xs ys).getD i 0 = (xs.getD i 0 + ys.getD i 0) % 4294967296 := by
  have h1 : i < xs.length := by omega
  have h2 : i < ys.length := by omega
  have h3 : i < (List.zipWith (fun x y => (x + y) % 4294967296) xs ys).length := by simp; omega
  simp only [addW, List.getD]
  rw [List.getElem?_eq_getElem h3, List.getElem?_eq_getElem h1, List.getElem?_eq_getElem h2]
  simp
theorem half_set (xs ys : List Int) (n i : Nat) (hx : xs.length = n) (hy : ys.length = n) (hi : i < n) : (xs.take i ++ ys.drop i).set i (xs.getD i 0) = xs.take (i + 1) ++ ys.drop (i + 1) := by
  have e : (xs.take i).length = i := by simp; omega
  have h1 : i < xs.length := by omega
  have h2 : xs.getD i 0 = xs[i] := by simp [List.getD, h1]
  rw [List.set_append_right _ _ (by omega), e, Nat.sub_self, List.drop_eq_getElem_cons (by omega : i < ys.length), List.set_cons_zero, List.take_succ_eq_append_getElem h1, h2, List.append_assoc]
  rfl
theorem half_at (xs ys : List Int) (n i : Nat) (hx : xs.length = n) (hy : ys.length = n) (hi : i < n) : (xs.take i ++ ys.drop i).getD i 0 = ys.getD i 0 := by
  have e : (xs.take i).length = i := by simp; omega
  simp only [List.getD]
  rw [List.getElem?_append_right (by omega), e, Nat.sub_self, List.getElem?_drop, Nat.add_zero]
theorem half_length (xs ys : List Int) (n i : Nat) (hx : xs.length = n) (hy : ys.length = n) (hi : i ≤ n) : (xs.take i ++ ys.drop i).length = n := by simp; omega
end Go.Proofs.YtnagndnpamcbbaaGreat

namespace Go.Proofs.YtnagndnpamcbbaaGreat
open Go.RowKit
set_option linter.unusedVariables false
set_option linter.unusedSimpArgs false

/-- What a pager's cells hold: the store, the key, the round, the window, how many pages, how long a text, the held pages, their order, the places, the most, the writes, the error. -/
structure PgV where
  st : Value
  key : List Int
  round : Int
  win : Nat
  pages : Nat
  text : Nat
  held : Value
  order : Value
  places : Value
  most : Nat
  writes : Nat
  dead : Int
def pgT (v : PgV) : List Value := [.int .u64 v.round, .int .i64 (v.win : Int), .int .i64 (v.pages : Int), .int .i64 (v.text : Int), v.held, v.order, v.places, .int .i64 (v.most : Int), .int .u32 (v.writes : Int), .int .i64 v.dead]
def pgC (v : PgV) : List Value := v.st :: (u8s v.key ++ pgT v)
theorem pgC_length (v : PgV) (hk : v.key.length = 32) : (pgC v).length = 43 := by simp [pgC, pgT, u8s_length, hk]
/-- A pager in block p. -/
structure PgAt (w : World) (p : Nat) (v : PgV) : Prop where
  blk : Blk w p 142 (pgC v)
  klen : v.key.length = 32
  kb : Bytes v.key
theorem PgAt.later {w w' : World} {p : Nat} {v : PgV} (h : PgAt w p v) {B : Nat} (l : Below B w w') (hB : p < B) : PgAt w' p v := ⟨h.blk.later l hB, h.klen, h.kb⟩
theorem PgAt.kept {S : Nat → Prop} {w w' : World} {p : Nat} {v : PgV} (h : PgAt w p v) (k : Kept S w w') (hS : ¬ S p) : PgAt w' p v := ⟨h.blk.kept k hS, h.klen, h.kb⟩
/-- The cells behind the key. -/
theorem PgAt.cell {w : World} {p : Nat} {v : PgV} (h : PgAt w p v) (i : Nat) (x : Value) (hx : (pgT v)[i]? = some x) : w.cell? ⟨p, 33 + i, none⟩ = some x := by
  rw [h.blk.cell]
  show (pgC v)[33 + i]? = some x
  rw [show 33 + i = (32 + i) + 1 by omega]
  simp only [pgC, List.getElem?_cons_succ]
  rw [List.getElem?_append_right (by rw [u8s_length, h.klen]; omega), u8s_length, h.klen, Nat.add_sub_cancel_left]
  exact hx
theorem pg_set (v : PgV) (hk : v.key.length = 32) (i : Nat) (x : Value) : (pgC v).set (33 + i) x = v.st :: (u8s v.key ++ (pgT v).set i x) := by
  rw [show 33 + i = (32 + i) + 1 by omega]
  simp only [pgC, List.set_cons_succ]
  rw [List.set_append_right _ _ (by rw [u8s_length, hk]; omega), u8s_length, hk, Nat.add_sub_cancel_left]
theorem PgAt.key {w : World} {p : Nat} {v : PgV} (h : PgAt w p v) : w.rangeAt p 1 (u8s v.key) := fun j x hx => by
  rw [h.blk.cell]
  show (pgC v)[1 + j]? = some x
  rw [Nat.add_comm]
  simp only [pgC, List.getElem?_cons_succ]
  rw [List.getElem?_append_left (List.getElem?_eq_some_iff.1 hx).1]
  exact hx
theorem PgAt.put {w : World} {p : Nat} {v v' : PgV} (h : PgAt w p v) (i : Nat) (x : Value) (hs : v'.st = v.st) (hk : v'.key = v.key) (ht : (pgT v).set i x = pgT v') : PgAt (w.setCell ⟨p, 33 + i, none⟩ x) p v' := by
  refine ⟨?_, by rw [hk]; exact h.klen, by rw [hk]; exact h.kb⟩
  have := h.blk.set (33 + i) x
  rw [pg_set v h.klen, ht, ← hs, ← hk] at this
  exact this
theorem alive_any (p : Nat) (v : PgV) (w : World) (h : PgAt w p v) : Calls Tryz.prog 97 #[.pointer (some ⟨p, 0, none⟩)] w fun e w' => e = .returned (.int .i64 v.dead) ∧ w = w' := by
  have c : w.cell? ⟨p, 42, none⟩ = some (.int .i64 v.dead) := h.cell 9 _ rfl
  go_enter Tryz.func97, Tryz.ntmps97
  go_wp2
  go_ret
  exact ⟨rfl, rfl⟩
theorem alive_nil (w : World) : Calls Tryz.prog 97 #[.pointer none] w fun e w' => e = .returned (.int .i64 1) ∧ w = w' := by
  go_enter Tryz.func97, Tryz.ntmps97
  go_wp2
  go_ret
  exact ⟨rfl, rfl⟩
theorem gpages_any (p : Nat) (v : PgV) (w : World) (h : PgAt w p v) : Calls Tryz.prog 64 #[.pointer (some ⟨p, 0, none⟩)] w fun e w' => e = .returned (.int .i64 (v.pages : Int)) ∧ w = w' := by
  have c : w.cell? ⟨p, 35, none⟩ = some (.int .i64 (v.pages : Int)) := h.cell 2 _ rfl
  go_enter Tryz.func64, Tryz.ntmps64
  go_wp2
  go_ret
  exact ⟨rfl, rfl⟩
theorem gpages_nil (w : World) : Calls Tryz.prog 64 #[.pointer none] w fun e w' => e = .returned (.int .i64 0) ∧ w = w' := by
  go_enter Tryz.func64, Tryz.ntmps64
  go_wp2
  go_ret
  exact ⟨rfl, rfl⟩
theorem gtext_any (p : Nat) (v : PgV) (w : World) (h : PgAt w p v) : Calls Tryz.prog 63 #[.pointer (some ⟨p, 0, none⟩)] w fun e w' => e = .returned (.int .i64 (v.text : Int)) ∧ w = w' := by
  have c : w.cell? ⟨p, 36, none⟩ = some (.int .i64 (v.text : Int)) := h.cell 3 _ rfl
  go_enter Tryz.func63, Tryz.ntmps63
  go_wp2
  go_ret
  exact ⟨rfl, rfl⟩
theorem gtext_nil (w : World) : Calls Tryz.prog 63 #[.pointer none] w fun e w' => e = .returned (.int .i64 0) ∧ w = w' := by
  go_enter Tryz.func63, Tryz.ntmps63
  go_wp2
  go_ret
  exact ⟨rfl, rfl⟩
theorem gmost_any (p : Nat) (v : PgV) (w : World) (h : PgAt w p v) : Calls Tryz.prog 49 #[.pointer (some ⟨p, 0, none⟩)] w fun e w' => e = .returned (.int .i64 (v.most : Int)) ∧ w = w' := by
  have c : w.cell? ⟨p, 40, none⟩ = some (.int .i64 (v.most : Int)) := h.cell 7 _ rfl
  go_enter Tryz.func49, Tryz.ntmps49
  go_wp2
  go_ret
  exact ⟨rfl, rfl⟩
theorem gmost_nil (w : World) : Calls Tryz.prog 49 #[.pointer none] w fun e w' => e = .returned (.int .i64 0) ∧ w = w' := by
  go_enter Tryz.func49, Tryz.ntmps49
  go_wp2
  go_ret
  exact ⟨rfl, rfl⟩
theorem gwrites_any (p : Nat) (v : PgV) (w : World) (h : PgAt w p v) : Calls Tryz.prog 30 #[.pointer (some ⟨p, 0, none⟩)] w fun e w' => e = .returned (.int .u32 (v.writes : Int)) ∧ w = w' := by
  have c : w.cell? ⟨p, 41, none⟩ = some (.int .u32 (v.writes : Int)) := h.cell 8 _ rfl
  go_enter Tryz.func30, Tryz.ntmps30
  go_wp2
  go_ret
  exact ⟨rfl, rfl⟩
theorem gwrites_nil (w : World) : Calls Tryz.prog 30 #[.pointer none] w fun e w' => e = .returned (.int .u32 0) ∧ w = w' := by
  go_enter Tryz.func30, Tryz.ntmps30
  go_wp2
  go_ret
  exact ⟨rfl, rfl⟩
theorem gerr_any (p : Nat) (v : PgV) (w : World) (h : PgAt w p v) : Calls Tryz.prog 50 #[.pointer (some ⟨p, 0, none⟩)] w fun e w' => e = .returned (.int .i64 v.dead) ∧ w = w' := by
  go_enter Tryz.func50, Tryz.ntmps50
  go_wp2_with (go_at_call 97; refine (alive_any p v w h).mono ?_; rintro e _ ⟨rfl, rfl⟩)
  go_ret
  exact ⟨rfl, rfl⟩
theorem gerr_nil (w : World) : Calls Tryz.prog 50 #[.pointer none] w fun e w' => e = .returned (.int .i64 1) ∧ w = w' := by
  go_enter Tryz.func50, Tryz.ntmps50
  go_wp2_with (go_at_call 97; refine (alive_nil w).mono ?_; rintro e _ ⟨rfl, rfl⟩)
  go_ret
  exact ⟨rfl, rfl⟩
/-- The error of a call for a page: that of which the pager is dead; no such page. -/
def chkE (v : PgV) (n : Int) : Int := if v.dead ≠ 0 then v.dead else if n < 0 ∨ (v.pages : Int) ≤ n then 2 else 0
theorem gcheck_any (p : Nat) (v : PgV) (n : Int) (w : World) (h : PgAt w p v) : Calls Tryz.prog 90 #[.pointer (some ⟨p, 0, none⟩), .int .i64 n] w fun e w' => e = .returned (.int .i64 (chkE v n)) ∧ w = w' := by
  have c : w.cell? ⟨p, 35, none⟩ = some (.int .i64 (v.pages : Int)) := h.cell 2 _ rfl
  have HP : Hid (PgAt w p v) := h
  clear h
  by_cases h0 : v.dead = 0
  · have H0 : Hid (v.dead = 0) := h0
    clear h0
    by_cases h1 : n < 0
    · have e : chkE v n = 2 := by unfold chkE; rw [if_neg (by have := H0.out; simp [this]), if_pos (.inl h1)]
      rw [e]
      clear e
      go_enter Tryz.func90, Tryz.ntmps90
      go_wp2_with (go_at_call 97; refine (alive_any p v w HP.out).mono ?_; rintro e _ ⟨rfl, rfl⟩; rw [H0.out])
      go_ret
      exact ⟨rfl, rfl⟩
    · by_cases h2 : (v.pages : Int) ≤ n
      · have e : chkE v n = 2 := by unfold chkE; rw [if_neg (by have := H0.out; simp [this]), if_pos (.inr h2)]
        rw [e]
        clear e
        go_enter Tryz.func90, Tryz.ntmps90
        go_wp2_with (go_at_call 97; refine (alive_any p v w HP.out).mono ?_; rintro e _ ⟨rfl, rfl⟩; rw [H0.out])
        go_ret
        exact ⟨rfl, rfl⟩
      · have e : chkE v n = 0 := by unfold chkE; rw [if_neg (by have := H0.out; simp [this]), if_neg (by omega)]
        rw [e]
        clear e
        go_enter Tryz.func90, Tryz.ntmps90
        go_wp2_with (go_at_call 97; refine (alive_any p v w HP.out).mono ?_; rintro e _ ⟨rfl, rfl⟩; rw [H0.out])
        go_ret
        exact ⟨rfl, rfl⟩
  · have e : chkE v n = v.dead := by unfold chkE; rw [if_pos h0]
    rw [e]
    clear e
    obtain ⟨d, hd⟩ : ∃ d, v.dead = d := ⟨_, rfl⟩
    have HD : Hid (v.dead = d) := hd
    rw [hd] at h0 ⊢
    have h1 : (d != 0) = true := by simpa using h0
    clear hd
    go_enter Tryz.func90, Tryz.ntmps90
    go_wp2_with (go_at_call 97; refine (alive_any p v w HP.out).mono ?_; rintro e _ ⟨rfl, rfl⟩; rw [HD.out])
    go_ret
    exact ⟨rfl, rfl⟩
theorem gcheck_nil (n : Int) (w : World) : Calls Tryz.prog 90 #[.pointer none, .int .i64 n] w fun e w' => e = .returned (.int .i64 1) ∧ w = w' := by
  go_enter Tryz.func90, Tryz.ntmps90
  go_wp2_with (go_at_call 97; refine (alive_nil w).mono ?_; rintro e _ ⟨rfl, rfl⟩)
  go_ret
  exact ⟨rfl, rfl⟩
theorem die_any (p : Nat) (v : PgV) (er : Int) (w : World) (h : PgAt w p v) : Calls Tryz.prog 92 #[.pointer (some ⟨p, 0, none⟩), .int .i64 er] w fun e w' => e = .returned (.int .i64 er) ∧ PgAt w' p { v with dead := er } ∧ Kept (fun b => b = p) w w' := by
  have c : w.cell? ⟨p, 42, none⟩ = some (.int .i64 v.dead) := h.cell 9 _ rfl
  have f := h.blk.frozen 42
  have HP : Hid (PgAt w p v) := h
  clear h
  go_enter Tryz.func92, Tryz.ntmps92
  go_wp2
  go_ret
  exact ⟨rfl, HP.out.put 9 (.int .i64 er) rfl rfl rfl, (Kept.refl (fun b => b = p) w).setCell (p := ⟨p, 42, none⟩) rfl _⟩
end Go.Proofs.YtnagndnpamcbbaaGreat

namespace Go.Proofs.YtnagndnpamcbbaaGreat
open Go.RowKit
set_option linter.unusedVariables false
set_option linter.unusedSimpArgs false

/-- A slice at ao of n numbers, which are zs. -/
structure SeenZ (w : World) (ao : Option Addr) (n : Nat) (zs : List Int) : Prop where
  len : zs.length = n
  cells : 0 < n → ∃ b o, ao = some ⟨b, o, none⟩ ∧ b < w.heap.size ∧ ∀ i, i < n → w.cell? ⟨b, o + i, none⟩ = some (.int .i64 (zs.getD i 0))
theorem SeenZ.later {w w' : World} {ao : Option Addr} {n : Nat} {zs : List Int} (h : SeenZ w ao n zs) {B : Nat} (hb : Below B w w') (hB : w.heap.size ≤ B) : SeenZ w' ao n zs :=
  ⟨h.len, fun h0 => by
    obtain ⟨b, o, e, hlt, hc⟩ := h.cells h0
    exact ⟨b, o, e, Nat.lt_of_lt_of_le hlt hb.size, fun i hi => (hb.cell (p := ⟨b, o + i, none⟩) (Nat.lt_of_lt_of_le hlt hB)).trans (hc i hi)⟩⟩
theorem own_z {w : World} {base : Nat} {v : Value} {zs : List Int} (h : w.ownsRow base 3 1 v zs.length (zs.map (Value.int .i64))) : ∃ ao c, v = .slice ao zs.length c ∧ SeenZ w ao zs.length zs := by
  rcases h.2 with ⟨rfl, h0⟩ | ⟨g, cap, cur, rfl, hg, hh, _⟩
  · exact ⟨none, 0, by rw [h0], rfl, fun h => by omega⟩
  · refine ⟨_, cap, rfl, rfl, fun _ => ⟨g, 0, rfl, lt_of_block hh, fun i hi => ?_⟩⟩
    rw [Nat.zero_add, h.cellAt i (by omega)]
    simp [List.getD, hi]
/-- Where a number stands first; -1: nowhere. -/
def idxI : List Int → Int → Int
  | [], _ => -1
  | z :: zs, x => if z = x then 0 else if idxI zs x < 0 then -1 else idxI zs x + 1
theorem idxI_none (zs : List Int) (x : Int) (h : ∀ t, t < zs.length → zs.getD t 0 ≠ x) : idxI zs x = -1 := by
  induction zs with
  | nil => rfl
  | cons z zs ih =>
    have h0 : z ≠ x := h 0 (by simp)
    have h1 := ih (fun t ht => h (t + 1) (by simpa using ht))
    simp only [idxI]
    rw [if_neg h0, h1, if_pos (by decide)]
theorem idxI_at (zs : List Int) (x : Int) (k : Nat) (hk : k < zs.length) (h : ∀ t, t < k → zs.getD t 0 ≠ x) (he : zs.getD k 0 = x) : idxI zs x = k := by
  induction zs generalizing k with
  | nil => simp at hk
  | cons z zs ih =>
    cases k with
    | zero =>
      have he' : z = x := he
      simp only [idxI]
      rw [if_pos he']
      rfl
    | succ k =>
      have h0 : z ≠ x := h 0 (by omega)
      have h1 := ih k (by simpa using hk) (fun t ht => h (t + 1) (by omega)) he
      simp only [idxI]
      rw [if_neg h0, h1, if_neg (by omega)]
      omega
set_option maxRecDepth 20000 in
set_option maxHeartbeats 1000000 in
theorem sidx_any (ao : Option Addr) (n c : Nat) (zs : List Int) (x : Int) (w : World) (hs : SeenZ w ao n zs) (hn : n ≤ 140737488355328) :
    Calls Tryz.prog 118 #[.slice ao n c, .int .i64 x] w fun e w' => e = .returned (.int .i64 (idxI zs x)) ∧ w = w' := by
  have HS : Hid (SeenZ w ao n zs) := hs
  clear hs
  go_enter Tryz.func118, Tryz.ntmps118
  go_wp2
  go_loopw [8] (fun i wr => ∃ k : Nat, k ≤ n ∧ i = .int .i64 k ∧ (∀ t, t < k → zs.getD t 0 ≠ x) ∧ w = wr) (fun i _ => n - (intOf i).toNat)
  case atStart => exact ⟨0, Nat.zero_le _, rfl, fun t ht => by omega, rfl⟩
  case round =>
    obtain ⟨k, hk, rfl, hno, rfl⟩ := hrel
    by_cases hlt : k < n
    · obtain ⟨b, o, rfl, hb, hc⟩ := HS.out.cells (by omega)
      have c1 := hc k hlt
      obtain ⟨y, hy⟩ : ∃ y, zs.getD k 0 = y := ⟨_, rfl⟩
      rw [hy] at c1
      have HY : Hid (zs.getD k 0 = y ∧ ∀ t, t < k → zs.getD t 0 ≠ x) := ⟨hy, hno⟩
      have i1 : (0 : Int) ≤ (k : Int) := by omega
      have i2 : (k : Int) < (n : Int) := by omega
      clear hno hy hc
      by_cases hxy : x = y
      · have h1 : (x == y) = true := by simpa using hxy
        have e : idxI zs x = k := idxI_at zs x k (by have := HS.out.len; omega) HY.out.2 (by rw [HY.out.1, hxy])
        have HE : Hid (idxI zs x = k) := e
        clear e hxy
        go_wp2
        go_ret
        exact ⟨by rw [HE.out]; rfl, rfl⟩
      · have h1 : (x == y) = false := by simpa using hxy
        have HN : Hid (x ≠ y) := hxy
        clear hxy
        go_wp2
        refine ⟨⟨k + 1, by omega, by go_num, fun t ht => ?_, by first | rfl | trivial⟩, by simp [intOf]; omega⟩
        by_cases e : t = k
        · subst e; rw [HY.out.1]; exact fun e => HN.out e.symm
        · exact HY.out.2 t (by omega)
    · obtain rfl : k = n := by omega
      have HE : Hid (idxI zs x = -1) := idxI_none zs x (fun t ht => hno t (by rw [HS.out.len] at ht; exact ht))
      clear hno
      go_wp2
      go_ret
      exact ⟨by rw [HE.out]; rfl, rfl⟩
theorem info_int : (Tryz.prog.info? 3).map (fun i => (i.zero, i.size, i.bytes)) = some (some (.int .i64 0), 1, 8) := by kernel_rfl
theorem bs_none (w : World) : (Instr.buildSlice 52 0 #[]).run Tryz.prog w = .ok (.slice (some ⟨w.heap.size, 0, none⟩) 0 0) (w.alloc (.cells #[] 3)) := by kernel_rfl
set_option maxRecDepth 20000 in
set_option maxHeartbeats 1000000 in
theorem sclone_any (ao : Option Addr) (n c : Nat) (zs : List Int) (w : World) (hs : SeenZ w ao n zs) (hn : n ≤ 1048576) (h0 : ao = none → c = 0) :
    Calls Tryz.prog 68 #[.slice ao n c] w fun e w' => ∃ v, e = .returned v ∧ w'.ownsRow w.heap.size 3 1 v n (zs.map (Value.int .i64)) ∧ Below w.heap.size w w' := by
  obtain ⟨i0, hi, hz0, hz1, hz2⟩ := info_parts info_int
  cases ao with
  | none =>
    have hn0 : n = 0 := by
      rcases Nat.eq_zero_or_pos n with h | h
      · exact h
      · obtain ⟨b, o, e, _⟩ := hs.cells h; cases e
    have hz : zs = [] := List.eq_nil_of_length_eq_zero (by rw [hs.len, hn0])
    rw [h0 rfl, hn0, hz]
    clear hs h0 hn0 hz hn
    have hq : ∀ wx, (binOp .eql 52 (.slice none 0 0) (.slice none 0 0)).run Tryz.prog wx = .ok (.bool true) wx := fun wx => Lib.run_eql_slice_nil wx 52 3 none 0 0 0 0 Tryz.underlying52
    go_enter Tryz.func68, Tryz.ntmps68
    go_wp2
    go_ret
    exact ⟨_, rfl, World.ownsRow_nil _ _ _ _, Below.refl _ _⟩
  | some ad =>
    have HS : Hid (SeenZ w (some ad) n zs) := hs
    clear hs h0
    have hq : ∀ wx, (binOp .eql 52 (.slice (some ad) n c) (.slice none 0 0)).run Tryz.prog wx = .ok (.bool false) wx := fun wx => Lib.run_eql_slice_nil wx 52 3 (some ad) n c 0 0 Tryz.underlying52
    go_enter Tryz.func68, Tryz.ntmps68
    go_wp2_with (at_builtin; refine wpList_append_own _ rfl _ _ 52 rfl w.heap.size 3 i0 (.int .i64 0) 1 8 Tryz.underlying52 hi hz0 hz1 hz2 rfl (by decide) _ 0 [] rfl (World.ownsRow_made w #[] 0 (Nat.le_refl _) (Nat.zero_le _) rfl) ad n c (zs.map (Value.int .i64)) rfl ?c1 ?c2 ?c3 ?c4 ?c5 ?c6 ?_)
    case c1 => rw [List.length_map, HS.out.len, Nat.mul_one]
    case c2 =>
      intro j u hj
      have hjl : j < zs.length := by have := (List.getElem?_eq_some_iff.1 hj).1; simpa using this
      have hl := HS.out.len
      obtain ⟨b, o, e, hlt, hc⟩ := HS.out.cells (by omega)
      cases e
      rw [show (⟨b, o, none⟩ : Addr).add j = ⟨b, o + j, none⟩ by simp [Addr.add]]
      have h1 := ((Below.refl w.heap.size w).alloc (Nat.le_refl _) (.cells #[] 3)).cell (p := ⟨b, o + j, none⟩) hlt
      rw [h1, hc j (by omega), ← hj]
      simp [List.getD, hjl]
    case c3 => intro u hu; obtain ⟨z, _, rfl⟩ := List.mem_map.1 hu; rfl
    case c4 => unfold maxLen; omega
    case c5 => omega
    case c6 => simp
    intro v' w1 ho hg _
    have HO : Hid (w1.ownsRow w.heap.size 3 1 v' n (zs.map (Value.int .i64)) ∧ Below w.heap.size w w1) := ⟨by simpa using ho, ((Below.refl _ _).alloc (Nat.le_refl _) _).grown hg (by simp) (fun j hj => by have : some w.heap.size = some j := hj; cases this; exact Nat.le_refl _)⟩
    clear ho hg
    go_wp2
    go_ret
    exact ⟨_, rfl, HO.out.1, HO.out.2⟩
/-- Held: the numbers of the held pages, in new memory. -/
theorem gheld_any (p : Nat) (v : PgV) (ao : Option Addr) (c : Nat) (zs : List Int) (w : World) (h : PgAt w p v) (ho : v.order = .slice ao zs.length c) (hs : SeenZ w ao zs.length zs) (hn : zs.length ≤ 1048576) (h0 : ao = none → c = 0) :
    Calls Tryz.prog 22 #[.pointer (some ⟨p, 0, none⟩)] w fun e w' => ∃ u, e = .returned u ∧ w'.ownsRow w.heap.size 3 1 u zs.length (zs.map (Value.int .i64)) ∧ Below w.heap.size w w' := by
  have cO : w.cell? ⟨p, 38, none⟩ = some (.slice ao zs.length c) := h.cell 5 _ (by rw [← ho]; rfl)
  have HS : Hid (SeenZ w ao zs.length zs ∧ (ao = none → c = 0)) := ⟨hs, h0⟩
  clear h ho hs h0
  go_enter Tryz.func22, Tryz.ntmps22
  go_wp2_with (go_at_call 68; refine (sclone_any ao zs.length c zs w HS.out.1 hn HS.out.2).mono ?_; rintro e w1 ⟨u, rfl, o1, l1⟩)
  go_ret
  exact ⟨_, rfl, o1, l1⟩
theorem gheld_nil (w : World) : Calls Tryz.prog 22 #[.pointer none] w fun e w' => e = .returned (.slice none 0 0) ∧ w = w' := by
  go_enter Tryz.func22, Tryz.ntmps22
  go_wp2
  go_ret
  exact ⟨rfl, rfl⟩
end Go.Proofs.YtnagndnpamcbbaaGreat

namespace Go.Proofs.YtnagndnpamcbbaaGreat
open Go.RowKit
set_option linter.unusedVariables false
set_option linter.unusedSimpArgs false

theorem wp_app {o : Oper} {a : Act} {K : Act → World → Prop} {Q : Exit → Act → World → Prop} {w : World} (s x : Operand) (t ty : TypeId) (ho : o.op = .call { callee := .builtin .append, args := #[s, x], argTypes := #[t, t] }) (hty : o.type = ty)
    (va vb : Value) (hs : a.eval s = va) (hx : a.eval x = vb) (v' : Value) (w' : World) (hr : (Builtin.append_ #[t, t] ty #[va, vb]).run Tryz.prog w = .ok v' w') (h : K (a.put o.dst v') w') : o.wp Tryz.prog a w K Q := by
  subst hty
  unfold Oper.wp execOp
  simp only [ho, resolve, invoke, builtin, Sem.run_bind, Sem.run_pure, Result.andThen_ok, List.map_toArray, List.map_cons, List.map_nil, hs, hx, hr]
  exact h
theorem last_assignZ {o : Oper} {a : Act} {w : World} {K : Act → World → Prop} {Q : Exit → Act → World → Prop} (x : Operand) (ho : o.op = .assign x) (d : Option Tmp) (hdst : o.dst = d) (v : Value) (hx : a.eval x = v) (h : K (a.put d v) w) : o.wp Tryz.prog a w K Q := by
  subst hdst
  unfold Oper.wp execOp
  simp only [ho, hx, Sem.run_pure]
  exact h
theorem sizeInt : (Tryz.prog.info? 3).map (·.size) = some 1 := by kernel_rfl
def subZ (ao : Option Addr) (lo c : Nat) : Option Addr := if c = lo then ao else ao.map (·.add lo)
set_option maxRecDepth 20000 in
theorem zl_h (ao : Option Addr) (n c h : Nat) (hh : h ≤ c) (w : World) : (Instr.sliceAt 52 (.slice ao n c) none (some (.int .i64 h)) none).run Tryz.prog w = .ok (.slice (subZ ao 0 c) h c) w := by
  rw [run_sliceAt_slice w 52 _ _ _ _ Tryz.underlying52, run_slice_h w 52 ao n c Tryz.underlying52 .i64 h (by omega) (by omega)]
  rw [show Tryz.prog.elem 52 = 3 by kernel_rfl]
  have hs : (sizeOf 3).run Tryz.prog w = .ok 1 w := by
    have h := sizeInt
    cases hq : Tryz.prog.info? 3 with
    | none => simp [hq] at h
    | some i => simp [hq] at h; simp [sizeOf, typeInfo, hq, h]
  simp [hs, Result.andThen, sliced, subZ]
set_option maxRecDepth 20000 in
theorem zl_l (ao : Option Addr) (n c l : Nat) (hl : l ≤ n) (w : World) : (Instr.sliceAt 52 (.slice ao n c) (some (.int .i64 l)) none none).run Tryz.prog w = .ok (.slice (subZ ao l c) (n - l) (c - l)) w := by
  rw [run_sliceAt_slice w 52 _ _ _ _ Tryz.underlying52, run_slice_l w 52 ao n c Tryz.underlying52 .i64 l (by omega) (by omega)]
  rw [show Tryz.prog.elem 52 = 3 by kernel_rfl]
  have hs : (sizeOf 3).run Tryz.prog w = .ok 1 w := by
    have h := sizeInt
    cases hq : Tryz.prog.info? 3 with
    | none => simp [hq] at h
    | some i => simp [hq] at h; simp [sizeOf, typeInfo, hq, h]
  simp [hs, Result.andThen, sliced, subZ]
set_option maxRecDepth 20000 in
set_option maxRecDepth 20000 in
theorem zl_lh (ao : Option Addr) (n c l h : Nat) (hl : l ≤ h) (hh : h ≤ c) (w : World) : (Instr.sliceAt 52 (.slice ao n c) (some (.int .i64 l)) (some (.int .i64 h)) none).run Tryz.prog w = .ok (.slice (subZ ao l c) (h - l) (c - l)) w := by
  rw [run_sliceAt_slice w 52 _ _ _ _ Tryz.underlying52, run_slice_lh w 52 ao n c Tryz.underlying52 .i64 .i64 l h (by omega) (by omega) (by omega)]
  rw [show Tryz.prog.elem 52 = 3 by kernel_rfl]
  have hs : (sizeOf 3).run Tryz.prog w = .ok 1 w := by
    have h := sizeInt
    cases hq : Tryz.prog.info? 3 with
    | none => simp [hq] at h
    | some i => simp [hq] at h; simp [sizeOf, typeInfo, hq, h]
  simp [hs, Result.andThen, sliced, subZ]
theorem wpList_clear_run {ops : Array Oper} {rest : List Oper} {o : Oper} {a : Act} {Q : Exit → Act → World → Prop} {w : World} (hgd : o.guard = none) (s : Operand) (t ty : TypeId) (ho : o.op = .call { callee := .builtin .clear, args := #[s], argTypes := #[t] }) (hty : o.type = ty)
    (va : Value) (hs : a.eval s = va) (v' : Value) (w' : World) (hr : (Builtin.clear_ #[t] ty #[va]).run Tryz.prog w = .ok v' w') (h : wpList Tryz.prog ops Q rest (a.put o.dst v') w') : wpList Tryz.prog ops Q (o :: rest) a w := by
  refine wpList_plain hgd fun K hK => ?_
  subst hty
  unfold Oper.wp execOp
  simp only [ho, resolve, invoke, builtin, Sem.run_bind, Sem.run_pure, Result.andThen_ok, List.map_toArray, List.map_cons, List.map_nil, hs, hr]
  exact hK _ _ h
/-- The front of a row of one's own. -/
theorem own_front {w : World} {base g n cap k : Nat} {xs : List Value} (h : w.ownsRow base 3 1 (.slice (some ⟨g, 0, none⟩) n cap) n xs) (hk : k ≤ n) : w.ownsRow base 3 1 (.slice (some ⟨g, 0, none⟩) k cap) k (xs.take k) := by
  have hl := h.1
  rcases h.2 with ⟨h1, _⟩ | ⟨g', cap', cur, e, hb, hh, hn, hm, hs, ht⟩
  · cases h1
  · cases e
    refine ⟨by simp; omega, .inr ⟨g, cap, cur, rfl, hb, hh, by omega, hm, hs, ?_⟩⟩
    rw [← ht, List.take_take]
    congr 1
    omega
theorem erase_eq (zs : List Int) (k : Nat) : (zs.map (Value.int .i64)).take k ++ ((zs.drop (k + 1)).map (Value.int .i64)) = (zs.eraseIdx k).map (Value.int .i64) := by
  rw [List.eraseIdx_eq_take_drop_succ, List.map_append, List.map_take]
set_option maxRecDepth 20000 in
set_option maxHeartbeats 2000000 in
theorem sdel_any (base g cap k : Nat) (zs : List Int) (w : World) (ho : w.ownsRow base 3 1 (.slice (some ⟨g, 0, none⟩) zs.length cap) zs.length (zs.map (Value.int .i64))) (hk : k < zs.length) (hn : zs.length ≤ 1048576) :
    Calls Tryz.prog 119 #[.slice (some ⟨g, 0, none⟩) zs.length cap, .int .i64 k, .int .i64 ((k : Int) + 1)] w fun e w' => e = .returned (.slice (some ⟨g, 0, none⟩) (zs.length - 1) cap) ∧ w'.ownsRow base 3 1 (.slice (some ⟨g, 0, none⟩) (zs.length - 1) cap) (zs.length - 1) ((zs.eraseIdx k).map (Value.int .i64)) ∧ Kept (fun b => b = g) w w' := by
  obtain ⟨i0, hi, hz0, hz1, hz2⟩ := info_parts info_int
  obtain ⟨n, hnn⟩ : ∃ n, zs.length = n := ⟨_, rfl⟩
  have hcap : n ≤ cap := by
    rcases ho.2 with ⟨h1, _⟩ | ⟨g', cap', cur, e, hb, hh, hc, _⟩
    · cases h1
    · cases e; omega
  have HZ : Hid (zs.length = n) := hnn
  rw [hnn] at ho hk hn ⊢
  have HO : Hid (w.ownsRow base 3 1 (.slice (some ⟨g, 0, none⟩) n cap) n (zs.map (Value.int .i64))) := ho
  clear ho hnn
  have i1 : (0 : Int) ≤ (k : Int) := by omega
  have i2 : (k : Int) ≤ (k : Int) + 1 := by omega
  have i3 : (k : Int) + 1 ≤ (n : Int) := by omega
  have i4 : (n : Int) ≤ (cap : Int) := by omega
  have i5 : (k : Int) ≤ (cap : Int) := by omega
  have i6 : ((k : Int) == (k : Int) + 1) = false := by simp; omega
  go_enter Tryz.func119, Tryz.ntmps119
  go_wp2
  obtain ⟨ad, had, hrun5⟩ : ∃ ad : Addr, (k + 1 < n → ad = ⟨g, k + 1, none⟩) ∧ ∀ W, (Instr.sliceAt 52 (.slice (some ⟨g, 0, none⟩) n cap) (some (.int .i64 ((k : Int) + 1))) none none).run Tryz.prog W = .ok (.slice (some ad) (n - (k + 1)) (cap - (k + 1))) W := by
    have h := zl_l (some ⟨g, 0, none⟩) n cap (k + 1) (by omega)
    rw [show ((k + 1 : Nat) : Int) = (k : Int) + 1 by omega] at h
    by_cases hc : cap = k + 1
    · refine ⟨⟨g, 0, none⟩, fun h => by omega, fun W => ?_⟩
      rw [h W, subZ, if_pos hc]
    · refine ⟨⟨g, k + 1, none⟩, fun _ => rfl, fun W => ?_⟩
      rw [h W, subZ, if_neg hc]
      simp [Addr.add]
  have hrun2 : ∀ W, (Instr.sliceAt 52 (.slice (some ⟨g, 0, none⟩) n cap) none (some (.int .i64 (k : Int))) none).run Tryz.prog W = .ok (.slice (some ⟨g, 0, none⟩) k cap) W := fun W => by
    rw [zl_h (some ⟨g, 0, none⟩) n cap k (by omega) W, subZ]
    split <;> simp [Addr.add]
  refine wp_region_noPanic (wp_region_any (by kernel_rfl) ?_)
  refine take_op 0 (some 20) (.slice (some ⟨g, 0, none⟩) n cap) rfl rfl (by kernel_rfl) (by kernel_rfl) (by kernel_rfl) (fun _ _ _ h => h) (by rfl) (fun _ => by rfl) ?_
  refine take_op 1 (some 21) (.int .i64 (k : Int)) rfl rfl (by kernel_rfl) (by kernel_rfl) (by kernel_rfl) (fun _ _ _ h => h) (by rfl) (fun _ => by rfl) ?_
  refine take_op 3 (some 23) (.slice (some ⟨g, 0, none⟩) n cap) rfl rfl (by kernel_rfl) (by kernel_rfl) (by kernel_rfl) (fun _ _ _ h => h) (by rfl) (fun _ => by rfl) ?_
  refine take_op 4 (some 24) (.int .i64 ((k : Int) + 1)) rfl rfl (by kernel_rfl) (by kernel_rfl) (by kernel_rfl) (fun _ _ _ h => h) (by rfl) (fun _ => by rfl) ?_
  refine take_op 2 (some 22) (.slice (some ⟨g, 0, none⟩) k cap) rfl rfl (by kernel_rfl) (by kernel_rfl) (by kernel_rfl) (fun _ _ _ h => h) (by rfl) (fun _ => by go_simp) ?_
  refine take_op 5 (some 25) (.slice (some ad) (n - (k + 1)) (cap - (k + 1))) rfl rfl (by kernel_rfl) (by kernel_rfl) (by kernel_rfl) (fun _ _ _ h => h) (by rfl) (fun _ => by go_simp) ?_
  simp only [Act.put, List.setIfInBounds_toArray, List.set_cons_zero, List.set_cons_succ]
  have hb : Below w.heap.size w w.drew := below_dn (Below.refl _ _) 1
  obtain ⟨wx, hwx⟩ : ∃ wx, w.drew = wx := ⟨_, rfl⟩
  rw [hwx] at hb
  rw [show ({ heap := w.heap, tape := w.tape, drawn := w.drawn + 1, os := w.os, output := w.output } : World) = wx from hwx]
  clear hwx
  have ox := ownsRow_below HO.out hb
  obtain ⟨w1, hrun, o1, g1⟩ := run_append_fits (P := Tryz.prog) wx base 52 52 3 i0 1 Tryz.underlying52 hi hz1 g k cap _ (own_front ox (by omega)) ad (n - (k + 1)) (cap - (k + 1)) ((zs.drop (k + 1)).map (Value.int .i64)) (by rw [List.length_map, List.length_drop, HZ.out, Nat.mul_one]) (fun j u hj => by
    have hjl : j < n - (k + 1) := by have := (List.getElem?_eq_some_iff.1 hj).1; rw [List.length_map, List.length_drop, HZ.out] at this; exact this
    rw [had (by omega), Addr.add_mid, ox.cellAt (k + 1 + j) (by omega), ← hj]
    simp [List.getElem?_drop]) (fun u hu => by obtain ⟨z, _, rfl⟩ := List.mem_map.1 hu; rfl) (by omega)
  obtain ⟨m, hm⟩ : ∃ m, n - 1 = m := ⟨_, rfl⟩
  have HM : Hid (n - 1 = m ∧ m + 1 = n) := ⟨hm, by omega⟩
  rw [erase_eq, show k + (n - (k + 1)) = m by omega] at o1
  rw [show k + (n - (k + 1)) = m by omega] at hrun
  have hmn : m < n := by omega
  clear hm
  refine wpAny_ready (rs := [6]) (by kernel_rfl) (by simp) (AllReady.cons rfl (fun K hK => ?_) AllReady.nil)
  rw [if_pos (by rfl)]
  refine wp_app (.tmp 22) (.tmp 25) 52 52 rfl rfl _ _ rfl rfl (.slice (some ⟨g, 0, none⟩) m cap) w1 hrun ?_
  refine hK _ _ ?_
  clear hK K hrun
  simp only [Act.put, List.setIfInBounds_toArray, List.set_cons_zero, List.set_cons_succ]
  refine wpAny_ready (rs := [7]) (by kernel_rfl) (by simp) (AllReady.cons rfl (fun K hK => ?_) AllReady.nil)
  rw [if_pos (by rfl)]
  refine last_assignZ (.tmp 26) rfl (some 0) rfl (.slice (some ⟨g, 0, none⟩) m cap) rfl ?_
  refine hK _ _ ?_
  clear hK K
  simp only [Act.put, List.setIfInBounds_toArray, List.set_cons_zero, List.set_cons_succ]
  refine wpAny_done (by kernel_rfl) (NoPanic.normal ?_) _
  have W1 : Hid (w1.ownsRow base 3 1 (.slice (some ⟨g, 0, none⟩) m cap) m ((zs.eraseIdx k).map (Value.int .i64)) ∧ Kept (fun b => b = g) w w1) := ⟨o1, (Kept.new _ hb).trans ⟨g1.os, g1.tape, g1.output, g1.size, fun b hb' hs => g1.block b hb' (fun e => hs (Option.some.inj e))⟩⟩
  clear o1 g1 ox hb
  have c1 : ∀ j, j < 1 → (w1.cell? ⟨g, m + j, none⟩).isSome = true ∧ w1.frozen? ⟨g, m + j, none⟩ = false := fun j hj => by
    rcases W1.out.1.2 with ⟨h1, _⟩ | ⟨g', cap', cur, e, hb, hh, hc, hmx, hs, ht⟩
    · cases h1
    · cases e
      obtain rfl : j = 0 := by omega
      have hlt : m + 0 < cur.size := by omega
      refine ⟨?_, ?_⟩
      · rw [cell_of_row _ _ (m + 0) _ _ _ hh]
        simp
        omega
      · simp [World.frozen?, hh]
  have hrun6 : ∀ W, (Instr.sliceAt 52 (.slice (some ⟨g, 0, none⟩) m cap) (some (.int .i64 (m : Int))) (some (.int .i64 (n : Int))) none).run Tryz.prog W = .ok (.slice (some ⟨g, m, none⟩) 1 (cap - m)) W := fun W => by
    rw [zl_lh (some ⟨g, 0, none⟩) m cap m n (by omega) (by omega) W, subZ, if_neg (by omega)]
    simp [Addr.add]
    have := HM.out.2
    omega
  have hclr := Lib.run_clear_slice (P := Tryz.prog) w1 52 3 0 (.int .i64 0) Tryz.underlying52 (fun w => by simp [zeroValue, typeInfo, hi, hz0]) rfl rfl g m 1 (cap - m) (by omega) (fun j hj => (c1 j hj).1) (fun j hj => (c1 j hj).2)
  have W2 : Hid ((w1.setCells g m (List.replicate 1 (.int .i64 0))).ownsRow base 3 1 (.slice (some ⟨g, 0, none⟩) m cap) m ((zs.eraseIdx k).map (Value.int .i64)) ∧ Kept (fun b => b = g) w (w1.setCells g m (List.replicate 1 (.int .i64 0)))) := by
    refine ⟨⟨W1.out.1.1, ?_⟩, W1.out.2.trans ((Kept.refl _ _).setCells (S := fun b => b = g) rfl _ _)⟩
    rcases W1.out.1.2 with ⟨h1, _⟩ | ⟨g', cap', cur, e, hb, hh, hc, hmx, hs, ht⟩
    · cases h1
    · cases e
      have hlt : m < cur.toList.length := by rw [Array.length_toList]; omega
      have hB : Blk w1 g 3 (cur.toList.take m ++ ([cur.toList[m]] ++ cur.toList.drop (m + 1))) := by
        unfold Blk
        rw [hh]
        have : cur.toList.take m ++ ([cur.toList[m]] ++ cur.toList.drop (m + 1)) = cur.toList := by rw [List.singleton_append, ← List.drop_eq_getElem_cons hlt, List.take_append_drop]
        rw [this]
      have hS := Blk.setCells [Value.int .i64 0] [cur.toList[m]] rfl hB
      rw [show (cur.toList.take m).length = m by rw [List.length_take]; omega] at hS
      refine .inr ⟨g, cap, _, rfl, hb, hS, hc, hmx, ?_, ?_⟩
      · simp only [List.size_toArray, List.length_append, List.length_take, List.length_drop, List.length_singleton]
        rw [Array.length_toList] at hlt ⊢
        omega
      · rw [List.take_append_of_le_length (by rw [List.length_take]; omega), ← ht, List.take_take]
        congr 1
        omega
  go_wp2_with (at_builtin; refine wpList_clear_run rfl _ 52 0 rfl rfl _ rfl _ _ hclr ?_)
  go_ret
  exact ⟨by rw [HM.out.1]; rfl, by rw [HM.out.1]; exact W2.out.1, W2.out.2⟩
end Go.Proofs.YtnagndnpamcbbaaGreat

namespace Go.Proofs.YtnagndnpamcbbaaGreat
open Go.RowKit
set_option linter.unusedVariables false
set_option linter.unusedSimpArgs false

theorem own_neP {w : World} {base n : Nat} {v : Value} {xs : List Value} (h : w.ownsRow base 3 1 v n xs) {p : Nat} {vs : List Value} (hb : Blk w p 142 vs) : ¬ v.ownBlock = some p := by
  rcases h.2 with ⟨rfl, _⟩ | ⟨g, cap, cur, rfl, hg, hh, r⟩
  · intro e; cases e
  · intro e
    simp [Value.ownBlock] at e
    subst e
    unfold Blk at hb
    rw [hb] at hh
    simp at hh
theorem own_keptP {S : Nat → Prop} {w w' : World} {base : Nat} {e : TypeId} {size : Nat} {v : Value} {n : Nat} {xs : List Value} (h : w.ownsRow base e size v n xs) (hk : Kept S w w') (hS : ∀ k, v.ownBlock = some k → ¬ S k) : w'.ownsRow base e size v n xs := by
  refine ⟨h.1, ?_⟩
  rcases h.2 with h0 | ⟨g, cap, cur, rfl, hg, hh, r⟩
  · exact .inl h0
  · exact .inr ⟨g, cap, cur, rfl, hg, by rw [hk.block g (lt_of_block hh) (hS g rfl)]; exact hh, r⟩
theorem one_newI (w : World) (x : Value) (t : TypeId) : ∀ j u, [x][j]? = some u → (w.alloc (.cells #[x] t)).cell? ((⟨w.heap.size, 0, none⟩ : Addr).add j) = some u := by
  intro j u hj
  have h : (w.alloc (.cells #[x] t)).heap[w.heap.size]? = some (.cells #[x] t (0, 0)) := heap_alloc_new w _
  rw [Addr.add_mid, Nat.zero_add, cell_of_row _ _ j _ t (0, 0) h]
  simpa using hj
/-- What use leaves: the order; its row lies where it lay, or in new memory. -/
def Used (base p : Nat) (v : PgV) (zs : List Int) (w w' : World) : Prop := ∃ o', PgAt w' p { v with order := o' } ∧ w'.ownsRow base 3 1 o' zs.length (zs.map (Value.int .i64)) ∧ Kept (fun b => b = p ∨ v.order.ownBlock = some b) w w' ∧ (∀ g, o'.ownBlock = some g → v.order.ownBlock = some g ∨ w.heap.size ≤ g)
theorem Used.of {base p : Nat} {v : PgV} {zs : List Int} {x : Int} {w w1 : World} {o o' : Value} {n : Nat} (ho : o = v.order) (hn : zs.length = n) (P : PgAt w p v) (oW : w.ownsRow base 3 1 o n (zs.map (Value.int .i64))) (t : TypeId)
    (h1 : w1.ownsRow base 3 1 o' (n + 1) (zs.map (Value.int .i64) ++ [.int .i64 x])) (hg : (w.alloc (.cells #[.int .i64 x] t)).grownBy w1 o.ownBlock) (hat : o'.ownBlock = o.ownBlock ∨ o'.ownBlock = some (w.heap.size + 1)) :
    PgAt w1 p v ∧ Used base p v (zs ++ [x]) w (w1.setCell ⟨p, 38, none⟩ o') := by
  have hsz : (w.alloc (.cells #[.int .i64 x] t)).heap.size = w.heap.size + 1 := by simp
  have hSg : ∀ b, b < w.heap.size → ¬ o.ownBlock = some b → w1.heap[b]? = w.heap[b]? := fun b hb' hs => (hg.block b (by omega) (fun e => hs e.symm)).trans (Below.heap_alloc w _ b hb')
  have K1 : Kept (fun b => b = p ∨ v.order.ownBlock = some b) w w1 := ⟨hg.os, hg.tape, hg.output, Nat.le_trans (by omega) hg.size, fun b hb' hs => hSg b hb' (fun e => hs (.inr (by rw [← ho]; exact e)))⟩
  have hpn : ¬ o.ownBlock = some p := own_neP oW P.blk
  have P1 : PgAt w1 p v := by
    have hb1 : w1.heap[p]? = w.heap[p]? := hSg p P.blk.lt hpn
    exact ⟨by have := P.blk; unfold Blk at this ⊢; rw [hb1]; exact this, P.klen, P.kb⟩
  refine ⟨P1, ?_⟩
  have K := (Kept.refl (fun b => b = p) w1).setCell (p := ⟨p, 38, none⟩) rfl o'
  refine ⟨o', P1.put 5 o' rfl rfl rfl, ?_, K1.setCell (.inl rfl) _, fun g hg2 => ?_⟩
  · have h2 : w1.ownsRow base 3 1 o' (zs ++ [x]).length ((zs ++ [x]).map (Value.int .i64)) := by rw [List.length_append, hn, List.map_append]; exact h1
    exact own_keptP h2 K (fun k hk e => by subst e; exact own_neP h2 P1.blk hk)
  · rcases hat with e | e
    · rw [e, ho] at hg2; exact .inl hg2
    · rw [e] at hg2; simp at hg2; exact .inr (by omega)
set_option maxRecDepth 20000 in
set_option maxHeartbeats 2000000 in
theorem use_new (base p : Nat) (v : PgV) (zs : List Int) (x : Int) (w : World) (h : PgAt w p v) (ho : w.ownsRow base 3 1 v.order zs.length (zs.map (Value.int .i64))) (hn : zs.length ≤ 1048575) (hb : base ≤ w.heap.size) (hx : idxI zs x = -1) :
    Calls Tryz.prog 93 #[.pointer (some ⟨p, 0, none⟩), .int .i64 x] w fun e w' => e = .returned (.tuple #[]) ∧ Used base p v (zs ++ [x]) w w' := by
  obtain ⟨i0, hi, hz0, hz1, hz2⟩ := info_parts info_int
  obtain ⟨ao, c, eo, so⟩ := own_z ho
  obtain ⟨n, hnn⟩ : ∃ n, zs.length = n := ⟨_, rfl⟩
  have HN : Hid (zs.length = n ∧ idxI zs x = -1) := ⟨hnn, hx⟩
  have HO : Hid (w.ownsRow base 3 1 v.order n (zs.map (Value.int .i64)) ∧ SeenZ w ao n zs ∧ v.order = .slice ao n c) := ⟨by rw [← hnn]; exact ho, by rw [← hnn]; exact so, by rw [← hnn]; exact eo⟩
  have cO : w.cell? ⟨p, 38, none⟩ = some (.slice ao n c) := h.cell 5 _ (by rw [← HO.out.2.2]; rfl)
  have HP : Hid (PgAt w p v) := h
  rw [hnn] at hn
  clear h ho eo so hx hnn
  have oW := HO.out.1
  rw [HO.out.2.2] at oW
  go_enter Tryz.func93, Tryz.ntmps93
  go_wp2_with (first | (go_at_call 118; refine (sidx_any ao n c zs x w HO.out.2.1 (by omega)).mono ?_; rintro e _ ⟨rfl, rfl⟩; rw [HN.out.2]) | (at_builtin; refine wpList_append_own_at _ rfl _ _ 52 rfl base 3 i0 (.int .i64 0) 1 8 Tryz.underlying52 hi hz0 hz1 hz2 rfl (by decide) _ _ _ rfl (oW.alloc _) ⟨w.heap.size, 0, none⟩ 1 1 [.int .i64 x] rfl rfl (one_newI _ _ _) (by intro u hu; simp at hu; subst hu; rfl) (by unfold maxLen; omega) (by omega) (by simp; omega) ?_))
  intro o' w1 h1 hg _ hat
  have U := Used.of HO.out.2.2.symm HN.out.1 HP.out oW 3 h1 hg hat
  obtain ⟨oa, on, oc, rfl⟩ : ∃ a n c, o' = .slice a n c := by rcases h1.2 with ⟨h, _⟩ | ⟨g, cap, cur, h, _⟩ <;> exact ⟨_, _, _, h⟩
  have cO1 : w1.cell? ⟨p, 38, none⟩ = some (.slice ao n c) := U.1.cell 5 _ (by rw [← HO.out.2.2]; rfl)
  have fO1 := U.1.blk.frozen 38
  have W1 : Hid (Used base p v (zs ++ [x]) w (w1.setCell ⟨p, 38, none⟩ (.slice oa on oc))) := U.2
  clear h1 hg U hat
  go_wp2
  go_end0
  exact ⟨rfl, W1.out⟩
theorem Used.after {base p : Nat} {v : PgV} {o1 : Value} {zs : List Int} {w w1 w2 : World} (h : Used base p { v with order := o1 } zs w1 w2) (hk : Kept (fun b => b = p ∨ v.order.ownBlock = some b) w w1) (ho : o1.ownBlock = v.order.ownBlock) : Used base p v zs w w2 := by
  obtain ⟨o', h1, h2, h3, h4⟩ := h
  refine ⟨o', h1, h2, hk.trans (h3.mono (fun b hb => by simpa [ho] using hb)), fun g hg => ?_⟩
  rcases h4 g hg with e | e
  · exact .inl (by rw [← ho]; exact e)
  · exact .inr (Nat.le_trans hk.size e)
set_option maxRecDepth 20000 in
set_option maxHeartbeats 2000000 in
theorem use_old (base p : Nat) (v : PgV) (zs : List Int) (x : Int) (k : Nat) (w : World) (h : PgAt w p v) (ho : w.ownsRow base 3 1 v.order zs.length (zs.map (Value.int .i64))) (hn : zs.length ≤ 1048575) (hb : base ≤ w.heap.size) (hx : idxI zs x = k) (hk : k < zs.length) :
    Calls Tryz.prog 93 #[.pointer (some ⟨p, 0, none⟩), .int .i64 x] w fun e w' => e = .returned (.tuple #[]) ∧ Used base p v (zs.eraseIdx k ++ [x]) w w' := by
  obtain ⟨i0, hi, hz0, hz1, hz2⟩ := info_parts info_int
  have so := own_z ho
  obtain ⟨g, c, eo⟩ : ∃ g c, v.order = .slice (some ⟨g, 0, none⟩) zs.length c := by
    rcases ho.2 with ⟨h1, h2⟩ | ⟨g, cap, cur, h1, _⟩
    · omega
    · exact ⟨g, cap, h1⟩
  obtain ⟨ao, c', eo', so⟩ := so
  rw [eo] at eo'
  cases eo'
  have D := sdel_any base g c k zs w (by rw [← eo]; exact ho) hk (by omega)
  obtain ⟨n, hnn⟩ : ∃ n, zs.length = n := ⟨_, rfl⟩
  rw [hnn] at D eo ho
  have HD : Hid (Calls Tryz.prog 119 #[.slice (some ⟨g, 0, none⟩) n c, .int .i64 k, .int .i64 ((k : Int) + 1)] w fun e w' => e = .returned (.slice (some ⟨g, 0, none⟩) (n - 1) c) ∧ w'.ownsRow base 3 1 (.slice (some ⟨g, 0, none⟩) (n - 1) c) (n - 1) ((zs.eraseIdx k).map (Value.int .i64)) ∧ Kept (fun b => b = g) w w') := D
  have HN : Hid (zs.length = n ∧ idxI zs x = k ∧ k < n) := ⟨hnn, hx, by omega⟩
  have HO : Hid (w.ownsRow base 3 1 v.order n (zs.map (Value.int .i64)) ∧ SeenZ w (some ⟨g, 0, none⟩) n zs ∧ v.order = .slice (some ⟨g, 0, none⟩) n c) := ⟨ho, by rw [← hnn]; exact so, eo⟩
  have cO : w.cell? ⟨p, 38, none⟩ = some (.slice (some ⟨g, 0, none⟩) n c) := h.cell 5 _ (by rw [← HO.out.2.2]; rfl)
  have HP : Hid (PgAt w p v) := h
  have hgp : Hid (g ≠ p) := fun e => own_neP (show w.ownsRow base 3 1 (.slice (some ⟨g, 0, none⟩) n c) n (zs.map (Value.int .i64)) by rw [← eo]; exact ho) h.blk (by rw [e]; rfl)
  have i1 : (0 : Int) ≤ (k : Int) := by omega
  rw [hnn] at hn
  have i2 : (k : Int) + 1 ≤ 9223372036854775807 := by omega
  clear h ho eo so hx hnn D
  go_enter Tryz.func93, Tryz.ntmps93
  go_wp2_with (first | (go_at_call 118; refine (sidx_any _ n c zs x w HO.out.2.1 (by omega)).mono ?_; rintro e _ ⟨rfl, rfl⟩; rw [HN.out.2.1]) | (go_at_call 119; refine HD.out.mono ?_))
  rintro e w1 ⟨rfl, o1, k1⟩
  have P1 : Hid (PgAt w1 p v) := HP.out.kept k1 (fun e => hgp.out e.symm)
  have cO1 : w1.cell? ⟨p, 38, none⟩ = some (.slice (some ⟨g, 0, none⟩) n c) := P1.out.cell 5 _ (by rw [← HO.out.2.2]; rfl)
  have fO1 := P1.out.blk.frozen 38
  have K2 : Hid (Kept (fun b => b = p) w1 (w1.setCell ⟨p, 38, none⟩ (.slice (some ⟨g, 0, none⟩) (n - 1) c))) := (Kept.refl (fun b => b = p) w1).setCell (p := ⟨p, 38, none⟩) rfl _
  have P2 : Hid (PgAt (w1.setCell ⟨p, 38, none⟩ (.slice (some ⟨g, 0, none⟩) (n - 1) c)) p { v with order := .slice (some ⟨g, 0, none⟩) (n - 1) c }) := P1.out.put 5 _ rfl rfl rfl
  have O2 : (w1.setCell ⟨p, 38, none⟩ (.slice (some ⟨g, 0, none⟩) (n - 1) c)).ownsRow base 3 1 (.slice (some ⟨g, 0, none⟩) (n - 1) c) (n - 1) ((zs.eraseIdx k).map (Value.int .i64)) := own_keptP o1 K2.out (fun j hj e => by subst e; exact own_neP o1 P1.out.blk hj)
  have KW : Hid (Kept (fun b => b = p ∨ v.order.ownBlock = some b) w (w1.setCell ⟨p, 38, none⟩ (.slice (some ⟨g, 0, none⟩) (n - 1) c))) := (k1.mono (fun b e => .inr (by rw [HO.out.2.2, e]; rfl))).trans (K2.out.mono (fun b e => .inl e))
  have hb1 : base ≤ w1.heap.size := Nat.le_trans hb k1.size
  have ON := one_newI (w1.setCell ⟨p, 38, none⟩ (.slice (some ⟨g, 0, none⟩) (n - 1) c)) (.int .i64 x) 3
  have hsz : (w1.setCell ⟨p, 38, none⟩ (.slice (some ⟨g, 0, none⟩) (n - 1) c)).heap.size = w1.heap.size := by simp [World.setCell]
  rw [hsz] at ON
  have HON : Hid _ := ON
  have HSZ : Hid ((w1.setCell ⟨p, 38, none⟩ (.slice (some ⟨g, 0, none⟩) (n - 1) c)).heap.size = w1.heap.size) := hsz
  clear hsz ON
  clear o1 k1
  go_wp2_with (at_builtin; (refine wpList_append_own_at _ rfl _ _ 52 rfl base 3 i0 (.int .i64 0) 1 8 Tryz.underlying52 hi hz0 hz1 hz2 rfl (by decide) _ _ _ rfl (O2.alloc _) ⟨w1.heap.size, 0, none⟩ 1 1 [.int .i64 x] rfl rfl HON.out (by intro u hu; simp at hu; subst hu; rfl) (by unfold maxLen; omega) (by omega) (by simp; omega) ?_))
  intro o' w3 h1 hg _ hat
  have hl : (zs.eraseIdx k).length = n - 1 := by rw [List.length_eraseIdx_of_lt (by rw [HN.out.1]; exact HN.out.2.2), HN.out.1]
  have U := Used.of (x := x) rfl hl P2.out O2 3 h1 hg (by rw [HSZ.out]; exact hat)
  obtain ⟨oa, on, oc, rfl⟩ : ∃ a n c, o' = .slice a n c := by rcases h1.2 with ⟨h, _⟩ | ⟨g, cap, cur, h, _⟩ <;> exact ⟨_, _, _, h⟩
  have cO3 : w3.cell? ⟨p, 38, none⟩ = some (.slice (some ⟨g, 0, none⟩) (n - 1) c) := U.1.cell 5 _ rfl
  have fO3 := U.1.blk.frozen 38
  have W1 : Hid (Used base p v (zs.eraseIdx k ++ [x]) w (w3.setCell ⟨p, 38, none⟩ (.slice oa on oc))) := U.2.after KW.out (by rw [HO.out.2.2]; rfl)
  clear h1 hg U hat hl
  go_wp2
  go_end0
  exact ⟨rfl, W1.out⟩
/-- A page goes to the end of the order. -/
def usedL (zs : List Int) (x : Int) : List Int := zs.erase x ++ [x]
theorem idxI_cases (zs : List Int) (x : Int) : (idxI zs x = -1 ∧ zs.erase x = zs) ∨ ∃ k : Nat, idxI zs x = k ∧ k < zs.length ∧ zs.eraseIdx k = zs.erase x := by
  induction zs with
  | nil => exact .inl ⟨rfl, rfl⟩
  | cons z zs ih =>
    by_cases h : z = x
    · subst h
      exact .inr ⟨0, by simp [idxI], by simp, by simp⟩
    · rcases ih with ⟨h1, h2⟩ | ⟨k, h1, h2, h3⟩
      · refine .inl ⟨by simp [idxI, h, h1], ?_⟩
        rw [List.erase_cons_tail (by simpa using h), h2]
      · refine .inr ⟨k + 1, ?_, by simpa using h2, ?_⟩
        · simp only [idxI, if_neg h, h1]
          rw [if_neg (by omega)]
          omega
        · rw [List.erase_cons_tail (by simpa using h), List.eraseIdx_cons_succ, h3]
theorem use_any (base p : Nat) (v : PgV) (zs : List Int) (x : Int) (w : World) (h : PgAt w p v) (ho : w.ownsRow base 3 1 v.order zs.length (zs.map (Value.int .i64))) (hn : zs.length ≤ 1048575) (hb : base ≤ w.heap.size) :
    Calls Tryz.prog 93 #[.pointer (some ⟨p, 0, none⟩), .int .i64 x] w fun e w' => e = .returned (.tuple #[]) ∧ Used base p v (usedL zs x) w w' := by
  rcases idxI_cases zs x with ⟨h1, h2⟩ | ⟨k, h1, h2, h3⟩
  · have := use_new base p v zs x w h ho hn hb h1
    rw [usedL, h2]; exact this
  · have := use_old base p v zs x k w h ho hn hb h1 h2
    rw [usedL, ← h3]; exact this
end Go.Proofs.YtnagndnpamcbbaaGreat

namespace Go.Proofs.YtnagndnpamcbbaaGreat
open Go.RowKit
set_option linter.unusedVariables false
set_option linter.unusedSimpArgs false

theorem sizeByte : (Tryz.prog.info? 5).map (·.size) = some 1 := by kernel_rfl
theorem add_mid (b o j : Nat) : (⟨b, o, none⟩ : Addr).add j = ⟨b, o + j, none⟩ := Addr.add_mid b o j
/-- Where a slice from lo on begins. -/
def subA (ao : Option Addr) (lo c : Nat) : Option Addr := if c = lo then ao else ao.map (·.add lo)
theorem Seen.sub {w : World} {ao : Option Addr} {n : Nat} {zs : List Int} (h : Seen w ao n zs) (lo hi c : Nat) (h1 : lo ≤ hi) (h2 : hi ≤ n) (h3 : n ≤ c) : Seen w (subA ao lo c) (hi - lo) ((zs.drop lo).take (hi - lo)) := by
  have hl := h.len
  refine ⟨by simp; omega, by have := h.top; omega, bytes_take (bytes_drop h.bytes lo) _, fun h0 => ?_⟩
  obtain ⟨b, o, rfl, hb, hc⟩ := h.cells (by omega)
  refine ⟨b, o + lo, ?_, hb, fun i hi' => ?_⟩
  · unfold subA
    rw [if_neg (by omega)]
    exact congrArg some (add_mid b o lo)
  · rw [Nat.add_assoc, hc (lo + i) (by omega)]
    have e : lo + i < zs.length := by omega
    simp [List.getD, List.getElem?_take, List.getElem?_drop, hi']
set_option maxRecDepth 20000 in
theorem sl_h (ao : Option Addr) (n c h : Nat) (hh : h ≤ c) (w : World) : (Instr.sliceAt 67 (.slice ao n c) none (some (.int .i64 h)) none).run Tryz.prog w = .ok (.slice (subA ao 0 c) h c) w := by
  rw [run_sliceAt_slice w 67 _ _ _ _ Tryz.underlying67, run_slice_h w 67 ao n c Tryz.underlying67 .i64 h (by omega) (by omega)]
  rw [show Tryz.prog.elem 67 = 5 by kernel_rfl]
  have hs : (sizeOf 5).run Tryz.prog w = .ok 1 w := by
    have h := sizeByte
    cases hq : Tryz.prog.info? 5 with
    | none => simp [hq] at h
    | some i => simp [hq] at h; simp [sizeOf, typeInfo, hq, h]
  simp [hs, Result.andThen, sliced, subA]
set_option maxRecDepth 20000 in
theorem sl_l (ao : Option Addr) (n c l : Nat) (hl : l ≤ n) (w : World) : (Instr.sliceAt 67 (.slice ao n c) (some (.int .i64 l)) none none).run Tryz.prog w = .ok (.slice (subA ao l c) (n - l) (c - l)) w := by
  rw [run_sliceAt_slice w 67 _ _ _ _ Tryz.underlying67, run_slice_l w 67 ao n c Tryz.underlying67 .i64 l (by omega) (by omega)]
  rw [show Tryz.prog.elem 67 = 5 by kernel_rfl]
  have hs : (sizeOf 5).run Tryz.prog w = .ok 1 w := by
    have h := sizeByte
    cases hq : Tryz.prog.info? 5 with
    | none => simp [hq] at h
    | some i => simp [hq] at h; simp [sizeOf, typeInfo, hq, h]
  simp [hs, Result.andThen, sliced, subA]
set_option maxRecDepth 20000 in
theorem sl_lh (ao : Option Addr) (n c l h : Nat) (hl : l ≤ h) (hh : h ≤ c) (w : World) : (Instr.sliceAt 67 (.slice ao n c) (some (.int .i64 l)) (some (.int .i64 h)) none).run Tryz.prog w = .ok (.slice (subA ao l c) (h - l) (c - l)) w := by
  rw [run_sliceAt_slice w 67 _ _ _ _ Tryz.underlying67, run_slice_lh w 67 ao n c Tryz.underlying67 .i64 .i64 l h (by omega) (by omega) (by omega)]
  rw [show Tryz.prog.elem 67 = 5 by kernel_rfl]
  have hs : (sizeOf 5).run Tryz.prog w = .ok 1 w := by
    have h := sizeByte
    cases hq : Tryz.prog.info? 5 with
    | none => simp [hq] at h
    | some i => simp [hq] at h; simp [sizeOf, typeInfo, hq, h]
  simp [hs, Result.andThen, sliced, subA]
end Go.Proofs.YtnagndnpamcbbaaGreat

namespace Go.Proofs.YtnagndnpamcbbaaGreat
open Go.RowKit
set_option linter.unusedVariables false
set_option linter.unusedSimpArgs false

/-- Bytes copied into a block that is known whole, out of a slice that is seen, nil or not. -/
theorem run_copy_seen (w : World) (ty : TypeId) (g off dLen dCap : Nat) (dp so : Option Addr) (n c : Nat) (src : List Int) (hx : Seen w so n src) (t : TypeId) (xs ys zs : List Value) (hb : Blk w g t (xs ++ (ys ++ zs))) (hoff : xs.length = off) (k : Nat) (hk : Nat.min n dLen = k) (hy : ys.length = k)
    (hdp : 0 < k → dp = some ⟨g, off, none⟩) : ∃ w', (Builtin.copy_ #[67, 67] ty #[.slice dp dLen dCap, .slice so n c]).run Tryz.prog w = .ok (goInt k) w' ∧ Blk w' g t (xs ++ (u8s (src.take k) ++ zs)) ∧ w'.heap.size = w.heap.size ∧ Kept (fun b => b = g) w w' := by
  have hkn : k ≤ n := by rw [← hk]; exact Nat.min_le_left _ _
  have hl : (u8s (src.take k)).length = k := by rw [u8s_length, List.length_take, hx.len]; omega
  rcases Nat.eq_zero_or_pos k with h0 | h0
  · subst h0
    obtain rfl : ys = [] := List.eq_nil_of_length_eq_zero hy
    exact ⟨w, run_copy_none w 67 67 ty 5 dp so dLen dCap n c Tryz.underlying67 sizeByte hk, by simpa [u8s] using hb, rfl, Kept.refl _ _⟩
  · obtain rfl := hdp h0
    obtain ⟨b, o, rfl, hlt, hcs⟩ := hx.cells (by omega)
    have hsrc : ∀ j v, (u8s (src.take k))[j]? = some v → w.cell? ((⟨b, o, none⟩ : Addr).add j) = some v := by
      intro j v hv
      have hj : j < k := by have := (List.getElem?_eq_some_iff.1 hv).1; omega
      have h2 : j < src.length := by rw [hx.len]; omega
      rw [add_mid, hcs j (by omega), ← hv]
      simp [u8s, List.getElem?_take, List.getD, h2, hj]
    have hrun := run_copy_row (P := Tryz.prog) w 67 67 ty 5 g off dLen dCap ⟨b, o, none⟩ n c (xs ++ (ys ++ zs)).toArray t (u8s (src.take k)) Tryz.underlying67 sizeByte hb (by rw [hl, hk]) hsrc (by simp; omega) (u8s_one _)
    have e : ((xs ++ (ys ++ zs)).toArray.toList.take off ++ u8s (src.take k) ++ (xs ++ (ys ++ zs)).toArray.toList.drop (off + (u8s (src.take k)).length)) = xs ++ (u8s (src.take k) ++ zs) := by
      subst hoff
      simp [hl, hy, List.drop_append, List.take_append]
    rw [e] at hrun
    refine ⟨_, by rw [hrun, hl], setRow_heap w g _ _ t _ hb, by simp [World.setRow], ⟨rfl, rfl, rfl, by simp [World.setRow], fun k _ hk => setRow_other w g k _ hk⟩⟩
theorem wpList_copy_seen {ops : Array Oper} {rest : List Oper} {o : Oper} {a : Act} {Q : Exit → Act → World → Prop} {w : World} (hgd : o.guard = none) (d s : Operand) (ho : o.op = .call { callee := .builtin .copy, args := #[d, s], argTypes := #[67, 67] })
    (g off dLen dCap : Nat) (dp so : Option Addr) (n c : Nat) (hd : a.eval d = .slice dp dLen dCap) (hs : a.eval s = .slice so n c) (src : List Int) (hx : Seen w so n src) (t : TypeId) (xs ys zs : List Value) (hb : Blk w g t (xs ++ (ys ++ zs))) (hoff : xs.length = off) (k : Nat) (hk : Nat.min n dLen = k) (hy : ys.length = k) (hdp : 0 < k → dp = some ⟨g, off, none⟩)
    (h : ∀ w', Blk w' g t (xs ++ (u8s (src.take k) ++ zs)) → w'.heap.size = w.heap.size → Kept (fun b => b = g) w w' → wpList Tryz.prog ops Q rest (a.put o.dst (goInt k)) w') : wpList Tryz.prog ops Q (o :: rest) a w := by
  refine wpList_plain hgd fun K hK => ?_
  obtain ⟨w', hrun, h1, h2, h3⟩ := run_copy_seen w o.type g off dLen dCap dp so n c src hx t xs ys zs hb hoff k hk hy hdp
  unfold Oper.wp
  simp [execOp, ho, resolve, invoke, builtin, hd, hs, hrun, Result.andThen]
  exact hK _ _ (h w' h1 h2 h3)
theorem step_copy_seen {ops : Array Oper} {o : Oper} {a : Act} {w : World} {K : Act → World → Prop} {Q : Exit → Act → World → Prop} {E : Prop} (hgd : o.guard = none) (d s : Operand) (ho : o.op = .call { callee := .builtin .copy, args := #[d, s], argTypes := #[67, 67] })
    (g off dLen dCap : Nat) (dp so : Option Addr) (n c : Nat) (hd : a.eval d = .slice dp dLen dCap) (hs : a.eval s = .slice so n c) (src : List Int) (hx : Seen w so n src) (t : TypeId) (xs ys zs : List Value) (hb : Blk w g t (xs ++ (ys ++ zs))) (hoff : xs.length = off) (k : Nat) (hk : Nat.min n dLen = k) (hy : ys.length = k) (hdp : 0 < k → dp = some ⟨g, off, none⟩)
    (dst : Option Tmp) (hdst : o.dst = dst) (h : ∀ w', Blk w' g t (xs ++ (u8s (src.take k) ++ zs)) → w'.heap.size = w.heap.size → Kept (fun b => b = g) w w' → K (a.put dst (goInt k)) w') :
    if Region.wanted o (yielded ops a.tmps) = true then Oper.wp Tryz.prog o a w K Q else E := by
  subst hdst
  have hw : Region.wanted o (yielded ops a.tmps) = true := by simp [Region.wanted, hgd]
  rw [if_pos hw]
  obtain ⟨w', hrun, h1, h2, h3⟩ := run_copy_seen w o.type g off dLen dCap dp so n c src hx t xs ys zs hb hoff k hk hy hdp
  unfold Oper.wp
  simp [execOp, ho, resolve, invoke, builtin, hd, hs, hrun, Result.andThen]
  exact h w' h1 h2 h3
theorem seen_blk {w : World} {g : Nat} {t : TypeId} {zs : List Int} (h : Blk w g t (u8s zs)) (hb : Bytes zs) (ht : zs.length ≤ 140737488355328) : Seen w (some ⟨g, 0, none⟩) zs.length zs :=
  ⟨rfl, ht, hb, fun _ => ⟨g, 0, rfl, h.lt, fun i hi => by rw [Nat.zero_add]; exact u8s_cell h i hi⟩⟩
end Go.Proofs.YtnagndnpamcbbaaGreat
