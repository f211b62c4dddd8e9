/- Layer octet, the ground: blocks that stay, rows of bytes, slices that are seen. -/
import Derived.Test.YtmgkjldjeomcmaaDoorRows
import Derived.WalkKit
import Derived.WalkSpells
import Derived.WalkLawsBesides
import Derived.RowKit
import Derived.Laws.BitsAllLaws
import Derived.Deep.RegionHeld3
import Derived.Deep.DrawnRows
import Derived.BigRegion
import Derived.Deep.Draws
import Derived.Deep.QuietTactic
import Derived.BigQuiet
import Derived.OpenShut
import Derived.Deep.AppendLies
import Derived.Laws.AppendOwnNone
namespace Go.Proofs.YtmgkjldjeomcmaaDoor
open Go.RowKit
set_option linter.unusedVariables false
set_option linter.unusedSimpArgs false
attribute [local go_sem ↓] Go.wp_at_zero Go.wp_at_succ


abbrev Word (x : Int) : Prop := 0 ≤ x ∧ x < 18446744073709551616
theorem word_of_wf {x : Int} (h : (Lit.int .u64 x).wf = true) : Word x := by
  simp [Lit.wf, IntKind.min, IntKind.max, IntKind.signed, IntKind.bits] at h
  exact ⟨by omega, by omega⟩
theorem ret_int {k : IntKind} {a b : Int} (h : a = b) : Ending.returned (.int k a) = .returned (.int k b) := by rw [h]

/-- Of the blocks that were there all but those of S are as they were. -/
structure Kept (S : Nat → Prop) (w w' : World) : Prop where
  os : w'.os = w.os
  tape : w'.tape = w.tape
  output : w'.output = w.output
  size : w.heap.size ≤ w'.heap.size
  block : ∀ k, k < w.heap.size → ¬ S k → w'.heap[k]? = w.heap[k]?
theorem Kept.refl (S : Nat → Prop) (w : World) : Kept S w w := ⟨rfl, rfl, rfl, Nat.le_refl _, fun _ _ _ => rfl⟩
theorem Kept.trans {S : Nat → Prop} {a b c : World} (h : Kept S a b) (k : Kept S b c) : Kept S a c :=
  ⟨k.os.trans h.os, k.tape.trans h.tape, k.output.trans h.output, Nat.le_trans h.size k.size, fun i hi hs => (k.block i (Nat.lt_of_lt_of_le hi h.size) hs).trans (h.block i hi hs)⟩
theorem Kept.mono {S T : Nat → Prop} {a b : World} (h : Kept S a b) (hST : ∀ k, S k → T k) : Kept T a b :=
  ⟨h.os, h.tape, h.output, h.size, fun i hi hs => h.block i hi (fun x => hs (hST i x))⟩
theorem Kept.drew {S : Nat → Prop} {a w : World} (h : Kept S a w) : Kept S a w.drew := ⟨h.os, h.tape, h.output, h.size, h.block⟩
theorem Kept.setCell {S : Nat → Prop} {a w : World} (h : Kept S a w) {p : Addr} (hp : S p.block) (u : Value) : Kept S a (w.setCell p u) :=
  h.trans ⟨rfl, rfl, rfl, by simp [World.setCell], fun k _ hs => Below.heap_setCell _ _ _ _ (fun e => hs (e ▸ hp))⟩
theorem Kept.below {S : Nat → Prop} {a w : World} (h : Kept S a w) {B : Nat} (hB : B ≤ a.heap.size) (hS : ∀ k, S k → B ≤ k) : Below B a w :=
  ⟨h.os, h.tape, h.output, h.size, fun k hk => h.block k (by omega) (fun x => by have := hS k x; omega)⟩

/-- Block g begins with the bytes zs, and may be written. -/
def RowAt (w : World) (g : Nat) (zs : List Int) : Prop := ∃ rest : List Value, w.heap[g]? = some (.cells (zs.map (Value.int .u8) ++ rest).toArray 5 (0, 0))
theorem RowAt.cell {w : World} {g : Nat} {zs : List Int} (h : RowAt w g zs) (j : Nat) (hj : j < zs.length) : w.cell? ⟨g, j, none⟩ = some (.int .u8 (zs.getD j 0)) := by
  obtain ⟨rest, h⟩ := h
  rw [cell_of_row w g j _ 5 (0, 0) h]
  simp [hj, List.getElem?_append]
theorem RowAt.frozen {w : World} {g : Nat} {zs : List Int} (h : RowAt w g zs) (j : Nat) : w.frozen? ⟨g, j, none⟩ = false := by
  obtain ⟨rest, h⟩ := h
  exact frozen_of_row w g j _ 5 h
theorem RowAt.set {w : World} {g : Nat} {zs : List Int} (h : RowAt w g zs) (j : Nat) (hj : j < zs.length) (z : Int) : RowAt (w.setCell ⟨g, j, none⟩ (.int .u8 z)) g (zs.set j z) := by
  obtain ⟨rest, h⟩ := h
  refine ⟨rest, ?_⟩
  rw [heap_setCell_same w g j _ 5 _ h, List.map_set]
  simp [hj]
theorem RowAt.other {w : World} {g : Nat} {zs : List Int} (h : RowAt w g zs) {p : Addr} (hp : g ≠ p.block) (u : Value) : RowAt (w.setCell p u) g zs := by
  obtain ⟨rest, h⟩ := h
  exact ⟨rest, by rw [Below.heap_setCell _ _ _ _ hp]; exact h⟩
theorem RowAt.drew {w : World} {g : Nat} {zs : List Int} (h : RowAt w g zs) : RowAt w.drew g zs := h
theorem RowAt.drewN {w : World} {g : Nat} {zs : List Int} (h : RowAt w g zs) (k : Nat) : RowAt (w.drewN k) g zs := h
theorem RowAt.lt {w : World} {g : Nat} {zs : List Int} (h : RowAt w g zs) : g < w.heap.size := by
  obtain ⟨rest, h⟩ := h
  rcases Nat.lt_or_ge g w.heap.size with h' | h'
  · exact h'
  · rw [Array.getElem?_eq_none h'] at h; cases h
theorem RowAt.block {w w' : World} {g : Nat} {zs : List Int} (h : RowAt w g zs) (e : w'.heap[g]? = w.heap[g]?) : RowAt w' g zs := by
  obtain ⟨rest, h⟩ := h
  exact ⟨rest, by rw [e]; exact h⟩
theorem RowAt.alloc {w : World} {g : Nat} {zs : List Int} (h : RowAt w g zs) (o : Obj) : RowAt (w.alloc o) g zs := h.block (Below.heap_alloc w o g h.lt)
theorem RowAt.new (w : World) (zs : List Int) : RowAt (w.alloc (.cells (zs.map (Value.int .u8)).toArray 5)) w.heap.size zs := ⟨[], by rw [List.append_nil]; exact heap_alloc_new w _⟩
theorem RowAt.take {w : World} {g : Nat} {zs : List Int} (h : RowAt w g zs) (n : Nat) : RowAt w g (zs.take n) := by
  obtain ⟨rest, h⟩ := h
  refine ⟨(zs.drop n).map (Value.int .u8) ++ rest, ?_⟩
  rw [← List.append_assoc, ← List.map_append, List.take_append_drop]; exact h
theorem RowAt.of_own {w : World} {base : Nat} {g n cap : Nat} {zs : List Int} (h : w.ownsRow base 5 1 (.slice (some ⟨g, 0, none⟩) n cap) n (zs.map (Value.int .u8))) : RowAt w g zs ∧ base ≤ g ∧ n ≤ cap ∧ cap ≤ maxLen ∧ zs.length = n := by
  obtain ⟨hl, h⟩ := h
  rcases h with ⟨h, _⟩ | ⟨g', cap', cur, h, hb, hh, hc, hm, hs, ht⟩
  · cases h
  · simp only [Value.slice.injEq, Option.some.injEq, Addr.mk.injEq, and_true, true_and] at h
    obtain ⟨rfl, rfl⟩ := h
    rw [Nat.mul_one] at ht
    refine ⟨⟨cur.toList.drop n, ?_⟩, hb, hc, hm, by simpa using hl⟩
    rw [← ht, List.take_append_drop]; simpa using hh
def Bytes (zs : List Int) : Prop := ∀ z ∈ zs, 0 ≤ z ∧ z < 256
theorem Bytes.at {zs : List Int} (h : Bytes zs) (j : Nat) (hj : j < zs.length) : 0 ≤ zs.getD j 0 ∧ zs.getD j 0 < 256 := by
  have e : zs.getD j 0 = zs[j] := by simp [List.getD, hj]
  rw [e]; exact h _ (List.getElem_mem hj)
theorem Kept.cell {S : Nat → Prop} {w w' : World} (h : Kept S w w') {p : Addr} (hp : p.block < w.heap.size) (hS : ¬ S p.block) : w'.cell? p = w.cell? p := World.cell?_of_block (w := w) (h.block p.block hp hS)
theorem ret_bool {a b : Bool} (h : a = b) : Ending.returned (.bool a) = .returned (.bool b) := by rw [h]

/-- A slice at ao of n bytes, which are zs. -/
structure Seen (w : World) (ao : Option Addr) (n : Nat) (zs : List Int) : Prop where
  len : zs.length = n
  top : n ≤ 140737488355328
  bytes : Bytes zs
  cells : 0 < n → ∃ b o, ao = some ⟨b, o, none⟩ ∧ b < w.heap.size ∧ ∀ i, i < n → w.cell? ⟨b, o + i, none⟩ = some (.int .u8 (zs.getD i 0))
theorem Seen.later {w w' : World} {ao : Option Addr} {n : Nat} {zs : List Int} (h : Seen w ao n zs) {B : Nat} (hb : Below B w w') (hB : w.heap.size ≤ B) : Seen w' ao n zs :=
  ⟨h.len, h.top, h.bytes, fun hn => by
    obtain ⟨b, o, e, hlt, hc⟩ := h.cells hn
    exact ⟨b, o, e, Nat.lt_of_lt_of_le hlt hb.size, fun i hi => (hb.cell (p := ⟨b, o + i, none⟩) (Nat.lt_of_lt_of_le hlt hB)).trans (hc i hi)⟩⟩
theorem Seen.heap {w w' : World} {ao : Option Addr} {n : Nat} {zs : List Int} (h : Seen w ao n zs) (e : w'.heap = w.heap) : Seen w' ao n zs :=
  h.later (B := w.heap.size + w'.heap.size) (w' := { w with heap := w'.heap }) ⟨rfl, rfl, rfl, by simp [e], fun k _ => by simp [e]⟩ (Nat.le_add_right _ _) |> fun g => ⟨g.len, g.top, g.bytes, g.cells⟩
theorem Seen.drewN {w : World} {ao : Option Addr} {n : Nat} {zs : List Int} (h : Seen w ao n zs) (k : Nat) : Seen (w.drewN k) ao n zs := ⟨h.len, h.top, h.bytes, h.cells⟩
theorem Seen.of_row {w : World} {g n : Nat} {zs : List Int} (h : RowAt w g zs) (hl : n ≤ zs.length) (ht : n ≤ 140737488355328) (hb : Bytes zs) : Seen w (some ⟨g, 0, none⟩) n (zs.take n) :=
  ⟨by simp; omega, ht, fun z hz => hb z (List.mem_of_mem_take hz), fun _ => ⟨g, 0, rfl, h.lt, fun i hi => by
    rw [Nat.zero_add, h.cell i (by omega)]
    simp [List.getD, hi]⟩⟩
theorem byte_of_wf {z : Int} (h : (Lit.int .u8 z).wf = true) : 0 ≤ z ∧ z < 256 := by
  simp [Lit.wf, IntKind.min, IntKind.max, IntKind.signed, IntKind.bits] at h
  exact ⟨by omega, by omega⟩
theorem Seen.of_ints {w : World} {x : Addr} {n cap : Nat} {zs : List Int} (hn : n ≤ 140737488355328) (hl : n ≤ cap) (hz : zs.length = cap)
    (hcell : ∀ i, i < zs.length → w.cell? (x.add i) = some (.int .u8 (zs.getD i 0))) (hw : ∀ z ∈ zs, (Lit.int .u8 z).wf = true) : Seen w (some x) n (zs.take n) :=
  ⟨by simp; omega, hn, fun z hz => byte_of_wf (hw z (List.mem_of_mem_take hz)), fun h0 => by
    obtain ⟨b, o, rfl, hc⟩ := ints_at hcell (by omega)
    refine ⟨b, o, rfl, ?_, fun i hi => ?_⟩
    · have := hc 0 (by omega)
      exact World.block_lt_of_cell? _ _ this
    · rw [hc i (by omega)]
      simp [List.getD, hi]⟩
theorem Seen.empty (w : World) (ao : Option Addr) : Seen w ao 0 [] := ⟨rfl, by decide, fun z hz => (by cases hz), fun h => (by omega)⟩

theorem below_dn {B : Nat} {a w : World} (h : Below B a w) (n : Nat) : Below B a (w.drewN n) := h.trans ⟨rfl, rfl, rfl, Nat.le_refl _, fun _ _ => rfl⟩
/-- A world that is another but for draws may stand in its place. -/
theorem below_ahead {B : Nat} {W w' : World} {k : Nat} (h : Below B (W.drewN k) w') : Below B W w' := ⟨h.os, h.tape, h.output, h.size, h.block⟩
theorem info_byte : (Tryd.prog.info? 5).map (fun i => (i.zero, i.size, i.bytes)) = some (some (.int .u8 0), 1, 1) := by kernel_rfl

/-- A value that owns the bytes zs in new memory: nil, or a row. -/
theorem own_cases {w : World} {base : Nat} {v : Value} {zs : List Int} (h : w.ownsRow base 5 1 v zs.length (zs.map (Value.int .u8))) :
    (v = .slice none 0 0 ∧ zs = []) ∨ ∃ g cap, v = .slice (some ⟨g, 0, none⟩) zs.length cap ∧ RowAt w g zs ∧ base ≤ g ∧ zs.length ≤ cap ∧ cap ≤ maxLen := by
  rcases h.2 with ⟨h1, h2⟩ | ⟨g, cap, cur, rfl, r⟩
  · left; exact ⟨h1, List.length_eq_zero_iff.1 h2⟩
  · right
    have := RowAt.of_own h
    exact ⟨g, cap, rfl, this.1, this.2.1, this.2.2.1, this.2.2.2.1⟩

theorem step_own {w wr w1 : World} {v v' : Value} {zs : List Int} {z : Int} {k : Nat}
    (hb : Below w.heap.size w wr) (hown : wr.ownsRow w.heap.size 5 1 v k ((zs.map (Value.int .u8)).take k)) (hk : k < zs.length) (hz : zs.getD k 0 = z)
    (hown' : w1.ownsRow w.heap.size 5 1 v' (k + 1) ((zs.map (Value.int .u8)).take k ++ [.int .u8 z])) (hg : (wr.alloc (.cells #[.int .u8 z] 5)).grownBy w1 v.ownBlock) :
    w1.ownsRow w.heap.size 5 1 v' (k + 1) ((zs.map (Value.int .u8)).take (k + 1)) ∧ Below w.heap.size w w1 := by
  constructor
  · rw [List.take_succ_eq_append_getElem (by simpa using hk)]
    have e : zs[k] = z := by rw [← hz]; simp [List.getD, hk]
    rw [List.getElem_map, e]; exact hown'
  · exact (hb.alloc hb.size _).grown hg (by have := hb.size; simp; omega) (fun j hj => (hown.lt j hj).1)

theorem own_len {w : World} {base : Nat} {v : Value} {n : Nat} {zs : List Int} (hl : zs.length = n) (h : w.ownsRow base 5 1 v n (zs.map (Value.int .u8))) :
    (v = .slice none 0 0 ∧ n = 0) ∨ ∃ g cap, v = .slice (some ⟨g, 0, none⟩) n cap ∧ RowAt w g zs ∧ base ≤ g ∧ n ≤ cap ∧ cap ≤ maxLen := by
  subst hl
  rcases own_cases h with ⟨h1, h2⟩ | h
  · left; exact ⟨h1, by rw [h2]; rfl⟩
  · right; exact h

theorem RowAt.later {w w' : World} {g : Nat} {zs : List Int} (h : RowAt w g zs) {B : Nat} (hb : Below B w w') (hB : w.heap.size ≤ B) : RowAt w' g zs := h.block (hb.block g (Nat.lt_of_lt_of_le h.lt hB))
theorem RowAt.kept {S : Nat → Prop} {w w' : World} {g : Nat} {zs : List Int} (h : RowAt w g zs) (hk : Kept S w w') (hS : ¬ S g) : RowAt w' g zs := h.block (hk.block g h.lt hS)
theorem Seen.drew {w : World} {ao : Option Addr} {n : Nat} {zs : List Int} (h : Seen w ao n zs) : Seen w.drew ao n zs := h.drewN 1
theorem Seen.kept {S : Nat → Prop} {w w' : World} {ao : Option Addr} {n : Nat} {zs : List Int} (h : Seen w ao n zs) (hk : Kept S w w') (hS : ∀ b o, 0 < n → ao = some ⟨b, o, none⟩ → ¬ S b) : Seen w' ao n zs :=
  ⟨h.len, h.top, h.bytes, fun hn => by
    obtain ⟨b, o, e, hlt, hc⟩ := h.cells hn
    exact ⟨b, o, e, Nat.lt_of_lt_of_le hlt hk.size, fun i hi => (hk.cell (p := ⟨b, o + i, none⟩) hlt (hS b o hn e)).trans (hc i hi)⟩⟩
theorem Seen.old {w : World} {ao : Option Addr} {n : Nat} {zs : List Int} (h : Seen w ao n zs) {B : Nat} (hB : w.heap.size ≤ B) : ∀ b o, 0 < n → ao = some ⟨b, o, none⟩ → b < B := by
  intro b o hn e
  obtain ⟨b', o', e', hlt, _⟩ := h.cells hn
  rw [e] at e'
  simp at e'
  omega
theorem own_seen {w : World} {base : Nat} {v : Value} {n : Nat} {zs : List Int} (hl : zs.length = n) (hb : Bytes zs) (ht : n ≤ 140737488355328) (h : w.ownsRow base 5 1 v n (zs.map (Value.int .u8))) :
    ∃ vo cap, v = .slice vo n cap ∧ Seen w vo n zs ∧ ∀ b o, vo = some ⟨b, o, none⟩ → base ≤ b := by
  rcases own_len hl h with ⟨rfl, rfl⟩ | ⟨g, cap, rfl, hr, hg, _, _⟩
  · have e : zs = [] := List.length_eq_zero_iff.1 hl
    subst e
    exact ⟨none, 0, rfl, Seen.empty _ _, fun b o h => by cases h⟩
  · refine ⟨_, cap, rfl, ?_, fun b o h => by simp at h; omega⟩
    have := Seen.of_row (n := n) hr (by omega) ht hb
    rwa [List.take_of_length_le (by omega)] at this
theorem ownsRow_below {w w' : World} {base : Nat} {e : TypeId} {size : Nat} {v : Value} {n : Nat} {xs : List Value} (h : w.ownsRow base e size v n xs) (hb : Below w.heap.size w w') : w'.ownsRow base e size v n xs := by
  refine ⟨h.1, ?_⟩
  rcases h.2 with h2 | ⟨g, cap, cur, hv, hg, hh, r⟩
  · exact .inl h2
  · exact .inr ⟨g, cap, cur, hv, hg, by rw [hb.block g (lt_of_block hh)]; exact hh, r⟩
theorem ownsRow_base {w : World} {base base' : Nat} {e : TypeId} {size : Nat} {v : Value} {n : Nat} {xs : List Value} (h : w.ownsRow base e size v n xs) (hb : base' ≤ base) : w.ownsRow base' e size v n xs := by
  refine ⟨h.1, ?_⟩
  rcases h.2 with h2 | ⟨g, cap, cur, hv, hg, r⟩
  · exact .inl h2
  · exact .inr ⟨g, cap, cur, hv, by omega, r⟩
end Go.Proofs.YtmgkjldjeomcmaaDoor
