/- Layer mask: Copy and Trade over rows of the call's own. -/
import Derived.Test.YtldfbbgboelngabWords
import Derived.Deep.RegionHeld3
import Derived.Deep.DrawnRows
import Derived.BigRegion
import Derived.Deep.Draws
namespace Go.Proofs.Ytldfbbgboelngab
open Go.RowKit
attribute [local go_sem ↓] Go.wp_at_zero Go.wp_at_succ

/-- Of the blocks that were there all but those of S are as they were. -/
structure Kept (S : Nat → Prop) (w w' : World) : Prop where
  os : w'.os = w.os
  tape : w'.tape = w.tape
  output : w'.output = w.output
  size : w.heap.size ≤ w'.heap.size
  block : ∀ k, k < w.heap.size → ¬ S k → w'.heap[k]? = w.heap[k]?
theorem Kept.refl (S : Nat → Prop) (w : World) : Kept S w w := ⟨rfl, rfl, rfl, Nat.le_refl _, fun _ _ _ => rfl⟩
theorem Kept.trans {S : Nat → Prop} {a b c : World} (h : Kept S a b) (k : Kept S b c) : Kept S a c :=
  ⟨k.os.trans h.os, k.tape.trans h.tape, k.output.trans h.output, Nat.le_trans h.size k.size, fun i hi hs => (k.block i (Nat.lt_of_lt_of_le hi h.size) hs).trans (h.block i hi hs)⟩
theorem Kept.mono {S T : Nat → Prop} {a b : World} (h : Kept S a b) (hST : ∀ k, S k → T k) : Kept T a b :=
  ⟨h.os, h.tape, h.output, h.size, fun i hi hs => h.block i hi (fun x => hs (hST i x))⟩
theorem Kept.drew {S : Nat → Prop} {a w : World} (h : Kept S a w) : Kept S a w.drew := ⟨h.os, h.tape, h.output, h.size, h.block⟩
theorem Kept.setCell {S : Nat → Prop} {a w : World} (h : Kept S a w) {p : Addr} (hp : S p.block) (u : Value) : Kept S a (w.setCell p u) :=
  h.trans ⟨rfl, rfl, rfl, by simp [World.setCell], fun k _ hs => Below.heap_setCell _ _ _ _ (fun e => hs (e ▸ hp))⟩
theorem Kept.below {S : Nat → Prop} {a w : World} (h : Kept S a w) {B : Nat} (hB : B ≤ a.heap.size) (hS : ∀ k, S k → B ≤ k) : Below B a w :=
  ⟨h.os, h.tape, h.output, h.size, fun k hk => h.block k (by omega) (fun x => by have := hS k x; omega)⟩

/-- Block g begins with the bytes zs, and may be written. -/
def RowAt (w : World) (g : Nat) (zs : List Int) : Prop := ∃ rest : List Value, w.heap[g]? = some (.cells (zs.map (Value.int .u8) ++ rest).toArray 5 (0, 0))
theorem RowAt.cell {w : World} {g : Nat} {zs : List Int} (h : RowAt w g zs) (j : Nat) (hj : j < zs.length) : w.cell? ⟨g, j, none⟩ = some (.int .u8 (zs.getD j 0)) := by
  obtain ⟨rest, h⟩ := h
  rw [cell_of_row w g j _ 5 (0, 0) h]
  simp [hj, List.getElem?_append]
theorem RowAt.frozen {w : World} {g : Nat} {zs : List Int} (h : RowAt w g zs) (j : Nat) : w.frozen? ⟨g, j, none⟩ = false := by
  obtain ⟨rest, h⟩ := h
  exact frozen_of_row w g j _ 5 h
theorem RowAt.set {w : World} {g : Nat} {zs : List Int} (h : RowAt w g zs) (j : Nat) (hj : j < zs.length) (z : Int) : RowAt (w.setCell ⟨g, j, none⟩ (.int .u8 z)) g (zs.set j z) := by
  obtain ⟨rest, h⟩ := h
  refine ⟨rest, ?_⟩
  rw [heap_setCell_same w g j _ 5 _ h, List.map_set]
  simp [hj]
theorem RowAt.other {w : World} {g : Nat} {zs : List Int} (h : RowAt w g zs) {p : Addr} (hp : g ≠ p.block) (u : Value) : RowAt (w.setCell p u) g zs := by
  obtain ⟨rest, h⟩ := h
  exact ⟨rest, by rw [Below.heap_setCell _ _ _ _ hp]; exact h⟩
theorem RowAt.drew {w : World} {g : Nat} {zs : List Int} (h : RowAt w g zs) : RowAt w.drew g zs := h
theorem RowAt.drewN {w : World} {g : Nat} {zs : List Int} (h : RowAt w g zs) (k : Nat) : RowAt (w.drewN k) g zs := h
theorem RowAt.lt {w : World} {g : Nat} {zs : List Int} (h : RowAt w g zs) : g < w.heap.size := by
  obtain ⟨rest, h⟩ := h
  rcases Nat.lt_or_ge g w.heap.size with h' | h'
  · exact h'
  · rw [Array.getElem?_eq_none h'] at h; cases h
theorem RowAt.block {w w' : World} {g : Nat} {zs : List Int} (h : RowAt w g zs) (e : w'.heap[g]? = w.heap[g]?) : RowAt w' g zs := by
  obtain ⟨rest, h⟩ := h
  exact ⟨rest, by rw [e]; exact h⟩
theorem RowAt.alloc {w : World} {g : Nat} {zs : List Int} (h : RowAt w g zs) (o : Obj) : RowAt (w.alloc o) g zs := h.block (Below.heap_alloc w o g h.lt)
theorem RowAt.new (w : World) (zs : List Int) : RowAt (w.alloc (.cells (zs.map (Value.int .u8)).toArray 5)) w.heap.size zs := ⟨[], by rw [List.append_nil]; exact heap_alloc_new w _⟩
theorem RowAt.take {w : World} {g : Nat} {zs : List Int} (h : RowAt w g zs) (n : Nat) : RowAt w g (zs.take n) := by
  obtain ⟨rest, h⟩ := h
  refine ⟨(zs.drop n).map (Value.int .u8) ++ rest, ?_⟩
  rw [← List.append_assoc, ← List.map_append, List.take_append_drop]; exact h
theorem RowAt.of_own {w : World} {base : Nat} {g n cap : Nat} {zs : List Int} (h : w.ownsRow base 5 1 (.slice (some ⟨g, 0, none⟩) n cap) n (zs.map (Value.int .u8))) : RowAt w g zs ∧ base ≤ g ∧ n ≤ cap ∧ cap ≤ maxLen ∧ zs.length = n := by
  obtain ⟨hl, h⟩ := h
  rcases h with ⟨h, _⟩ | ⟨g', cap', cur, h, hb, hh, hc, hm, hs, ht⟩
  · cases h
  · simp only [Value.slice.injEq, Option.some.injEq, Addr.mk.injEq, and_true, true_and] at h
    obtain ⟨rfl, rfl⟩ := h
    rw [Nat.mul_one] at ht
    refine ⟨⟨cur.toList.drop n, ?_⟩, hb, hc, hm, by simpa using hl⟩
    rw [← ht, List.take_append_drop]; simpa using hh
def Bytes (zs : List Int) : Prop := ∀ z ∈ zs, 0 ≤ z ∧ z < 256
theorem Bytes.at {zs : List Int} (h : Bytes zs) (j : Nat) (hj : j < zs.length) : 0 ≤ zs.getD j 0 ∧ zs.getD j 0 < 256 := by
  have e : zs.getD j 0 = zs[j] := by simp [List.getD, hj]
  rw [e]; exact h _ (List.getElem_mem hj)

/-- What stands in a row whose first k places have been picked from another. -/
def mix (m : Int) (k : Nat) (xs ys : List Int) : List Int := xs.mapIdx fun i x => if i < k then pk m (ys.getD i 0) x else x
theorem mix_length (m : Int) (k : Nat) (xs ys : List Int) : (mix m k xs ys).length = xs.length := by simp [mix]
theorem mix_getD (m : Int) (k : Nat) (xs ys : List Int) (i : Nat) (hi : i < xs.length) : (mix m k xs ys).getD i 0 = if i < k then pk m (ys.getD i 0) (xs.getD i 0) else xs.getD i 0 := by
  simp [mix, List.getD, hi]
theorem mix_zero (m : Int) (xs ys : List Int) : mix m 0 xs ys = xs := by
  apply List.ext_getElem?
  intro i
  simp [mix]
theorem mix_succ (m : Int) (k : Nat) (xs ys : List Int) (hk : k < xs.length) : mix m (k + 1) xs ys = (mix m k xs ys).set k (pk m (ys.getD k 0) (xs.getD k 0)) := by
  apply List.ext_getElem?
  intro i
  rw [List.getElem?_set]
  by_cases h : k = i
  · subst h; simp [mix, hk, List.getD]
  · simp only [if_neg h]
    simp only [mix, List.getElem?_mapIdx]
    have : (i < k + 1) ↔ (i < k) := by omega
    simp [this]
theorem mix_bytes (m : Int) (k : Nat) (xs ys : List Int) (hx : Bytes xs) (hy : Bytes ys) : Bytes (mix m k xs ys) := by
  intro z hz
  obtain ⟨i, hi, rfl⟩ := List.getElem_of_mem hz
  have hi' : i < xs.length := by simpa [mix] using hi
  have e : (mix m k xs ys)[i] = if i < k then pk m (ys.getD i 0) (xs.getD i 0) else xs.getD i 0 := by
    have := mix_getD m k xs ys i hi'
    simpa [List.getD, hi] using this
  rw [e]
  have b1 := hx.at i hi'
  split
  · refine pk_bd8 _ _ _ ?_ b1
    by_cases h : i < ys.length
    · exact hy.at i h
    · simp [List.getD, h]
  · exact b1

theorem trade_len (m : Int) (a b : Option Addr) (n n' c c' : Nat) (hne : n ≠ n') (w : World) :
    Calls Try.prog 13 #[.int .u64 m, .slice a n c, .slice b n' c'] w fun e w' => e = .returned (.int .i64 4) ∧ w' = w := by
  have h : ((n : Int) != (n' : Int)) = true := by simp; omega
  go_enter Try.func13, Try.ntmps13
  go_wp2
  go_ret
  exact ⟨rfl, rfl⟩
theorem copy_len (m : Int) (a b : Option Addr) (n n' c c' : Nat) (hne : n ≠ n') (w : World) :
    Calls Try.prog 16 #[.int .u64 m, .slice a n c, .slice b n' c'] w fun e w' => e = .returned (.int .i64 4) ∧ w' = w := by
  have h : ((n : Int) != (n' : Int)) = true := by simp; omega
  go_enter Try.func16, Try.ntmps16
  go_wp2
  go_ret
  exact ⟨rfl, rfl⟩
theorem trade_none (m : Int) (a b : Option Addr) (c c' : Nat) (w : World) :
    Calls Try.prog 13 #[.int .u64 m, .slice a 0 c, .slice b 0 c'] w fun e w' => e = .returned (.int .i64 0) ∧ w' = w := by
  go_enter Try.func13, Try.ntmps13
  go_wp2
  refine wp_loop_rounds 1 ?_
  rw [rounds_succ]
  go_wp2
  go_ret
  exact ⟨rfl, rfl⟩
theorem copy_none (m : Int) (a b : Option Addr) (c c' : Nat) (w : World) :
    Calls Try.prog 16 #[.int .u64 m, .slice a 0 c, .slice b 0 c'] w fun e w' => e = .returned (.int .i64 0) ∧ w' = w := by
  go_enter Try.func16, Try.ntmps16
  go_wp2
  refine wp_loop_rounds 1 ?_
  rw [rounds_succ]
  go_wp2
  go_ret
  exact ⟨rfl, rfl⟩

theorem trade_step {m : Int} {k g h : Nat} {xs ys : List Int} {w wr : World} (hgh : g ≠ h) (hx : k < xs.length) (hy : k < ys.length)
    (hg : RowAt wr g (mix m k xs ys)) (hh : RowAt wr h (mix m k ys xs)) (hk : Kept (fun k => k = g ∨ k = h) w wr) :
    let W := ((wr.setCell ⟨g, k, none⟩ (.int .u8 (pk m (ys.getD k 0) (xs.getD k 0)))).setCell ⟨h, k, none⟩ (.int .u8 (pk m (xs.getD k 0) (ys.getD k 0)))).drew
    RowAt W g (mix m (k + 1) xs ys) ∧ RowAt W h (mix m (k + 1) ys xs) ∧ Kept (fun k => k = g ∨ k = h) w W := by
  refine ⟨?_, ?_, ?_⟩
  · rw [mix_succ m k xs ys hx]
    exact ((hg.set k (by rw [mix_length]; exact hx) _).other (by exact hgh) _).drew
  · rw [mix_succ m k ys xs hy]
    exact ((hh.other (p := ⟨g, k, none⟩) (fun e => hgh e.symm) _).set k (by rw [mix_length]; exact hy) _).drew
  · exact ((hk.setCell (by exact Or.inl rfl) _).setCell (by exact Or.inr rfl) _).drew

set_option maxHeartbeats 1000000 in
theorem trade_any (m : Int) (hm : Word m) (g h n cg ch : Nat) (xs ys : List Int) (hgh : g ≠ h) (hx : n ≤ xs.length) (hy : n ≤ ys.length) (hbx : Bytes xs) (hby : Bytes ys) (hn : n ≤ maxLen) (w : World) (hg : RowAt w g xs) (hh : RowAt w h ys) :
    Calls Try.prog 13 #[.int .u64 m, .slice (some ⟨g, 0, none⟩) n cg, .slice (some ⟨h, 0, none⟩) n ch] w fun e w' =>
      e = .returned (.int .i64 0) ∧ RowAt w' g (mix m n xs ys) ∧ RowAt w' h (mix m n ys xs) ∧ Kept (fun k => k = g ∨ k = h) w w' := by
  unfold maxLen at hn
  go_enter Try.func13, Try.ntmps13
  go_wp2
  go_loopw [15] (fun i wr => ∃ k : Nat, k ≤ n ∧ i = .int .i64 k ∧ RowAt wr g (mix m k xs ys) ∧ RowAt wr h (mix m k ys xs) ∧ Kept (fun k => k = g ∨ k = h) w wr) (fun i _ => n - (intOf i).toNat)
  case atStart => exact ⟨0, Nat.zero_le _, rfl, by rw [mix_zero]; exact hg, by rw [mix_zero]; exact hh, Kept.refl _ _⟩
  case round =>
    obtain ⟨k, hk, rfl, hrg, hrh, hkept⟩ := hrel
    by_cases hlt : k < n
    · have R := trade_step hgh (by omega) (by omega) hrg hrh hkept
      obtain ⟨X, hX⟩ : ∃ X, xs.getD k 0 = X := ⟨_, rfl⟩
      obtain ⟨Y, hY⟩ : ∃ Y, ys.getD k 0 = Y := ⟨_, rfl⟩
      rw [hX, hY] at R
      have c1 : wr.cell? ⟨g, k, none⟩ = some (.int .u8 X) := by rw [hrg.cell k (by rw [mix_length]; omega), mix_getD _ _ _ _ _ (by omega), if_neg (by omega), hX]
      have c2 : wr.cell? ⟨h, k, none⟩ = some (.int .u8 Y) := by rw [hrh.cell k (by rw [mix_length]; omega), mix_getD _ _ _ _ _ (by omega), if_neg (by omega), hY]
      have f1 : wr.frozen? ⟨g, k, none⟩ = false := hrg.frozen k
      have f2 : wr.frozen? ⟨h, k, none⟩ = false := hrh.frozen k
      have bX : 0 ≤ X ∧ X < 256 := by rw [← hX]; exact hbx.at k (by omega)
      have bY : 0 ≤ Y ∧ Y < 256 := by rw [← hY]; exact hby.at k (by omega)
      have HR : Hid _ := R
      have i1 : (0 : Int) ≤ (k : Int) := by omega
      have i2 : (k : Int) < (n : Int) := by omega
      clear hX hY hrg hrh hkept hg hh R hbx hby hx hy
      go_wp2
      go_region_with (go_at_call 27; refine (ex8_any _ _ _ hm bX bY _).mono ?_; rintro e w' ⟨rfl, rfl⟩)
      all_goals
        go_wp2
        go_roundw
        case rel => exact ⟨k + 1, by omega, by go_num, HR.out.1, HR.out.2.1, HR.out.2.2⟩
        case measure => simp [intOf]; omega
    · have e : k = n := by omega
      subst e
      go_wp2
      go_ret
      exact ⟨rfl, hrg, hrh, hkept⟩

theorem copy_step {m : Int} {k g : Nat} {xs ys : List Int} {w wr : World} (hx : k < xs.length)
    (hg : RowAt wr g (mix m k xs ys)) (hk : Kept (fun k => k = g) w wr) :
    let W := (wr.setCell ⟨g, k, none⟩ (.int .u8 (pk m (ys.getD k 0) (xs.getD k 0)))).drew
    RowAt W g (mix m (k + 1) xs ys) ∧ Kept (fun k => k = g) w W := by
  refine ⟨?_, ?_⟩
  · rw [mix_succ m k xs ys hx]
    exact (hg.set k (by rw [mix_length]; exact hx) _).drew
  · exact (hk.setCell (by exact rfl) _).drew
theorem Kept.cell {S : Nat → Prop} {w w' : World} (h : Kept S w w') {p : Addr} (hp : p.block < w.heap.size) (hS : ¬ S p.block) : w'.cell? p = w.cell? p := World.cell?_of_block (w := w) (h.block p.block hp hS)

set_option maxHeartbeats 1000000 in
theorem copy_any (m : Int) (hm : Word m) (g h o n cg ch : Nat) (xs ys : List Int) (hgh : h ≠ g) (hx : n ≤ xs.length) (hy : n ≤ ys.length) (hbx : Bytes xs) (hby : Bytes ys) (hn : n ≤ maxLen) (w : World) (hg : RowAt w g xs)
    (hlt : h < w.heap.size) (hh : ∀ i, i < n → w.cell? ⟨h, o + i, none⟩ = some (.int .u8 (ys.getD i 0))) :
    Calls Try.prog 16 #[.int .u64 m, .slice (some ⟨g, 0, none⟩) n cg, .slice (some ⟨h, o, none⟩) n ch] w fun e w' =>
      e = .returned (.int .i64 0) ∧ RowAt w' g (mix m n xs ys) ∧ Kept (fun k => k = g) w w' := by
  unfold maxLen at hn
  go_enter Try.func16, Try.ntmps16
  go_wp2
  go_loopw [15] (fun i wr => ∃ k : Nat, k ≤ n ∧ i = .int .i64 k ∧ RowAt wr g (mix m k xs ys) ∧ Kept (fun k => k = g) w wr) (fun i _ => n - (intOf i).toNat)
  case atStart => exact ⟨0, Nat.zero_le _, rfl, by rw [mix_zero]; exact hg, Kept.refl _ _⟩
  case round =>
    obtain ⟨k, hk, rfl, hrg, hkept⟩ := hrel
    by_cases hlt : k < n
    · have R := copy_step (by omega) hrg hkept
      obtain ⟨X, hX⟩ : ∃ X, xs.getD k 0 = X := ⟨_, rfl⟩
      obtain ⟨Y, hY⟩ : ∃ Y, ys.getD k 0 = Y := ⟨_, rfl⟩
      rw [hX, hY] at R
      have c1 : wr.cell? ⟨g, k, none⟩ = some (.int .u8 X) := by rw [hrg.cell k (by rw [mix_length]; omega), mix_getD _ _ _ _ _ (by omega), if_neg (by omega), hX]
      have c2 : wr.cell? ⟨h, o + k, none⟩ = some (.int .u8 Y) := by rw [hkept.cell (by assumption) (by exact hgh), hh k hlt, hY]
      have f1 : wr.frozen? ⟨g, k, none⟩ = false := hrg.frozen k
      have bX : 0 ≤ X ∧ X < 256 := by rw [← hX]; exact hbx.at k (by omega)
      have bY : 0 ≤ Y ∧ Y < 256 := by rw [← hY]; exact hby.at k (by omega)
      have HR : Hid _ := R
      have i1 : (0 : Int) ≤ (k : Int) := by omega
      have i2 : (k : Int) < (n : Int) := by omega
      clear hX hY hrg hkept hg hh R hbx hby hx hy
      go_wp2
      go_region_with (go_at_call 28; refine (ch8_any _ _ _ hm bY bX _).mono ?_; rintro e w' ⟨rfl, rfl⟩)
      all_goals
        go_wp2
        go_roundw
        case rel => exact ⟨k + 1, by omega, by go_num, HR.out.1, HR.out.2⟩
        case measure => simp [intOf]; omega
    · have e : k = n := by omega
      subst e
      go_wp2
      go_ret
      exact ⟨rfl, hrg, hkept⟩
end Go.Proofs.Ytldfbbgboelngab
