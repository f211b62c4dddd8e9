/- Layer network: rows of numbers as data; slices.Clone. -/
import Derived.Laws.AppendOwnNone
import Derived.RowKit
import Derived.WalkLawsBesides
import Derived.Test.YtlkpgbilepehmaaNExch
namespace Go.Proofs.Ytlkpgbilepehmaa
open Go.RowKit
set_option linter.unusedVariables false
set_option linter.unusedSimpArgs false

/-- A slice at ao of n numbers, which are zs. -/
structure SeenZ (w : World) (ao : Option Addr) (n : Nat) (zs : List Int) : Prop where
  len : zs.length = n
  cells : 0 < n → ∃ b o, ao = some ⟨b, o, none⟩ ∧ b < w.heap.size ∧ ∀ i, i < n → w.cell? ⟨b, o + i, none⟩ = some (.int .i64 (zs.getD i 0))
theorem SeenZ.later {w w' : World} {ao : Option Addr} {n : Nat} {zs : List Int} (h : SeenZ w ao n zs) {B : Nat} (hb : Below B w w') (hB : w.heap.size ≤ B) : SeenZ w' ao n zs :=
  ⟨h.len, fun h0 => by
    obtain ⟨b, o, e, hlt, hc⟩ := h.cells h0
    exact ⟨b, o, e, Nat.lt_of_lt_of_le hlt hb.size, fun i hi => (hb.cell (p := ⟨b, o + i, none⟩) (Nat.lt_of_lt_of_le hlt hB)).trans (hc i hi)⟩⟩
theorem own_z {w : World} {base : Nat} {v : Value} {zs : List Int} (h : w.ownsRow base 3 1 v zs.length (zs.map (Value.int .i64))) : ∃ ao c, v = .slice ao zs.length c ∧ SeenZ w ao zs.length zs := by
  rcases h.2 with ⟨rfl, h0⟩ | ⟨g, cap, cur, rfl, hg, hh, _⟩
  · exact ⟨none, 0, by rw [h0], rfl, fun h => by omega⟩
  · refine ⟨_, cap, rfl, rfl, fun _ => ⟨g, 0, rfl, lt_of_block hh, fun i hi => ?_⟩⟩
    rw [Nat.zero_add, h.cellAt i (by omega)]
    simp [List.getD, hi]
theorem info_int : (Try.prog.info? 3).map (fun i => (i.zero, i.size, i.bytes)) = some (some (.int .i64 0), 1, 8) := by kernel_rfl
theorem bs_none (w : World) : (Instr.buildSlice 44 0 #[]).run Try.prog w = .ok (.slice (some ⟨w.heap.size, 0, none⟩) 0 0) (w.alloc (.cells #[] 3)) := by kernel_rfl
set_option maxRecDepth 20000 in
set_option maxHeartbeats 1000000 in
theorem sclone_any (ao : Option Addr) (n c : Nat) (zs : List Int) (w : World) (hs : SeenZ w ao n zs) (hn : n ≤ 1048576) (h0 : ao = none → c = 0) :
    Calls Try.prog 42 #[.slice ao n c] w fun e w' => ∃ v, e = .returned v ∧ w'.ownsRow w.heap.size 3 1 v n (zs.map (Value.int .i64)) ∧ Below w.heap.size w w' := by
  obtain ⟨i0, hi, hz0, hz1, hz2⟩ := info_parts info_int
  cases ao with
  | none =>
    have hn0 : n = 0 := by
      rcases Nat.eq_zero_or_pos n with h | h
      · exact h
      · obtain ⟨b, o, e, _⟩ := hs.cells h; cases e
    have hz : zs = [] := List.eq_nil_of_length_eq_zero (by rw [hs.len, hn0])
    rw [h0 rfl, hn0, hz]
    clear hs h0 hn0 hz hn
    have hq : ∀ wx, (binOp .eql 44 (.slice none 0 0) (.slice none 0 0)).run Try.prog wx = .ok (.bool true) wx := fun wx => Lib.run_eql_slice_nil wx 44 3 none 0 0 0 0 Try.underlying44
    go_enter Try.func42, Try.ntmps42
    go_wp2
    go_ret
    exact ⟨_, rfl, World.ownsRow_nil _ _ _ _, Below.refl _ _⟩
  | some ad =>
    have HS : Hid (SeenZ w (some ad) n zs) := hs
    clear hs h0
    have hq : ∀ wx, (binOp .eql 44 (.slice (some ad) n c) (.slice none 0 0)).run Try.prog wx = .ok (.bool false) wx := fun wx => Lib.run_eql_slice_nil wx 44 3 (some ad) n c 0 0 Try.underlying44
    go_enter Try.func42, Try.ntmps42
    go_wp2_with (at_builtin; refine wpList_append_own _ rfl _ _ 44 rfl w.heap.size 3 i0 (.int .i64 0) 1 8 Try.underlying44 hi hz0 hz1 hz2 rfl (by decide) _ 0 [] rfl (World.ownsRow_made w #[] 0 (Nat.le_refl _) (Nat.zero_le _) rfl) ad n c (zs.map (Value.int .i64)) rfl ?c1 ?c2 ?c3 ?c4 ?c5 ?c6 ?_)
    case c1 => rw [List.length_map, HS.out.len, Nat.mul_one]
    case c2 =>
      intro j u hj
      have hjl : j < zs.length := by have := (List.getElem?_eq_some_iff.1 hj).1; simpa using this
      have hl := HS.out.len
      obtain ⟨b, o, e, hlt, hc⟩ := HS.out.cells (by omega)
      cases e
      rw [show (⟨b, o, none⟩ : Addr).add j = ⟨b, o + j, none⟩ by simp [Addr.add]]
      have h1 := ((Below.refl w.heap.size w).alloc (Nat.le_refl _) (.cells #[] 3)).cell (p := ⟨b, o + j, none⟩) hlt
      rw [h1, hc j (by omega), ← hj]
      simp [List.getD, hjl]
    case c3 => intro u hu; obtain ⟨z, _, rfl⟩ := List.mem_map.1 hu; rfl
    case c4 => unfold maxLen; omega
    case c5 => omega
    case c6 => simp
    intro v' w1 ho hg _
    have HO : Hid (w1.ownsRow w.heap.size 3 1 v' n (zs.map (Value.int .i64)) ∧ Below w.heap.size w w1) := ⟨by simpa using ho, ((Below.refl _ _).alloc (Nat.le_refl _) _).grown hg (by simp) (fun j hj => by have : some w.heap.size = some j := hj; cases this; exact Nat.le_refl _)⟩
    clear ho hg
    go_wp2
    go_ret
    exact ⟨_, rfl, HO.out.1, HO.out.2⟩
/-- A row of one's own as a row of numbers. -/
theorem own_rowI {w : World} {base n : Nat} {v : Value} {zs : List Int} (h : w.ownsRow base 3 1 v n (zs.map (Value.int .i64))) (hn : 0 < n) : ∃ g c, v = .slice (some ⟨g, 0, none⟩) n c ∧ base ≤ g ∧ c ≤ maxLen ∧ RowI w g c zs := by
  have hl : zs.length = n := by have := h.1; simpa using this
  rcases h.2 with ⟨_, h0⟩ | ⟨g, cap, cur, rfl, hg, hh, h1, h2, h3, h4⟩
  · omega
  · refine ⟨g, cap, rfl, hg, h2, cur.toList.drop n, ?_, ?_⟩
    · simp; omega
    · rw [Nat.mul_one] at h4
      rw [hh, ← h4, List.take_append_drop]
theorem rowI_own {w : World} {base g c : Nat} {zs : List Int} (h : RowI w g c zs) (hb : base ≤ g) (hc : c ≤ maxLen) : w.ownsRow base 3 1 (.slice (some ⟨g, 0, none⟩) zs.length c) zs.length (zs.map (Value.int .i64)) := by
  obtain ⟨rest, e, hh⟩ := h
  refine ⟨by simp, .inr ⟨g, c, _, rfl, hb, hh, by omega, hc, by simp; omega, ?_⟩⟩
  simp
theorem RowI.seen {w : World} {g c : Nat} {zs : List Int} (h : RowI w g c zs) : SeenZ w (some ⟨g, 0, none⟩) zs.length zs :=
  ⟨rfl, fun _ => ⟨g, 0, rfl, h.lt, fun i hi => by rw [Nat.zero_add]; exact h.cell i hi⟩⟩
end Go.Proofs.Ytlkpgbilepehmaa
