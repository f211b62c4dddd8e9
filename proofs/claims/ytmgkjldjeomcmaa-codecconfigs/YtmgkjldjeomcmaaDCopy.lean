/- The statements' helpers for layer digest: CopyBytes, Join, Two, CopyRows. -/
import Derived.Test.YtmgkjldjeomcmaaTSeenP
namespace Go.Proofs.Ytmgkjldjeomcmaa
open Go.RowKit
set_option linter.unusedVariables false
set_option linter.unusedSimpArgs false

theorem one_new (w : World) (x : Value) (t : TypeId) : ∀ j u, [x][j]? = some u → (w.alloc (.cells #[x] t)).cell? ((⟨w.heap.size, 0, none⟩ : Addr).add j) = some u := by
  intro j u hj
  rw [add_mid, Nat.zero_add]
  have h : (w.alloc (.cells #[x] t)).heap[w.heap.size]? = some (.cells [x].toArray t (0, 0)) := heap_alloc_new w _
  rw [cell_of_row _ _ j _ t (0, 0) h]
  simpa using hj
/-- A value that owns bytes, read as data. -/
theorem own_data {w : World} {base : Nat} {v : Value} {zs : List Int} (hb : Bytes zs) (ht : zs.length ≤ 140737488355328) (h : w.ownsRow base 5 1 v zs.length (zs.map (Value.int .u8))) :
    ∃ vo cap, v = .slice vo zs.length cap ∧ Seen w vo zs.length zs ∧ zs.length ≤ cap ∧ (vo = none → cap = 0) ∧ (∀ b o, vo = some ⟨b, o, none⟩ → base ≤ b ∧ b < w.heap.size ∧ o = 0 ∧ RowAt w b zs) ∧ cap ≤ maxLen := by
  rcases own_cases h with ⟨rfl, h0⟩ | ⟨g, cap, rfl, hr, hg, hc, hm⟩
  · subst h0
    exact ⟨none, 0, rfl, Seen.empty _ _, Nat.le_refl _, fun _ => rfl, (fun b o h => by cases h), by decide⟩
  · refine ⟨_, cap, rfl, ?_, hc, (fun h => by cases h), fun b o h => ?_, hm⟩
    · have := Seen.of_row (n := zs.length) hr (Nat.le_refl _) ht hb
      rwa [List.take_length] at this
    · simp only [Option.some.injEq, Addr.mk.injEq, and_true] at h
      obtain ⟨rfl, rfl⟩ := h
      exact ⟨hg, hr.lt, rfl, hr⟩
set_option maxHeartbeats 1000000 in
set_option maxRecDepth 20000 in
theorem copyB_any (ao : Option Addr) (n c : Nat) (zs : List Int) (w : World) (hx : Seen w ao n zs) :
    Calls Try.prog 8 #[.slice ao n c] w fun e w' => ∃ v, e = .returned v ∧ w'.ownsRow w.heap.size 5 1 v n (zs.map (Value.int .u8)) ∧ Below w.heap.size w w' := by
  have t1 := hx.top
  have HL : Hid (zs.length = n) := hx.len
  obtain ⟨i0, hi, hz0, hz1, hz2⟩ := info_parts info_byte
  obtain ⟨w0, hmk, ho1, hg0⟩ := run_make_own (P := Try.prog) w w.heap.size 22 5 i0 (.int .u8 0) 1 Try.underlying22 hi hz0 hz1 .i64 .i64 n (by rw [hz2]; omega) (by unfold maxLen; omega) (Nat.le_refl _)
  have hb1 : Below w.heap.size w w0 := (Below.refl _ _).grown hg0 (Nat.le_refl _) (fun j hj => by cases hj)
  go_enter Try.func8, Try.ntmps8
  go_wp2
  go_loopw [3, 4] (fun v i wr => ∃ k : Nat, k ≤ n ∧ i = .int .i64 k ∧ wr.ownsRow w.heap.size 5 1 v k ((zs.map (Value.int .u8)).take k) ∧ Below w.heap.size w wr) (fun _ i _ => n - (intOf i).toNat)
  case atStart => exact ⟨0, Nat.zero_le _, rfl, ho1, hb1⟩
  case round =>
    clear ho1 hb1 hg0
    obtain ⟨k, hk, rfl, hown, hbel⟩ := hrel
    by_cases hlt : k < n
    · obtain ⟨b, o, rfl, hb, hc⟩ := hx.cells (by omega)
      have c1 := (hbel.cell (p := ⟨b, o + k, none⟩) hb).trans (hc k hlt)
      obtain ⟨Z, hZ⟩ : ∃ Z, zs.getD k 0 = Z := ⟨_, rfl⟩
      rw [hZ] at c1
      have HZ : Hid (zs.getD k 0 = Z) := hZ
      have hsz := hbel.size
      have i1 : (0 : Int) ≤ (k : Int) := by omega
      have i2 : (k : Int) < (n : Int) := by omega
      clear hZ hc hx
      go_wp2_with (at_builtin; refine wpList_append_own _ rfl _ _ 22 rfl w.heap.size 5 i0 (.int .u8 0) 1 1 Try.underlying22 hi hz0 hz1 hz2 rfl (by decide) _ _ _ rfl (hown.alloc _) ⟨wr.heap.size, 0, none⟩ 1 1 [.int .u8 Z] rfl rfl ?c1 ?c2 ?c3 ?c4 ?c5 ?_)
      case c1 => exact one_new _ _ _
      case c2 => intro u hu; simp at hu; subst hu; rfl
      case c3 => unfold maxLen; omega
      case c4 => omega
      case c5 => simp; omega
      · intro v' w1 hown' hgrow _
        have R := step_own hbel hown (by have := HL.out; omega) HZ.out hown' hgrow
        clear hown' hgrow hown hbel c1
        go_wp2
        go_roundw
        case rel => exact ⟨k + 1, by omega, by go_num, R.1, R.2⟩
        case measure => simp [intOf] <;> omega
    · obtain rfl : k = n := by omega
      have HO : Hid (wr.ownsRow w.heap.size 5 1 u3 k ((zs.map (Value.int .u8)).take k)) := hown
      have HB : Hid (Below w.heap.size w wr) := hbel
      clear hown hbel hx
      go_wp2
      go_ret
      refine ⟨_, rfl, ?_, HB.out⟩
      have h := HO.out
      rwa [List.take_of_length_le (by have := HL.out; simp; omega)] at h
/-- A byte more. -/
theorem own_more {w wr w1 : World} {v v' : Value} {zs : List Int} {z : Int}
    (hb : Below w.heap.size w wr) (hown : wr.ownsRow w.heap.size 5 1 v zs.length (zs.map (Value.int .u8)))
    (hown' : w1.ownsRow w.heap.size 5 1 v' (zs.length + 1) (zs.map (Value.int .u8) ++ [.int .u8 z])) (hg : (wr.alloc (.cells #[.int .u8 z] 5)).grownBy w1 v.ownBlock) :
    w1.ownsRow w.heap.size 5 1 v' (zs ++ [z]).length ((zs ++ [z]).map (Value.int .u8)) ∧ Below w.heap.size w w1 := by
  constructor
  · rw [List.map_append, List.length_append]; exact hown'
  · exact (hb.alloc hb.size _).grown hg (by have := hb.size; simp; omega) (fun j hj => (hown.lt j hj).1)
theorem seenP_bytes {w : World} {ao : Option Addr} {n : Nat} {pss : List (List Int)} (hx : SeenP w ao n pss) : ∀ k, k ≤ n → Bytes (pss.take k).flatten := by
  intro k
  induction k with
  | zero => intro _ z hz; simp at hz
  | succ k ih =>
    intro hk
    rw [flat_succ pss k (by rw [hx.len]; omega)]
    obtain ⟨b, o, so, c, _, _, _, hs, _⟩ := hx.cells k (by omega)
    exact bytes_app (ih (by omega)) hs.bytes
/-- One list, two lists in a new row of headers. -/
theorem seenP1 (W : World) (s1 : Option Addr) (n1 c1 : Nat) (z1 : List Int) (h1 : Seen W s1 n1 z1) (l1 : n1 ≤ c1) :
    SeenP (W.alloc (.cells #[.slice s1 n1 c1] 22)) (some ⟨W.heap.size, 0, none⟩) 1 [z1] := by
  obtain rfl := h1.len
  have hb : Below W.heap.size W (W.alloc (.cells #[.slice s1 z1.length c1] 22)) := (Below.refl _ _).alloc (Nat.le_refl _) _
  have hh : (W.alloc (.cells #[.slice s1 z1.length c1] 22)).heap[W.heap.size]? = some (.cells [.slice s1 z1.length c1].toArray 22 (0, 0)) := heap_alloc_new W _
  refine ⟨rfl, fun i hi => ?_⟩
  obtain rfl : i = 0 := by omega
  exact ⟨_, 0, s1, c1, rfl, by simp, by rw [cell_of_row _ _ _ _ _ _ hh]; rfl, h1.later hb (Nat.le_refl _), l1⟩
theorem seenP2 (W : World) (s1 s2 : Option Addr) (n1 n2 c1 c2 : Nat) (z1 z2 : List Int) (h1 : Seen W s1 n1 z1) (h2 : Seen W s2 n2 z2) (l1 : n1 ≤ c1) (l2 : n2 ≤ c2) :
    SeenP (W.alloc (.cells #[.slice s1 n1 c1, .slice s2 n2 c2] 22)) (some ⟨W.heap.size, 0, none⟩) 2 [z1, z2] := by
  obtain rfl := h1.len
  obtain rfl := h2.len
  have hb : Below W.heap.size W (W.alloc (.cells #[.slice s1 z1.length c1, .slice s2 z2.length c2] 22)) := (Below.refl _ _).alloc (Nat.le_refl _) _
  have hh : (W.alloc (.cells #[.slice s1 z1.length c1, .slice s2 z2.length c2] 22)).heap[W.heap.size]? = some (.cells [.slice s1 z1.length c1, .slice s2 z2.length c2].toArray 22 (0, 0)) := heap_alloc_new W _
  refine ⟨rfl, fun i hi => ?_⟩
  rcases (by omega : i = 0 ∨ i = 1) with rfl | rfl
  · exact ⟨_, 0, s1, c1, rfl, by simp, by rw [cell_of_row _ _ _ _ _ _ hh]; rfl, h1.later hb (Nat.le_refl _), l1⟩
  · exact ⟨_, 0, s2, c2, rfl, by simp, by rw [cell_of_row _ _ _ _ _ _ hh]; rfl, h2.later hb (Nat.le_refl _), l2⟩
end Go.Proofs.Ytmgkjldjeomcmaa
