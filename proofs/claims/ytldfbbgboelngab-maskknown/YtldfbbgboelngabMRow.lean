/- The program's Row: every list is gone through, one is taken. -/
import Derived.Test.YtldfbbgboelngabNested
namespace Go.Proofs.Ytldfbbgboelngab
open Go.RowKit
set_option linter.unusedVariables false
set_option linter.unusedSimpArgs false
attribute [local go_sem ↓] Go.wp_at_zero Go.wp_at_succ

set_option maxHeartbeats 1000000 in
theorem alike_any (ao : Option Addr) (n c : Nat) (zss : List (List Int)) (w : World) (hx : SeenL w ao n zss) :
    Calls Try.prog 51 #[.slice ao n c] w fun e w' => e = .returned (.bool (decide (∀ i, i < n → lenAt zss i = lenAt zss 0))) ∧ w' = w := by
  have t1 := hx.top
  go_enter Try.func51, Try.ntmps51
  go_wp2
  go_loop [4, 7] (fun _ i => ∃ k : Nat, k ≤ n ∧ i = .int .i64 k ∧ (∀ j, j < k → lenAt zss j = lenAt zss 0)) (fun _ i => n - (intOf i).toNat)
  case atStart => exact ⟨0, Nat.zero_le _, rfl, fun j h => by omega⟩
  case round =>
    obtain ⟨k, hk, rfl, hall⟩ := hrel
    by_cases hlt : k < n
    · obtain ⟨b, o, so, cs, rfl, hb, hc, hs⟩ := hx.cells k hlt
      obtain ⟨b', o', so', cs', e', hb', hc', hs'⟩ := hx.cells 0 (by omega)
      simp only [Option.some.injEq, Addr.mk.injEq, and_true] at e'
      obtain ⟨rfl, rfl⟩ := e'
      rw [Nat.add_zero] at hc'
      have tL := hs.top
      have tL0 := hs'.top
      have HW : Hid (∀ j, j < k → lenAt zss j = lenAt zss 0) := hall
      obtain ⟨L, hL⟩ : ∃ L, lenAt zss k = L := ⟨_, rfl⟩
      obtain ⟨L0, hL0⟩ : ∃ L0, lenAt zss 0 = L0 := ⟨_, rfl⟩
      have HL : Hid (lenAt zss k = L ∧ lenAt zss 0 = L0) := ⟨hL, hL0⟩
      rw [hL] at hc tL
      rw [hL0] at hc' tL0
      have i1 : (0 : Int) ≤ (k : Int) := by omega
      have i2 : (k : Int) < (n : Int) := by omega
      have i3 : (0 : Int) < (n : Int) := by omega
      clear hall hs hs' hL hL0 hb hb'
      by_cases e : L = L0
      · have hd : ((L : Int) != (L0 : Int)) = false := by simp [e]
        have HE : Hid (L = L0) := e
        clear e
        go_wp2
        go_round
        case rel =>
          refine ⟨k + 1, by omega, by go_num, fun j hj => ?_⟩
          by_cases h : j < k
          · exact HW.out j h
          · have : j = k := by omega
            rw [this, HL.out.1, HL.out.2]; exact HE.out
        case measure => simp [intOf]; omega
      · have hd : ((L : Int) != (L0 : Int)) = true := by simp; omega
        have HR : Hid (decide (∀ i, i < n → lenAt zss i = lenAt zss 0) = false) := by
          show _ = _
          apply decide_eq_false
          intro h
          have := h k hlt
          rw [HL.out.1, HL.out.2] at this
          exact e this
        clear e
        go_wp2
        go_ret
        exact ⟨ret_bool HR.out.symm, rfl⟩
    · have HR : Hid (decide (∀ i, i < n → lenAt zss i = lenAt zss 0) = true) := by
        show _ = _
        exact decide_eq_true (fun i hi => hall i (by omega))
      clear hall
      go_wp2
      go_ret
      exact ⟨ret_bool HR.out.symm, rfl⟩
theorem alike_to (p : Bool) (ao : Option Addr) (n c : Nat) (zss : List (List Int)) (w : World) (hx : SeenL w ao n zss) (hp : decide (∀ i, i < n → lenAt zss i = lenAt zss 0) = p) :
    Calls Try.prog 51 #[.slice ao n c] w fun e w' => e = .returned (.bool p) ∧ w' = w :=
  (alike_any ao n c zss w hx).mono fun e w' ⟨he, hw⟩ => ⟨by rw [he, hp], hw⟩

theorem list_ext {n : Nat} {xs zs : List Int} (hx : xs.length = n) (hz : zs.length = n) (h : ∀ i, i < n → xs.getD i 0 = zs.getD i 0) : xs = zs := by
  apply List.ext_getElem (by omega)
  intro i h1 h2
  have := h i (by omega)
  simpa [List.getD, h1, h2] using this
theorem mix_mk (p : Bool) (n : Nat) (xs ys : List Int) (hx : xs.length = n) (hy : ys.length = n) (bx : Bytes xs) (bY : Bytes ys) : mix (mk p) n xs ys = bif p then ys else xs := by
  cases p
  · refine list_ext (n := n) (by rw [mix_length, hx]) hx (fun i hi => ?_)
    rw [mix_getD _ _ _ _ _ (by omega), if_pos hi, mk_false]
    exact pk_zero _ _ (bx.at i (by omega)).1
  · refine list_ext (n := n) (by rw [mix_length, hx]) hy (fun i hi => ?_)
    rw [mix_getD _ _ _ _ _ (by omega), if_pos hi, mk_true]
    have h1 := bx.at i (by omega)
    have h2 := bY.at i (by omega)
    exact pk_ones _ _ ⟨by omega, by omega⟩ ⟨by omega, by omega⟩
theorem copy_seen (p : Bool) (g L cg cs : Nat) (so : Option Addr) (xs ys X : List Int) (w : World) (hx : xs.length = L) (bx : Bytes xs) (hg : RowAt w g xs) (hs : Seen w so L ys) (hne : ∀ b o, 0 < L → so = some ⟨b, o, none⟩ → b ≠ g) (hX : (bif p then ys else xs) = X) :
    Calls Try.prog 16 #[.int .u64 (mk p), .slice (some ⟨g, 0, none⟩) L cg, .slice so L cs] w fun e w' => e = .returned (.int .i64 0) ∧ RowAt w' g X ∧ Kept (fun k => k = g) w w' := by
  have hM : mix (mk p) L xs ys = X := by rw [mix_mk p L xs ys hx hs.len bx hs.bytes, hX]
  by_cases h : 0 < L
  · obtain ⟨b, o, rfl, hb, hc⟩ := hs.cells h
    refine (copy_any (mk p) (mk_bd p) g b o L cg cs xs ys (hne b o h rfl) (by omega) (by have := hs.len; omega) bx hs.bytes (by have := hs.top; unfold maxLen; omega) w hg hb hc).mono ?_
    rintro e w' ⟨he, hr, hk⟩
    exact ⟨he, by rw [← hM]; exact hr, hk⟩
  · have e : L = 0 := by omega
    subst e
    refine (copy_none (mk p) _ so cg cs w).mono ?_
    rintro e w' ⟨he, rfl⟩
    refine ⟨he, ?_, Kept.refl _ _⟩
    rw [← hM, mix_zero]; exact hg

/-- A new list as it is answered: len long, of no more room. -/
structure Fresh (base : Nat) (w : World) (vo : Option Addr) (zs : List Int) : Prop where
  nil : vo = none → zs = []
  row : 0 < zs.length → ∃ g, vo = some ⟨g, 0, none⟩ ∧ base ≤ g ∧ RowAt w g zs
  bytes : Bytes zs
  top : zs.length ≤ 140737488355328
theorem Fresh.seen {base : Nat} {w : World} {vo : Option Addr} {zs : List Int} (h : Fresh base w vo zs) : Seen w vo zs.length zs :=
  ⟨rfl, h.top, h.bytes, fun hn => by
    obtain ⟨g, e, _, hr⟩ := h.row hn
    exact ⟨g, 0, e, hr.lt, fun i hi => by rw [Nat.zero_add]; exact hr.cell i hi⟩⟩
theorem Fresh.later {base : Nat} {w w' : World} {vo : Option Addr} {zs : List Int} (h : Fresh base w vo zs) {B : Nat} (hb : Below B w w') (hB : w.heap.size ≤ B) : Fresh base w' vo zs :=
  ⟨h.nil, fun hn => by obtain ⟨g, e, hg, hr⟩ := h.row hn; exact ⟨g, e, hg, hr.later hb hB⟩, h.bytes, h.top⟩

def stage (zss : List (List Int)) (A L k : Nat) : List Int := if A < k then zss.getD A [] else List.replicate L 0
theorem stage_length (zss : List (List Int)) (A L k : Nat) (h : lenAt zss A = L) : (stage zss A L k).length = L := by
  unfold stage; split
  · exact h
  · simp
theorem stage_bytes (zss : List (List Int)) (A L k : Nat) (h : Bytes (zss.getD A [])) : Bytes (stage zss A L k) := by
  unfold stage; split
  · exact h
  · intro z hz; have := List.eq_of_mem_replicate hz; subst this; decide
theorem stage_succ (zss : List (List Int)) (A L k : Nat) : (bif ((k : Int) == (A : Int)) then zss.getD k [] else stage zss A L k) = stage zss A L (k + 1) := by
  unfold stage
  by_cases h : k = A
  · subst h; simp
  · have h1 : ((k : Int) == (A : Int)) = false := by simp; omega
    have h2 : (A < k + 1) ↔ (A < k) := by omega
    simp [h1, h2]

set_option maxHeartbeats 2000000 in
theorem mrow_any (ao : Option Addr) (n c : Nat) (zss : List (List Int)) (a : Int) (ha : -9223372036854775808 ≤ a ∧ a ≤ 9223372036854775807) (w : World) (hx : SeenL w ao n zss) :
    Calls Try.prog 22 #[.slice ao n c, .int .i64 a] w fun e w' => ∃ vo, e = .returned (.tuple #[.slice vo (rowOf zss a).1.length (rowOf zss a).1.length, .int .i64 (rowOf zss a).2]) ∧ Fresh w.heap.size w' vo (rowOf zss a).1 ∧ Below w.heap.size w w' := by
  have t1 := hx.top
  have F0 : ∀ W : World, Hid (Fresh w.heap.size W none []) := fun W => ⟨fun _ => rfl, fun h => by simp at h, fun z hz => (by cases hz), (by decide)⟩
  by_cases hA : a < 0 ∨ (zss.length : Int) ≤ a
  · rw [rowOf_arg hA, hx.len] at *
    by_cases h0 : a < 0
    · go_enter Try.func22, Try.ntmps22
      go_wp2
      go_ret2
      exact ⟨none, rfl, (F0 _).out, Below.refl _ _⟩
    · have h1 : (n : Int) ≤ a := by omega
      clear hA
      go_enter Try.func22, Try.ntmps22
      go_wp2
      go_ret2
      exact ⟨none, rfl, (F0 _).out, Below.refl _ _⟩
  · have hn : zss.length = n := hx.len
    have HA : Hid (¬ (a < 0 ∨ (zss.length : Int) ≤ a)) := hA
    obtain ⟨A, rfl⟩ := Int.eq_ofNat_of_zero_le (show 0 ≤ a by omega)
    have hA1 : A < n := by omega
    clear hA ha
    by_cases hall : ∀ i, i < n → lenAt zss i = lenAt zss 0
    · have HW : Hid (∀ i, i < n → lenAt zss i = lenAt zss 0) := hall
      have HR : Hid (rowOf zss A = (zss.getD A [], 0)) := by
        have := rowOf_ok HA.out (fun i hi => hall i (by omega))
        rwa [Int.toNat_natCast] at this
      have hp : decide (∀ i, i < n → lenAt zss i = lenAt zss 0) = true := decide_eq_true hall
      have HP : Hid _ := hp
      obtain ⟨b, o, so, cs, rfl, hb, hc, hs⟩ := hx.cells 0 (by omega)
      have tL := hs.top
      obtain ⟨bA, oA, soA, csA, y1, y2, y3, hsA⟩ := hx.cells A hA1
      clear y1 y2 y3
      obtain ⟨L, hL⟩ : ∃ L, lenAt zss 0 = L := ⟨_, rfl⟩
      rw [hL] at hc tL
      rw [Nat.add_zero] at hc
      have HL : Hid (lenAt zss 0 = L) := hL
      have HLA : Hid (lenAt zss A = L) := by show _ = _; rw [← hL]; exact hall A hA1
      have HBA : Hid (Bytes (zss.getD A [])) := hsA.bytes
      obtain ⟨i0, hi, hz0, hz1, hz2⟩ := info_parts info_byte
      have i1 : (0 : Int) ≤ (A : Int) := by omega
      have i2 : (A : Int) < (n : Int) := by omega
      have i3 : (0 : Int) < (n : Int) := by omega
      clear hall hp hL hs hsA
      have hby : i0.bytes * L ≤ 281474976710656 := by rw [hz2]; omega
      have hmx : L ≤ maxLen := by unfold maxLen; omega
      go_enter Try.func22, Try.ntmps22
      go_wp2_with fail
      refine (alike_to true _ n c zss w hx HP.out).mono ?_
      rintro e w ⟨rfl, rfl⟩
      go_wp2_with (at_make; refine wpList_make_full _ rfl _ _ 23 rfl w.heap.size 5 i0 (.int .u8 0) 1 Try.underlying23 hi hz0 hz1 .i64 .i64 _ _ L (by rfl) (by rfl) (by rfl) (by rfl) hby hmx (Nat.le_refl _) ?_; intro w1 hown1 hgrow1)
      have hown2 : w1.ownsRow w.heap.size 5 1 (.slice (some ⟨w.heap.size, 0, none⟩) L L) L ((List.replicate L (0 : Int)).map (Value.int .u8)) := by
        have h := hown1
        rw [show (Value.int .u8 0).cells = #[Value.int .u8 0] from rfl, Nat.mul_one, toList_madeCells_one] at h
        rw [List.map_replicate]; exact h
      have r1 := (RowAt.of_own hown2).1
      have hB1 : Below w.heap.size w w1 := (Below.refl _ _).grown hgrow1 (Nat.le_refl _) (fun k hk => by cases hk)
      obtain ⟨g, hg⟩ : ∃ g, w.heap.size = g := ⟨_, rfl⟩
      rw [hg] at r1
      simp only [hg]
      have HG : Hid (w.heap.size = g) := hg
      clear hown1 hgrow1 hown2 hg
      go_loopw [7, 26] (fun _ i wr => ∃ k : Nat, k ≤ n ∧ i = .int .i64 k ∧ RowAt wr g (stage zss A L k) ∧ Below w.heap.size w wr) (fun _ i _ => n - (intOf i).toNat)
      case atStart => exact ⟨0, Nat.zero_le _, rfl, by unfold stage; rw [if_neg (by omega)]; exact r1, hB1⟩
      case round =>
        clear r1 hB1 hc
        obtain ⟨k, hk, rfl, hr, hbel⟩ := hrel
        by_cases hlt : k < n
        · obtain ⟨b2, o2, so2, cs2, e2, hb2, hc2, hs2⟩ := hx.cells k hlt
          simp only [Option.some.injEq, Addr.mk.injEq, and_true] at e2
          obtain ⟨rfl, rfl⟩ := e2
          have c1 := (hbel.cell (p := ⟨b, o + k, none⟩) hb).trans hc2
          have s1 := hs2.later hbel (Nat.le_refl _)
          have hne : ∀ b o, 0 < L → so2 = some ⟨b, o, none⟩ → b ≠ g := by
            intro b' o' h0 e'
            have := hs2.old (Nat.le_refl _) b' o' (by rw [HW.out k hlt, HL.out]; exact h0) e'
            have := HG.out
            omega
          have eL : lenAt zss k = L := by rw [HW.out k hlt]; exact HL.out
          rw [eL] at c1 s1
          have hsz := hbel.size
          have i4 : (0 : Int) ≤ (k : Int) := by omega
          have i5 : (k : Int) < (n : Int) := by omega
          have v1 : IntKind.u64.wrap (k : Int) = (k : Int) := by rw [IntKind.wrap_u64]; omega
          have v2 : IntKind.u64.wrap (A : Int) = (A : Int) := by rw [IntKind.wrap_u64]; omega
          have wk : Word (k : Int) := ⟨by omega, by omega⟩
          have wA : Word (A : Int) := ⟨by omega, by omega⟩
          have Z1 : Hid ((stage zss A L k).length = L ∧ Bytes (stage zss A L k)) := ⟨stage_length zss A L k HLA.out, stage_bytes zss A L k HBA.out⟩
          have nb : b ≠ g := by have := HG.out; omega
          have lb : b < wr.heap.size := by omega
          have HB : Hid _ := hbel
          have HH : Hid (RowAt wr.drew g (stage zss A L k) ∧ Seen wr.drew so2 L (zss.getD k [])) := ⟨hr.drew, s1.drew⟩
          have HN : Hid _ := hne
          clear hc2 hs2 hne eL hr s1 hbel
          go_wp2
          go_region_held3 (fun w' => w'.cell? ⟨b, o + k, none⟩ = some (.slice so2 L cs2)) (first | (go_keep; done) | (exact (kp.cell (p := ⟨b, o + k, none⟩) lb nb).trans c1)) (first | (go_at_call 7; with_reducible refine (equal_any _ _ wk wA _).mono ?_; rintro e _ ⟨rfl, rfl⟩) | (go_at_call 16; with_reducible refine (copy_seen ((k : Int) == (A : Int)) g L L cs2 so2 (stage zss A L k) (zss.getD k []) (stage zss A L (k + 1)) _ Z1.out.1 Z1.out.2 HH.out.1 HH.out.2 HN.out (stage_succ zss A L k)).mono ?_; rintro e w4 ⟨rfl, r4, kp⟩))
          have hb4 : Below w.heap.size w w4 := HB.out.trans (Kept.below (a := wr) ⟨kp.os, kp.tape, kp.output, kp.size, kp.block⟩ hsz (fun j hj => by have := HG.out; omega))
          clear kp c1
          go_wp2
          go_roundw
          case rel => exact ⟨k + 1, by omega, by go_num, r4, hb4⟩
          case measure => simp [intOf]; omega
        · have e : k = n := by omega
          subst e
          have HF : Hid (stage zss A L k = zss.getD A []) := by show _ = _; unfold stage; rw [if_pos hA1]
          have HH : Hid _ := hr
          have HB : Hid _ := hbel
          clear hr hbel
          go_wp2
          go_ret2
          rw [HR.out]
          refine ⟨some ⟨g, 0, none⟩, ?_, ⟨fun h => (by cases h), fun _ => ⟨g, rfl, Nat.le_of_eq HG.out, (by have := HH.out; rw [HF.out] at this; exact this)⟩, HBA.out, (by have h9 : (zss.getD A []).length = L := HLA.out; show (zss.getD A []).length ≤ _; omega)⟩, HB.out⟩
          have e : (zss.getD A []).length = L := HLA.out
          simp only [e]
          rfl
    · have hp : decide (∀ i, i < n → lenAt zss i = lenAt zss 0) = false := decide_eq_false hall
      have HR : Hid (rowOf zss A = ([], 4)) := by
        show _ = _
        unfold rowOf
        rw [if_neg HA.out, if_neg (by rw [hn]; exact hall)]
      have HP : Hid _ := hp
      clear hall hp
      go_enter Try.func22, Try.ntmps22
      go_wp2_with fail
      refine (alike_to false ao n c zss w hx HP.out).mono ?_
      rintro e w ⟨rfl, rfl⟩
      go_wp2
      go_ret2
      rw [HR.out]
      exact ⟨none, rfl, (F0 _).out, Below.refl _ _⟩
end Go.Proofs.Ytldfbbgboelngab
