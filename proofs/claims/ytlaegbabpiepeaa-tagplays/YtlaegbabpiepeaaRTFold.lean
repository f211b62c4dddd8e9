/- The document's fold, by value. -/
import Derived.Test.YtlaegbabpiepeaaRTPart2
namespace Go.Proofs.Ytlaegbabpiepeaa
open Go.RowKit
set_option linter.unusedVariables false
set_option linter.unusedSimpArgs false

/-- The numbers of a slice, read. -/
def rdN (w : World) : Value → List Int
  | .slice (some a) n _ => (List.range n).map fun i => match w.cell? (a.add i) with
    | some (.int _ z) => z
    | _ => 0
  | _ => []
theorem rdN_is {w : World} {ao : Option Addr} {n c : Nat} {zs : List Int} (h : SeenN w ao n zs) : rdN w (.slice ao n c) = zs := by
  rcases Nat.eq_zero_or_pos n with rfl | h0
  · have e : zs = [] := List.length_eq_zero_iff.1 h.len
    subst e
    cases ao <;> rfl
  · obtain ⟨b, o, rfl, _, hc⟩ := h.cells h0
    apply List.ext_getElem
    · simp [rdN, h.len]
    · intro i h1 h2
      have hi : i < n := by rw [← h.len]; exact h2
      simp only [rdN, List.getElem_map, List.getElem_range]
      rw [show (⟨b, o, none⟩ : Addr).add i = ⟨b, o + i, none⟩ from Addr.add_mid b o i, hc i hi]
      simp [List.getD, h2]
theorem five_new (w : World) : SeenN (w.alloc (.cells #[.int .i64 5] 3)) (some ⟨w.heap.size, 0, none⟩) 1 [5] := by
  have h : RowN (w.alloc (.cells #[.int .i64 5] 3)) w.heap.size 1 [5] := ⟨[], heap_alloc_new w _, rfl⟩
  exact h.seen (by decide) (fun d hd => by simp at hd; subst hd; decide)
theorem b5n : Bytes [5] := fun z hz => by simp at hz; subst hz; decide
theorem le5 : le [5] = 5 := rfl
set_option maxHeartbeats 4000000 in
set_option maxRecDepth 20000 in
theorem fold_any (ao : Option Addr) (n c : Nat) (ds : List Int) (w : World) (hx : SeenN w ao n ds) (hb : Bytes ds) (hn : n ≤ 90) :
    Calls Try.prog 24 #[.slice ao n c] w fun e w' => ∃ v, e = .returned v ∧ ∃ es, isN es v w' ∧ Bytes es ∧ le es = le ds % prime ∧ es.length ≤ 17 ∧ Below w.heap.size w w' := by
  have HX : Hid (SeenN w ao n ds ∧ Bytes ds ∧ ds.length = n) := ⟨hx, hb, hx.len⟩
  clear hx hb
  go_enter Try.func24, Try.ntmps24
  go_wp2_with fail
  refine (part_high ao n c ds w HX.out.1 HX.out.2.1).mono ?_
  rintro e w1 ⟨v, rfl, hv, l1⟩
  have H1 : Hid (isN (highL (ds.drop 16)) v w1 ∧ Below w.heap.size w w1 ∧ SeenN w1 ao n ds) := ⟨hv, l1, HX.out.1.later l1 (Nat.le_refl _)⟩
  clear hv l1
  go_wp2_with fail
  go_loopw [0, 3] (fun v0 v3 wr => ∃ (es : List Int) (a0 a3 : Option Addr) (n0 c0 n3 c3 : Nat), v0 = .slice a0 n0 c0 ∧ v3 = .slice a3 n3 c3 ∧ SeenN wr a0 n0 es ∧ SeenN wr a3 n3 (highL (es.drop 16)) ∧ Bytes es ∧ le es % prime = le ds % prime ∧ n0 ≤ 90 ∧ Below w.heap.size w wr) (fun v0 _ wr => (le (rdN wr v0)).toNat)
  case atStart =>
    obtain ⟨a3, n3, c3, rfl, s3⟩ := H1.out.1
    exact ⟨ds, ao, a3, n, c, n3, c3, rfl, rfl, H1.out.2.2, s3, HX.out.2.1, rfl, hn, H1.out.2.1⟩
  case round =>
    obtain ⟨es, a0, a3, n0, c0, n3, c3, rfl, rfl, s0, s3, hbe, hmod, hn0, hbel⟩ := hrel
    have hhb : Bytes (highL (es.drop 16)) := highL_bytes _ (bytes_drop hbe _)
    have hhl := high_le es hbe
    have hlo := lowL_le es hbe
    have hnn := le_nonneg (bytes_nn hbe)
    have hn3 : n3 = n0 - 16 := by rw [← s3.len, highL_length, List.length_drop, s0.len]
    have HR : Hid (rdN wr (.slice a0 n0 c0) = es) := rdN_is s0
    have HS : Hid (SeenN wr a0 n0 es ∧ SeenN wr a3 n3 (highL (es.drop 16)) ∧ Bytes es ∧ le es % prime = le ds % prime ∧ Below w.heap.size w wr ∧ Bytes (highL (es.drop 16)) ∧ n3 = n0 - 16) := ⟨s0, s3, hbe, hmod, hbel, hhb, hn3⟩
    obtain ⟨V, hV⟩ : ∃ V, le es = V := ⟨_, rfl⟩
    obtain ⟨U, hU⟩ : ∃ U, le (highL (es.drop 16)) = U := ⟨_, rfl⟩
    have HU : Hid (le es = V ∧ le (highL (es.drop 16)) = U ∧ le (lowL es) = V % 1361129467683753853853498429727072845824 ∧ U = V / 1361129467683753853853498429727072845824 ∧ 0 ≤ V) := ⟨hV, hU, by rw [hlo, hV], by rw [← hU, hhl, hV], by rw [← hV]; exact hnn⟩
    have hno := nought_any a3 n3 c3 _ wr s3 hhb
    rw [hU] at hno
    clear s0 s3 hbe hmod hbel hhb hhl hlo hnn hV hU hn3
    by_cases h0 : U = 0
    · rw [show decide (U = 0) = true from decide_eq_true h0] at hno
      go_wp2_with fail
      refine hno.mono ?_
      rintro e w' ⟨rfl, rfl⟩
      clear hno
      go_wp2_with fail
      have s5 := five_new wr
      have l5 : Below wr.heap.size wr (wr.alloc (.cells #[.int .i64 5] 3)) := (Below.refl _ _).alloc (Nat.le_refl _) _
      obtain ⟨w5, hw5⟩ : ∃ W, wr.alloc (.cells #[.int .i64 5] 3) = W := ⟨_, rfl⟩
      rw [hw5] at s5 l5 ⊢
      refine (add_any a0 (some ⟨wr.heap.size, 0, none⟩) n0 1 c0 1 es [5] w5 (HS.out.1.later l5 (Nat.le_refl _)) s5 HS.out.2.2.1 b5n (by omega) (by decide)).mono ?_
      rintro e w6 ⟨v6, rfl, ms, hms⟩
      obtain ⟨a6, n6, c6, rfl, s6⟩ := hms.1
      have H6 : Hid (SeenN w6 a6 n6 ms ∧ Bytes ms ∧ le ms = V + 5 ∧ Below w.heap.size w w6 ∧ SeenN w6 a0 n0 es) := by
        obtain ⟨_, h2, h3, _, _, _, h7⟩ := hms
        exact ⟨s6, h2, by rw [h3, HU.out.1, le5], below_chain (below_chain HS.out.2.2.2.2.1 l5 HS.out.2.2.2.2.1.size) h7 (Nat.le_trans HS.out.2.2.2.2.1.size l5.size), (HS.out.1.later l5 (Nat.le_refl _)).later h7 (Nat.le_refl _)⟩
      clear hms s6 s5 l5 hw5
      go_wp2_with fail
      refine (part_high a6 n6 c6 ms w6 H6.out.1 H6.out.2.1).mono ?_
      rintro e w7 ⟨v7, rfl, hv7, l7⟩
      obtain ⟨a7, n7, c7, rfl, s7⟩ := hv7
      have H7 : Hid (SeenN w7 a6 n6 ms ∧ Below w.heap.size w w7 ∧ SeenN w7 a0 n0 es) := ⟨H6.out.1.later l7 (Nat.le_refl _), below_chain H6.out.2.2.2.1 l7 H6.out.2.2.2.1.size, H6.out.2.2.2.2.later l7 (Nat.le_refl _)⟩
      have hn7 := nought_any a7 n7 c7 _ w7 s7 (highL_bytes _ (bytes_drop H6.out.2.1 _))
      rw [high_le ms H6.out.2.1, H6.out.2.2.1] at hn7
      have hV0 := HU.out.2.2.2.2
      have hV1 : V < 1361129467683753853853498429727072845824 := by have := HU.out.2.2.2.1; omega
      have hlm := last_mod V hV0 hV1
      clear l7 s7
      by_cases hbig : 1361129467683753853853498429727072845824 ≤ V + 5
      · rw [show decide ((V + 5) / 1361129467683753853853498429727072845824 = 0) = false from decide_eq_false (by omega)] at hn7
        rw [if_pos hbig] at hlm
        have HM : Hid (V % prime = (V + 5) % 1361129467683753853853498429727072845824) := hlm
        clear hlm hbig h0
        go_wp2_with fail
        refine hn7.mono ?_
        rintro e w' ⟨rfl, rfl⟩
        clear hn7
        go_wp2_with fail
        refine (part_low a6 n6 c6 ms w7 H7.out.1 H6.out.2.1).mono ?_
        rintro e w8 ⟨v8, rfl, hv8, l8⟩
        have H8 : Hid (isN (lowL ms) v8 w8 ∧ Below w.heap.size w w8) := ⟨hv8, below_chain H7.out.2.1 l8 H7.out.2.1.size⟩
        clear hv8 l8
        go_wp2_with fail
        go_ret
        exact ⟨_, rfl, lowL ms, H8.out.1, lowL_bytes _ H6.out.2.1, by rw [lowL_le _ H6.out.2.1, H6.out.2.2.1, ← HM.out, ← HS.out.2.2.2.1, HU.out.1], lowL_length _, H8.out.2⟩
      · rw [show decide ((V + 5) / 1361129467683753853853498429727072845824 = 0) = true from decide_eq_true (by omega)] at hn7
        rw [if_neg hbig] at hlm
        have HM : Hid (V % prime = V ∧ V % 1361129467683753853853498429727072845824 = V) := ⟨hlm, by omega⟩
        clear hlm hbig h0
        go_wp2_with fail
        refine hn7.mono ?_
        rintro e w' ⟨rfl, rfl⟩
        clear hn7
        go_wp2_with fail
        refine (part_low a0 n0 c0 es w7 H7.out.2.2 HS.out.2.2.1).mono ?_
        rintro e w8 ⟨v8, rfl, hv8, l8⟩
        have H8 : Hid (isN (lowL es) v8 w8 ∧ Below w.heap.size w w8) := ⟨hv8, below_chain H7.out.2.1 l8 H7.out.2.1.size⟩
        clear hv8 l8
        go_wp2_with fail
        go_ret
        exact ⟨_, rfl, lowL es, H8.out.1, lowL_bytes _ HS.out.2.2.1, by rw [HU.out.2.2.1, HM.out.2, ← HS.out.2.2.2.1, HU.out.1, HM.out.1], lowL_length _, H8.out.2⟩
    · rw [show decide (U = 0) = false from decide_eq_false h0] at hno
      have HZ : Hid (U ≠ 0) := h0
      clear h0
      go_wp2_with fail
      refine hno.mono ?_
      rintro e w' ⟨rfl, rfl⟩
      clear hno
      go_wp2_with fail
      refine (part_low a0 n0 c0 es wr HS.out.1 HS.out.2.2.1).mono ?_
      rintro e w5 ⟨v5, rfl, hv5, l5⟩
      obtain ⟨a5, n5, c5, rfl, s5⟩ := hv5
      have hn5 : n5 ≤ 17 := by rw [← s5.len]; exact lowL_length _
      have H5 : Hid (SeenN w5 a5 n5 (lowL es) ∧ Below w.heap.size w w5 ∧ SeenN w5 a3 n3 (highL (es.drop 16))) := ⟨s5, below_chain HS.out.2.2.2.2.1 l5 HS.out.2.2.2.2.1.size, HS.out.2.1.later l5 (Nat.le_refl _)⟩
      clear s5 l5
      go_wp2_with fail
      have s6 := five_new w5
      have l6 : Below w5.heap.size w5 (w5.alloc (.cells #[.int .i64 5] 3)) := (Below.refl _ _).alloc (Nat.le_refl _) _
      obtain ⟨w6, hw6⟩ : ∃ W, w5.alloc (.cells #[.int .i64 5] 3) = W := ⟨_, rfl⟩
      rw [hw6] at s6 l6 ⊢
      refine (mul_any a3 (some ⟨w5.heap.size, 0, none⟩) n3 1 c3 1 _ [5] w6 (H5.out.2.2.later l6 (Nat.le_refl _)) s6 HS.out.2.2.2.2.2.1 b5n (by have := HS.out.2.2.2.2.2.2; omega) (by decide)).mono ?_
      rintro e w7 ⟨v7, rfl, ps, hps⟩
      obtain ⟨a7, n7, c7, rfl, s7⟩ := hps.1
      have hn7 : n7 ≤ n3 + 7 := by have := hps.2.2.2.2.1; rw [s7.len] at this; omega
      have H7 : Hid (SeenN w7 a7 n7 ps ∧ Bytes ps ∧ le ps = U * 5 ∧ Below w.heap.size w w7 ∧ SeenN w7 a5 n5 (lowL es)) := by
        obtain ⟨_, h2, h3, _, _, h6⟩ := hps
        exact ⟨s7, h2, by rw [h3, HU.out.2.1, le5], below_chain (below_chain H5.out.2.1 l6 H5.out.2.1.size) h6 (Nat.le_trans H5.out.2.1.size l6.size), (H5.out.1.later l6 (Nat.le_refl _)).later h6 (Nat.le_refl _)⟩
      clear hps s7 s6 l6 hw6
      go_wp2_with fail
      refine (add_any a5 a7 n5 n7 c5 c7 (lowL es) ps w7 H7.out.2.2.2.2 H7.out.1 (lowL_bytes _ HS.out.2.2.1) H7.out.2.1 (by omega) (by have := HS.out.2.2.2.2.2.2; omega)).mono ?_
      rintro e w8 ⟨v8, rfl, qs, hqs⟩
      obtain ⟨a8, n8, c8, rfl, s8⟩ := hqs.1
      have hn8 : n8 ≤ 90 := by
        have h := hqs.2.2.2.2.2.1
        rw [s8.len] at h
        have h2 := HS.out.2.2.2.2.2.2
        have h3 : Nat.max n5 n7 ≤ 84 := Nat.max_le.2 ⟨by omega, by omega⟩
        omega
      have H8 : Hid (SeenN w8 a8 n8 qs ∧ Bytes qs ∧ le qs = V % 1361129467683753853853498429727072845824 + U * 5 ∧ Below w.heap.size w w8) := by
        obtain ⟨_, h2, h3, _, _, _, h7⟩ := hqs
        exact ⟨s8, h2, by rw [h3, HU.out.2.2.1, H7.out.2.2.1], below_chain H7.out.2.2.2.1 h7 H7.out.2.2.2.1.size⟩
      clear hqs s8
      go_wp2_with fail
      refine (part_high a8 n8 c8 qs w8 H8.out.1 H8.out.2.1).mono ?_
      rintro e w9 ⟨v9, rfl, hv9, l9⟩
      obtain ⟨a9, n9, c9, rfl, s9⟩ := hv9
      have H9 : Hid (SeenN w9 a8 n8 qs ∧ SeenN w9 a9 n9 (highL (qs.drop 16)) ∧ Below w.heap.size w w9) := ⟨H8.out.1.later l9 (Nat.le_refl _), s9, below_chain H8.out.2.2.2 l9 H8.out.2.2.2.size⟩
      clear l9 s9
      go_wp2_with fail
      have hU1 := HU.out.2.2.2.1
      have hV0 := HU.out.2.2.2.2
      have hz := HZ.out
      refine ⟨⟨qs, a8, a9, n8, c8, n9, c9, rfl, rfl, H9.out.1, H9.out.2.1, H8.out.2.1, ?_, hn8, H9.out.2.2⟩, ?_⟩
      · rw [H8.out.2.2.1, ← HS.out.2.2.2.1, HU.out.1, hU1]
        unfold prime; omega
      · show (le (rdN w9 (.slice a8 n8 c8))).toNat < (le (rdN wr (.slice a0 n0 c0))).toNat
        rw [rdN_is H9.out.1, HR.out, H8.out.2.2.1, HU.out.1]
        omega
end Go.Proofs.Ytlaegbabpiepeaa
