/- Layer slots: works: a small life whose answers the document fixes. -/
import Derived.Test.YtnagndnpamcbbaaGreatSlLog
import Derived.Test.YtnagndnpamcbbaaGreatZF
namespace Go.Proofs.YtnagndnpamcbbaaGreat
open Go.RowKit
set_option linter.unusedVariables false
set_option linter.unusedSimpArgs false

def k1 : List Int := 1 :: List.replicate 31 0
theorem k1_bytes : Bytes k1 := fun z hz => by
  simp only [k1, List.mem_cons] at hz
  rcases hz with rfl | hz
  · decide
  · rw [List.eq_of_mem_replicate hz]; decide
theorem bk1 (w : World) : (Instr.build 42 #[(0, .int .u8 1)]).run Tryz.prog w = .ok (.agg (u8s k1).toArray) w := by kernel_rfl
def cfW : Cf := ⟨k1, 3, 2, 4, 10⟩
theorem cfW_good : cfW.Good := ⟨by decide, by decide, by decide, by unfold Word; decide⟩
def slW (p : Nat) (lg : Value) : SlV := ⟨p, 1, 7, 3, 3, lg⟩
theorem slW_n (p : Nat) (lg : Value) : SlN (slW p lg) cfW := ⟨(by decide : 1 ≤ 3), (by decide : 1 ≤ 3), (by decide : 3 * 3 ≤ 10), (by decide : 7 ≤ 1000000000), fun i hi => by
  have hi : i < 7 := hi
  show 1 + i / 3 < 4
  omega⟩
theorem pgW (p : Nat) (lg : Value) : (slW p lg).first + 6 / (slW p lg).each = 3 := by simp [slW]
theorem b123 : Bytes [1, 2, 3] := fun z hz => by simp at hz; rcases hz with rfl | rfl | rfl <;> decide
theorem seen123 (w : World) : Seen (w.alloc (.cells #[.int .u8 1, .int .u8 2, .int .u8 3] 5)) (some ⟨w.heap.size, 0, none⟩) 3 [1, 2, 3] :=
  seen_blk (show Blk _ w.heap.size 5 (u8s [1, 2, 3]) from heap_alloc_new w _) b123 (by decide)
theorem recW (p : Nat) (lg : Value) : recL (setT (txt0 cfW) (slW p (.slice none 0 0)) 6 [1, 2, 3]) (slW p lg) 6 = [1, 2, 3] := by kernel_rfl
set_option maxRecDepth 20000 in
set_option maxHeartbeats 8000000 in
theorem swks_any (w : World) : Calls Tryz.prog 12 #[] w fun e w' => e = .returned (.bool true) ∧ Below w.heap.size w w' := by
  have CH : Hid (Calls Tryz.prog 16 #[.int .i64 4, .int .i64 38, .slice none 0 0] w fun e w' => ∃ h, e = .returned (.tuple #[.pointer (some ⟨h, 0, none⟩), .int .i64 0]) ∧ HostAt w' (fun k => w.heap.size ≤ k ∧ k < w'.heap.size) h (newS 4 38 []) ∧ Below w.heap.size w w') := new_good 4 38 (.slice none 0 0) [] (fun _ => False) w (FlS.nil _ _) (fun k h => h.elim) (by decide) (by decide) ⟨by decide, by decide⟩ rfl
  go_enter Tryz.func12, Tryz.ntmps12
  go_wp2_with (first | (go_at_call 16; refine CH.out.mono ?_; rintro e w1 ⟨hq, rfl, x1, l1⟩; have CP : Hid (Calls Tryz.prog 18 #[.iface 32 (.pointer (some ⟨hq, 0, none⟩)), .agg (u8s k1).toArray, .int .u64 3, .int .i64 2] w1 fun e w' => ∃ p F, e = .returned (.tuple #[.pointer (some ⟨p, 0, none⟩), .int .i64 0]) ∧ PagS w' p hq cfW [] nm0 (txt0 cfW) F ∧ Below w1.heap.size w1 w' ∧ ∀ b, F b → (fun k => w.heap.size ≤ k ∧ k < w1.heap.size) b ∨ w1.heap.size ≤ b) := pnew_S cfW hq _ w1 cfW_good rfl k1_bytes x1) | (refine wpList_build rfl 42 _ rfl #[(0, .int .u8 1)] rfl _ (bk1 _) ?_) | (go_at_call 18; refine CP.out.mono ?_; rintro e w2 ⟨p, F2, rfl, x2, l2, f2⟩; have CS : Hid (Calls Tryz.prog 14 #[.pointer (some ⟨p, 0, none⟩), .int .i64 1, .int .i64 7, .int .i64 3] w2 fun e w' => ∃ g, e = .returned (.tuple #[.pointer (some ⟨g, 0, none⟩), .int .i64 0]) ∧ SlS w' g (slW p (.slice none 0 0)) [] ∧ w2.heap.size ≤ g ∧ Below w2.heap.size w2 w') := snew_good p 1 7 3 hq cfW [] nm0 (txt0 cfW) F2 w2 x2 (by decide) (by decide) (by decide) (by decide)) | (go_at_call 14; refine CS.out.mono ?_; rintro e w3 ⟨g, rfl, y3, hg3, l3⟩; have CL : Hid (Calls Tryz.prog 23 #[.pointer (some ⟨g, 0, none⟩)] w3 fun e w' => e = .returned (.int .i64 7) ∧ w3 = w') := len_any g (slW p (.slice none 0 0)) w3 y3.blk; have CZ : Hid (Calls Tryz.prog 24 #[.pointer (some ⟨g, 0, none⟩)] w3 fun e w' => e = .returned (.int .i64 3) ∧ w3 = w') := ssize_any g (slW p (.slice none 0 0)) w3 y3.blk) | (go_at_call 23; refine CL.out.mono ?_; rintro e _ ⟨rfl, rfl⟩) | (go_at_call 24; refine CZ.out.mono ?_; rintro e _ ⟨rfl, rfl⟩))
  obtain ⟨w4, hw4⟩ : ∃ w4, w3.alloc (.cells #[.int .u8 1, .int .u8 2, .int .u8 3] 5) = w4 := ⟨_, rfl⟩
  have l4 : Below w3.heap.size w3 w4 := by rw [← hw4]; exact (Below.refl _ _).alloc (Nat.le_refl _) _
  have s4 : Seen w4 (some ⟨w3.heap.size, 0, none⟩) 3 [1, 2, 3] := by rw [← hw4]; exact seen123 w3
  have z4 : w4.heap.size = w3.heap.size + 1 := by rw [← hw4]; simp
  rw [hw4]
  clear hw4
  have hF2 := x2.all
  have x4 := (x2.later l3).later (below_chain (Below.refl _ _) l4 (Nat.le_refl _))
  have y4 := y3.later l4
  have hgl := y3.blk.lt
  have hl3 := l3.size
  have nF : ∀ b, w2.heap.size ≤ b → ¬ F2 b := fun b hb hF => by have := hF2 b hF; omega
  have hsl : ∀ b, slF g (slW p (.slice none 0 0)) b → b = g := fun b hb => by rcases hb with e | e; exact e; cases e
  have C5a := set_S g (slW p (.slice none 0 0)) [] hq cfW nm0 (txt0 cfW) F2 6 (some ⟨w3.heap.size, 0, none⟩) 3 [1, 2, 3] w4 x4 y4 (fun b hb => by rw [hsl b hb]; exact nF g hg3) (slW_n p _) (by decide : 6 < 7) (by decide) s4 (fun b o e => by cases e; exact ⟨by omega, nF _ (by omega), fun hb => by have := hsl _ hb; omega⟩) (by decide) (by decide) (by decide)
  rw [pgW] at C5a
  have C5 : Hid (Calls Tryz.prog 33 #[.pointer (some ⟨g, 0, none⟩), .int .i64 6, .slice (some ⟨w3.heap.size, 0, none⟩) 3 3] w4 fun e w' => e = .returned (.int .i64 0) ∧ ∃ F' lg, PagS w' p hq cfW ((nm0.load cfW 3).save cfW 3).ord ((nm0.load cfW 3).save cfW 3) (setT (txt0 cfW) (slW p (.slice none 0 0)) 6 [1, 2, 3]) F' ∧ SlS w' g (slW p lg) [⟨1, 6, 0⟩] ∧ (∀ b, slF g (slW p lg) b → ¬ F' b) ∧ Kept (fun b => F2 b ∨ slF g (slW p (.slice none 0 0)) b) w4 w' ∧ (∀ b, F' b ∨ slF g (slW p lg) b → F2 b ∨ slF g (slW p (.slice none 0 0)) b ∨ w4.heap.size ≤ b)) := C5a.mono (fun e w' ⟨h1, F', lg, a, b, c, d, e'⟩ => ⟨h1, F', lg, a, b, c, d, e'⟩)
  clear C5a
  have LL : Hid (Below w.heap.size w w4) := below_chain (below_chain (below_chain l1 l2 l1.size) l3 (by have := l1.size; have := l2.size; omega)) l4 (by have := l1.size; have := l2.size; omega)
  have GG : Hid (w.heap.size ≤ g ∧ (∀ b, F2 b → w.heap.size ≤ b) ∧ ∀ b, slF g (slW p (.slice none 0 0)) b → b = g) := ⟨by have := l1.size; have := l2.size; omega, fun b hb => by rcases f2 b hb with e | e; exact e.1; have := l1.size; omega, hsl⟩
  clear l4 s4 z4 hF2 x4 y4 hgl hl3 nF hsl x1 l1 x2 l2 f2 y3 hg3 l3
  go_at_call 33
  refine C5.out.mono ?_
  first | rintro e w5 rfl F5 lg x5 y5 d5 k5 n5 | rintro e w5 ⟨rfl, F5, lg, x5, y5, d5, k5, n5⟩
  have hGG := GG.out
  have L5 : Hid (Below w.heap.size w w5) := below_kept LL.out k5 LL.out.size (fun j hj he => by rcases he with e | e; have := hGG.2.1 j e; omega; have := hGG.2.2 j e; have := hGG.1; omega)
  have hN : ((nm0.load cfW 3).save cfW 3).ord.length ≤ 2 ∧ ((nm0.load cfW 3).save cfW 3).log.length < 1000000000 ∧ ((nm0.load cfW 3).save cfW 3).writes < 1000000000 := by decide
  obtain ⟨N5, hN5⟩ : ∃ N5, (nm0.load cfW 3).save cfW 3 = N5 := ⟨_, rfl⟩
  rw [hN5] at hN x5
  clear hN5
  have hRW : ∀ lg, recL (setT (txt0 cfW) (slW p (.slice none 0 0)) 6 [1, 2, 3]) (slW p lg) 6 = [1, 2, 3] := recW p
  obtain ⟨T5, hT5⟩ : ∃ T5, setT (txt0 cfW) (slW p (.slice none 0 0)) 6 [1, 2, 3] = T5 := ⟨_, rfl⟩
  rw [hT5] at hRW x5
  clear hT5
  have C6a := get_S g (slW p lg) [⟨1, 6, 0⟩] hq cfW N5 T5 F5 6 w5 x5 y5 d5 (slW_n p lg) (by decide : 6 < 7) (by decide) hN.1 hN.2.1 hN.2.2
  rw [pgW, hRW] at C6a
  have C6 : Hid (Calls Tryz.prog 37 #[.pointer (some ⟨g, 0, none⟩), .int .i64 6] w5 fun e w' => ∃ rb F' lg', e = .returned (.tuple #[.slice (some ⟨rb, 0, none⟩) 3 3, .int .i64 0]) ∧ Blk w' rb 5 (u8s [1, 2, 3]) ∧ SlS w' g (slW p lg') [⟨1, 6, 0⟩, ⟨0, 6, 0⟩] ∧ Kept (fun b => F5 b ∨ slF g (slW p lg) b) w5 w') := C6a.mono (fun e w' ⟨rb, F', lg', h1, h2, h3, h4, h5, h6, h7⟩ => ⟨rb, F', lg', h1, h2, h4, h6⟩)
  have G5 : Hid (∀ b, F5 b ∨ slF g (slW p lg) b → w.heap.size ≤ b) := fun b hb => by
    rcases n5 b hb with e | e | e
    · exact hGG.2.1 b e
    · rw [hGG.2.2 b e]; exact hGG.1
    · exact Nat.le_trans LL.out.size e
  clear C6a hRW hN x5 y5 d5 k5 n5 hGG
  go_wp2_with (go_at_call 37; refine C6.out.mono ?_; rintro e w6 ⟨rb, F6, lg6, rfl, b6, y6, k6⟩)
  have L6 : Hid (Below w.heap.size w w6) := below_kept L5.out k6 L5.out.size (fun j hj e => by have := G5.out j e; omega)
  have B6 : Hid (Blk w6 rb 5 (u8s [1, 2, 3]) ∧ SlS w6 g (slW p lg6) [⟨1, 6, 0⟩, ⟨0, 6, 0⟩]) := ⟨b6, y6⟩
  clear b6 y6 k6
  obtain ⟨w7, hw7⟩ : ∃ w7, w6.alloc (.cells #[.int .u8 1, .int .u8 2, .int .u8 3] 5) = w7 := ⟨_, rfl⟩
  have l7 : Below w6.heap.size w6 w7 := by rw [← hw7]; exact (Below.refl _ _).alloc (Nat.le_refl _) _
  have s7 : Seen w7 (some ⟨w6.heap.size, 0, none⟩) 3 [1, 2, 3] := by rw [← hw7]; exact seen123 w6
  have r7 : Seen w7 (some ⟨rb, 0, none⟩) 3 [1, 2, 3] := seen_blk (B6.out.1.later l7 B6.out.1.lt) b123 (by decide)
  rw [hw7]
  clear hw7
  have C8 : Hid (Calls Tryz.prog 38 #[.slice (some ⟨rb, 0, none⟩) 3 3, .slice (some ⟨w6.heap.size, 0, none⟩) 3 3] w7 fun e w' => e = .returned (.bool true) ∧ ∃ q, w' = w7.drewN q) := reqb_any _ _ 3 3 3 3 _ _ w7 r7 s7
  have Y7 : Hid (SlS w7 g (slW p lg6) [⟨1, 6, 0⟩, ⟨0, 6, 0⟩] ∧ Below w.heap.size w w7) := ⟨B6.out.2.later l7, below_chain L6.out l7 L6.out.size⟩
  clear l7 s7 r7
  go_at_call 38
  refine C8.out.mono ?_
  first | rintro e w8 rfl q hw8 | rintro e w8 ⟨rfl, q, hw8⟩
  have l8 : Below w7.heap.size w7 w8 := by rw [hw8]; exact below_dn (Below.refl _ _) q
  have C9 : Hid (Calls Tryz.prog 25 #[.pointer (some ⟨g, 0, none⟩)] w8 fun e w' => ∃ ao c, e = .returned (.slice ao 2 c) ∧ Below w8.heap.size w8 w') := (slog_any g (slW p lg6) [⟨1, 6, 0⟩, ⟨0, 6, 0⟩] w8 (Y7.out.1.later l8) (by decide)).mono (fun e w' ⟨ao, c, h1, _, h2⟩ => ⟨ao, c, h1, h2⟩)
  have L8 : Hid (Below w.heap.size w w8) := below_chain Y7.out.2 l8 Y7.out.2.size
  clear hw8 l8
  go_wp2_with (go_at_call 25; refine C9.out.mono ?_; rintro e w9 ⟨ao, c, rfl, l9⟩)
  go_ret
  exact ⟨rfl, below_chain L8.out l9 L8.out.size⟩
end Go.Proofs.YtnagndnpamcbbaaGreat
