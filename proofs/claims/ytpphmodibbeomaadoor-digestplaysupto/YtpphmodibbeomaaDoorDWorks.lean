/- Layer digest: works. -/
import Derived.Test.YtpphmodibbeomaaDoorDDsum
import Derived.Laws.StructEq
import Derived.Lib.SmallJoins
namespace Go.Proofs.YtpphmodibbeomaaDoor
open Go.RowKit Go.Joins
set_option linter.unusedVariables false
set_option linter.unusedSimpArgs false

theorem abc : (sha [97, 98, 99]).getD 0 0 = 186 ∧ (sha [97, 98, 99]).getD 1 0 = 120 ∧ (sha [97, 98, 99]).getD 31 0 = 173 := by decide +kernel
theorem infoByte : (Tryd.prog.info? 5).map (fun i => (i.zero, i.size)) = some (some (.int .u8 0), 1) := by kernel_rfl
/-- An array of bytes is itself. -/
theorem equal_self (d : Nat) (zs : List Int) (hl : zs.length = 32) (w : World) : (Op.equalIn (d + 2) 26 (.agg (u8s zs).toArray) (.agg (u8s zs).toArray)).run Tryd.prog w = .ok true w := by
  have hsz : ∀ w, (sizeOf 5).run Tryd.prog w = .ok 1 w := fun w => by
    have h := infoByte
    cases hq : Tryd.prog.info? 5 with
    | none => simp [hq] at h
    | some i => simp [hq] at h; simp [sizeOf, typeInfo, hq, h.2]
  have ht := Tryd.underlying26
  have he := Tryd.underlying5
  rw [Op.equalIn]
  simp only [Sem.run_bind, run_underlying ht, Result.andThen_ok, hsz, Std.Legacy.Range.forIn_eq_forIn_range', Std.Legacy.Range.size, Nat.sub_zero, Nat.add_sub_cancel, Nat.div_one]
  have hlr : ∀ i ∈ List.range' 0 32 1, i < 32 := fun i hi => by simpa using (List.mem_range'_1.1 hi).2
  generalize List.range' 0 32 1 = l at hlr ⊢
  induction l with
  | nil => simp
  | cons i l ih =>
    have hi : i < 32 := hlr i (by simp)
    have px : (part 5 (u8s zs).toArray (i * 1)).run Tryd.prog w = .ok (.int .u8 (zs.getD i 0)) w := by
      simp [part, isAgg, run_underlying he, u8s, List.getD, List.getElem?_eq_getElem (show i < zs.length by omega)]
    have pe : (Op.equalIn (d + 1) 5 (.int .u8 (zs.getD i 0)) (.int .u8 (zs.getD i 0))).run Tryd.prog w = .ok true w := by
      rw [run_equalIn_int w d 5 .u8 .u8 _ _ he]; simp
    simp only [List.forIn_cons, Sem.run_bind, px, pe, Result.andThen_ok]
    simp only [Bool.not_true, Bool.false_eq_true, if_false, Sem.run_pure, Result.andThen_ok]
    exact ih fun j hj => hlr j (by simp [hj])
theorem none_seenP (w : World) (c : Nat) : SeenP w none 0 [] := ⟨rfl, fun i hi => by omega⟩
theorem len_holds (g : Nat) (m : List Int) (w : World) (h : Holds w g m) : Calls Tryd.prog 21 #[.pointer (some ⟨g, 0, none⟩)] w fun e w' => e = .returned (.int .u64 m.length) ∧ w = w' := (len_any g _ _ _ w h.hash).mono fun _ _ ⟨a, b⟩ => ⟨a, b.symm⟩
/-- Three lists in a new row of headers. -/
theorem seenP3 (W : World) (s1 s2 s3 : Option Addr) (c1 c2 c3 : Nat) (z1 z2 z3 : List Int) (h1 : Seen W s1 z1.length z1) (h2 : Seen W s2 z2.length z2) (h3 : Seen W s3 z3.length z3) (l1 : z1.length ≤ c1) (l2 : z2.length ≤ c2) (l3 : z3.length ≤ c3) :
    SeenP (W.alloc (.cells #[.slice s1 z1.length c1, .slice s2 z2.length c2, .slice s3 z3.length c3] 29)) (some ⟨W.heap.size, 0, none⟩) 3 [z1, z2, z3] := by
  have hb : Below W.heap.size W (W.alloc (.cells #[.slice s1 z1.length c1, .slice s2 z2.length c2, .slice s3 z3.length c3] 29)) := (Below.refl _ _).alloc (Nat.le_refl _) _
  have hh : (W.alloc (.cells #[.slice s1 z1.length c1, .slice s2 z2.length c2, .slice s3 z3.length c3] 29)).heap[W.heap.size]? = some (.cells [.slice s1 z1.length c1, .slice s2 z2.length c2, .slice s3 z3.length c3].toArray 29 (0, 0)) := heap_alloc_new W _
  refine ⟨rfl, fun i hi => ?_⟩
  rcases (by omega : i = 0 ∨ i = 1 ∨ i = 2) with rfl | rfl | rfl
  · exact ⟨_, 0, s1, c1, rfl, by simp, by rw [cell_of_row _ _ _ _ _ _ hh]; rfl, h1.later hb (Nat.le_refl _), l1⟩
  · exact ⟨_, 0, s2, c2, rfl, by simp, by rw [cell_of_row _ _ _ _ _ _ hh]; rfl, h2.later hb (Nat.le_refl _), l2⟩
  · exact ⟨_, 0, s3, c3, rfl, by simp, by rw [cell_of_row _ _ _ _ _ _ hh]; rfl, h3.later hb (Nat.le_refl _), l3⟩
theorem seen_lit (W : World) (zs : List Int) (fr : Nat × Nat) (hb : Bytes zs) (ht : zs.length ≤ 1000) : Seen (W.alloc (.cells (zs.map (Value.int .u8)).toArray 5 fr)) (some ⟨W.heap.size, 0, none⟩) zs.length zs :=
  ⟨rfl, by omega, hb, fun _ => ⟨W.heap.size, 0, rfl, by simp, fun i hi => by
    rw [Nat.zero_add, World.cell?_alloc_mark]
    simp [hi, List.getD]⟩⟩
theorem works_seen (w : World) : SeenP (((w.alloc (.cells #[.int .u8 97] 5 (1, 2))).alloc (.cells #[.int .u8 98, .int .u8 99] 5 (2, 3))).alloc (.cells #[.slice (some ⟨w.heap.size, 0, none⟩) 1 1, .slice none 0 0, .slice (some ⟨w.heap.size + 1, 0, none⟩) 2 2] 29)) (some ⟨w.heap.size + 1 + 1, 0, none⟩) 3 [[97], [], [98, 99]] := by
  have h1 := seen_lit w [97] (1, 2) (by intro z hz; simp at hz; omega) (by decide)
  have h3 := seen_lit (w.alloc (.cells #[.int .u8 97] 5 (1, 2))) [98, 99] (2, 3) (by intro z hz; simp at hz; omega) (by decide)
  have e1 : (w.alloc (.cells #[.int .u8 97] 5 (1, 2))).heap.size = w.heap.size + 1 := by simp
  have e2 : ((w.alloc (.cells #[.int .u8 97] 5 (1, 2))).alloc (.cells #[.int .u8 98, .int .u8 99] 5 (2, 3))).heap.size = w.heap.size + 1 + 1 := by simp
  have hb : Below (w.heap.size + 1) (w.alloc (.cells #[.int .u8 97] 5 (1, 2))) ((w.alloc (.cells #[.int .u8 97] 5 (1, 2))).alloc (.cells #[.int .u8 98, .int .u8 99] 5 (2, 3))) := (Below.refl _ _).alloc (by simp) _
  have := seenP3 ((w.alloc (.cells #[.int .u8 97] 5 (1, 2))).alloc (.cells #[.int .u8 98, .int .u8 99] 5 (2, 3))) (some ⟨w.heap.size, 0, none⟩) none (some ⟨w.heap.size + 1, 0, none⟩) 1 0 2 [97] [] [98, 99] (h1.later hb (by simp)) (Seen.empty _ _) (by rw [e1] at h3; exact h3) (by decide) (by decide) (by decide)
  rw [e2] at this
  exact this
set_option maxRecDepth 20000 in
set_option maxHeartbeats 1000000 in
theorem works_any (w : World) (hK : KTab w) : Calls Tryd.prog 7 #[] w fun e w' => e = .returned (.bool true) ∧ Below w.heap.size w w' := by
  have HK : Hid (KTab w) := hK
  have q0 := hK.lt
  clear hK
  have hc1 := run_convert_bytes_const_at (P := Tryd.prog) w 29 5 #[.int .u8 97] 1 1 w.heap.size rfl Tryd.underlying29 Tryd.underlying5
  have hc2 := run_convert_bytes_const_at (P := Tryd.prog) (w.alloc (.cells #[.int .u8 97] 5 (1, 2))) 29 5 #[.int .u8 98, .int .u8 99] 2 2 (w.heap.size + 1) (by simp) Tryd.underlying29 Tryd.underlying5
  have heq : ∀ wx, (Op.equalIn 10000 26 (.agg (u8s (sha [])).toArray) (.agg (u8s (sha [])).toArray)).run Tryd.prog wx = .ok true wx := equal_self 9998 (sha []) (sha_length _)
  go_enter Tryd.func7, Tryd.ntmps7
  go_wp2_with fail
  have W1 : Hid (SeenP _ _ 3 [[97], [], [98, 99]]) := works_seen w
  obtain ⟨wb, hwb, BB⟩ : ∃ wb, ((w.alloc (.cells #[.int .u8 97] 5 (1, 2))).alloc (.cells #[.int .u8 98, .int .u8 99] 5 (2, 3))).alloc (.cells #[.slice (some ⟨w.heap.size, 0, none⟩) 1 1, .slice none 0 0, .slice (some ⟨w.heap.size + 1, 0, none⟩) 2 2] 29) = wb ∧ Hid (Below w.heap.size w wb) := ⟨_, rfl, (((Below.refl _ _).alloc (Nat.le_refl _) _).alloc (by simp) _).alloc (by simp; omega) _⟩
  rw [hwb] at W1 ⊢
  clear hwb
  refine (dsum_any _ 3 3 [[97], [], [98, 99]] wb W1.out (by decide) (by decide) (HK.out.below BB.out q0)).mono ?_
  rintro e w1 ⟨rfl, l1⟩
  rw [show ([[97], [], [98, 99]] : List (List Int)).flatten = [97, 98, 99] from rfl]
  go_wp2_with (first | (refine wpList_alloc_new rfl 26 rfl 32 _ zeroAH ?_; intro w2 b2 s2 l2) | (refine wpList_store_blk rfl 26 26 _ _ rfl _ rfl _ (u8s (sha [97, 98, 99])) rfl b2 (by rw [u8s_length, sha_length, u8s_length, zer_length]) (by rw [u8s_length, sha_length]; exact sizeAH) (u8s_one _) ?_; intro w3 b3 s3 k3) | (go_at_call 14; refine (new_holds _).mono ?_; rintro e w4 ⟨g, rfl, hg, h4, l4⟩; have G4 : Hid (Below w.heap.size w w4) := below_chain (below_kept (below_chain (below_chain BB.out l1 BB.out.size) l2 (by have := BB.out.size; have := l1.size; omega)) k3 (by have := BB.out.size; have := l1.size; omega) (fun j hj => by have := BB.out.size; have := l1.size; omega)) l4 (by have := BB.out.size; have := l1.size; omega); have d0 := u8s_cell (b3.later l4 (by omega)) 0 (by rw [sha_length]; decide); have d1 := u8s_cell (b3.later l4 (by omega)) 1 (by rw [sha_length]; decide); have d31 := u8s_cell (b3.later l4 (by omega)) 31 (by rw [sha_length]; decide); rw [abc.1] at d0; rw [abc.2.1] at d1; rw [abc.2.2] at d31) | (go_at_call 20; refine (sum_holds g [] _ h4 (HK.out.below G4.out q0)).mono ?_; rintro e w5 ⟨rfl, l5⟩; have G5 : Hid (Below w.heap.size w w5 ∧ Holds w5 g []) := ⟨below_chain G4.out l5 G4.out.size, h4.later l5 h4.lt⟩) | (go_at_call 9; refine (dsum_any none 0 0 [] _ (none_seenP _ 0) (by decide) (by decide) (HK.out.below G5.out.1 q0)).mono ?_; rintro e w6 ⟨rfl, l6⟩; have G6 : Hid (Below w.heap.size w w6 ∧ Holds w6 g []) := ⟨below_chain G5.out.1 l6 G5.out.1.size, G5.out.2.later l6 G5.out.2.lt⟩) | (go_at_call 21; refine (len_holds g [] _ G6.out.2).mono ?_; rintro e w7 ⟨rfl, rfl⟩))
  go_ret
  exact ⟨rfl, G6.out.1⟩
end Go.Proofs.YtpphmodibbeomaaDoor
