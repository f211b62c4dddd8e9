/- Layer record: Parse, Put. -/
import Derived.Test.YtabdjoljdefjdaaRcMake
namespace Go.Proofs.Ytabdjoljdefjdaa
open Go.RowKit
set_option linter.unusedVariables false
set_option linter.unusedSimpArgs false

theorem isR_long {zs : List Int} (h : isR zs = true) : 26 ≤ zs.length := by
  rw [isR, Bool.and_eq_true] at h
  exact of_decide_eq_true h.1
set_option maxRecDepth 20000 in
set_option maxHeartbeats 2000000 in
theorem parse_bad (ao : Option Addr) (n c : Nat) (xs : List Int) (hc : n ≤ c) (w : World) (hx : Seen w ao n xs) (hR : isR xs = false) :
    Calls Try.prog 19 #[.slice ao n c] w fun e w' => e = .returned (.tuple #[.agg (hdC hdZ).toArray, .slice none 0 0, .int .i64 140]) ∧ Below w.heap.size w w' := by
  obtain ⟨x, ex⟩ : ∃ x, hdV xs = x := ⟨_, rfl⟩
  have HO : Hid (HdOk x) := ex ▸ hdV_ok hx.bytes
  have HE : Hid (hdV xs = x ∧ isR xs = false) := ⟨ex, hR⟩
  have HX : Hid (Seen w ao n xs ∧ n ≤ c) := ⟨hx, hc⟩
  clear hx hc ex hR
  go_enter Try.func19, Try.ntmps19
  go_wp2_with (first | ((with_reducible show wpList _ _ _ (({ dst := some 2, op := _, type := _, pos := _, after := _, guard := _ } : Oper) :: _) _ _); refine wpList_alloc_new rfl 26 rfl 20 _ hzero ?_; intro w1 b1 s1 l1; have z1 : Hid (w1.heap.size = w.heap.size + 1) := s1; clear s1))
  refine (headOf_any ao n c xs HX.out.2 _ (HX.out.1.later l1 (Nat.le_refl _))).mono ?_
  rintro e w2 ⟨rfl, l2⟩
  have z2 : Hid (w1.heap.size ≤ w2.heap.size) := l2.size
  rw [HE.out.1, HE.out.2, mk_false]
  go_wp2_with (first | ((with_reducible show wpList _ _ _ (({ dst := some 5, op := _, type := _, pos := _, after := _, guard := _ } : Oper) :: _) _ _); refine wpList_alloc_new rfl 26 rfl 20 _ hzero ?_; intro w3 b3 s3 l3; have z3 : Hid (w3.heap.size = w2.heap.size + 1) := s3; clear s3) | (refine wpList_store_blk rfl 26 26 (.tmp 5) (.tmp 10) rfl _ rfl _ (hdC x) rfl b3 (by rw [hdC_length HO.out.len]; rfl) (hsizeC HO.out.len) (hdC_one _) ?_; intro w4 b4 s4 k4; have z4 : Hid (w4.heap.size = w3.heap.size) := s4; clear s4) | ((with_reducible show wpList _ _ _ (({ dst := some 14, op := _, type := _, pos := _, after := _, guard := _ } : Oper) :: _) _ _); refine wpList_build rfl 26 _ rfl #[] rfl _ (hbuild0 _) ?_) | (refine wpList_store_blk rfl 26 26 (.tmp 2) (.tmp 14) rfl _ rfl _ (hdC hdZ) rfl (((b1.later l2 (by have := z1.out; have := z2.out; omega)).later l3 (by have := z1.out; have := z2.out; have := z3.out; omega)).kept k4 (by have := z1.out; have := z2.out; have := z3.out; have := z4.out; omega)) rfl hsize (hdC_one _) ?_; intro w5 b5 s5 k5; have z5 : Hid (w5.heap.size = w4.heap.size) := s5; clear s5))
  exact ret_btt rfl (w.heap.size) (hdC hdZ) _ _ _ rfl rfl rfl b5 Try.underlying26 rfl hsize rfl ⟨rfl, (below_kept (below_kept (below_chain (below_chain l1 l2 (by have := z1.out; have := z2.out; omega)) l3 (by have := z1.out; have := z2.out; have := z3.out; omega)) k4 (by have := z1.out; have := z2.out; have := z3.out; have := z4.out; omega) (fun j hj => (by have := z1.out; have := z2.out; have := z3.out; have := z4.out; omega))) k5 (by have := z1.out; have := z2.out; have := z3.out; have := z4.out; have := z5.out; omega) (fun j hj => (by have := z1.out; have := z2.out; have := z3.out; have := z4.out; have := z5.out; omega)))⟩
theorem isO_kept {S : Nat → Prop} {B n : Nat} {zs : List Int} {v : Value} {w w' : World} (h : isO B n zs v w) (k : Kept S w w') (hS : ∀ j, S j → j < B) : isO B n zs v w' := by
  refine ⟨h.1, ?_⟩
  rcases h.2 with h2 | ⟨g, cap, cur, hv, hg, hh, r⟩
  · exact .inl h2
  · exact .inr ⟨g, cap, cur, hv, hg, by rw [k.block g (lt_of_block hh) (fun hs => by have := hS g hs; omega)]; exact hh, r⟩
set_option maxRecDepth 20000 in
set_option maxHeartbeats 2000000 in
theorem parse_good (ao : Option Addr) (n c : Nat) (xs : List Int) (hc : n ≤ c) (w : World) (hx : Seen w ao n xs) (hR : isR xs = true) :
    Calls Try.prog 19 #[.slice ao n c] w fun e w' => ∃ v, e = .returned (.tuple #[.agg (hdC (hdOf xs)).toArray, v, .int .i64 0]) ∧ isO w.heap.size (n - 26) (xs.drop 26) v w' ∧ Below w.heap.size w w' := by
  have hn : 26 ≤ n := by rw [← hx.len]; exact isR_long hR
  have eV := hdV_long (isR_long hR)
  rw [← eV]
  obtain ⟨x, ex⟩ : ∃ x, hdV xs = x := ⟨_, rfl⟩
  have HO : Hid (HdOk x) := ex ▸ hdV_ok hx.bytes
  have HE : Hid (hdV xs = x ∧ isR xs = true) := ⟨ex, hR⟩
  have HX : Hid (Seen w ao n xs ∧ n ≤ c) := ⟨hx, hc⟩
  rw [ex]
  have HS : Hid ((∀ W, (Instr.sliceAt 27 (.slice ao n c) (some (.int .i64 26)) none none).run Try.prog W = .ok (.slice (subA ao 26 c) (n - 26) (c - 26)) W) ∧ Seen w (subA ao 26 c) (n - 26) (xs.drop 26)) := by
    refine ⟨fun W => sl_l ao n c 26 hn W, ?_⟩
    have s := hx.sub 26 n c hn (Nat.le_refl _) hc
    rwa [List.take_of_length_le (by rw [List.length_drop, hx.len]; exact Nat.le_refl _)] at s
  clear hx hc ex hR eV
  go_enter Try.func19, Try.ntmps19
  go_wp2_with (first | ((with_reducible show wpList _ _ _ (({ dst := some 2, op := _, type := _, pos := _, after := _, guard := _ } : Oper) :: _) _ _); refine wpList_alloc_new rfl 26 rfl 20 _ hzero ?_; intro w1 b1 s1 l1; have z1 : Hid (w1.heap.size = w.heap.size + 1) := s1; clear s1))
  refine (headOf_any ao n c xs HX.out.2 _ (HX.out.1.later l1 (Nat.le_refl _))).mono ?_
  rintro e w2 ⟨rfl, l2⟩
  have z2 : Hid (w1.heap.size ≤ w2.heap.size) := l2.size
  rw [HE.out.1, HE.out.2, mk_true]
  go_wp2_with (first | ((with_reducible show wpList _ _ _ (({ dst := some 5, op := _, type := _, pos := _, after := _, guard := _ } : Oper) :: _) _ _); refine wpList_alloc_new rfl 26 rfl 20 _ hzero ?_; intro w3 b3 s3 l3; have z3 : Hid (w3.heap.size = w2.heap.size + 1) := s3; clear s3) | (refine wpList_store_blk rfl 26 26 (.tmp 5) (.tmp 10) rfl _ rfl _ (hdC x) rfl b3 (by rw [hdC_length HO.out.len]; rfl) (hsizeC HO.out.len) (hdC_one _) ?_; intro w4 b4 s4 k4; have z4 : Hid (w4.heap.size = w3.heap.size) := s4; clear s4))
  have V : Hid (Below w.heap.size w w4 ∧ Blk w4 (w.heap.size) 26 (hdC hdZ) ∧ Blk w4 (w2.heap.size) 26 (hdC x)) := ⟨(below_kept (below_chain (below_chain l1 l2 (by have := z1.out; have := z2.out; omega)) l3 (by have := z1.out; have := z2.out; have := z3.out; omega)) k4 (by have := z1.out; have := z2.out; have := z3.out; have := z4.out; omega) (fun j hj => (by have := z1.out; have := z2.out; have := z3.out; have := z4.out; omega))), (((b1.later l2 (by have := z1.out; have := z2.out; omega)).later l3 (by have := z1.out; have := z2.out; have := z3.out; omega)).kept k4 (by have := z1.out; have := z2.out; have := z3.out; have := z4.out; omega)), b4⟩
  clear l1 l2 l3 k4 b1 b4
  refine region_invP 4 ((.val (.agg (hdC x).toArray)) :: (.val (.slice ao n c)) :: (.val (.slice (subA ao 26 c) (n - 26) (c - 26))) :: (.any (isO w4.heap.size (n - 26) (xs.drop 26)) (isO_later _ _ _)) :: []) (by kernel_rfl) (by kernel_rfl) (by kernel_rfl) [] ⟨.inl rfl, .inl rfl, .inl rfl, .inl rfl, trivial⟩ (by kernel_rfl) ?_ ?_
  · refine Steps'.cons ?_ (Steps'.cons ?_ (Steps'.cons ?_ (Steps'.cons ?_ (Steps'.one _ _ _ _ _ _ _))))
    · intro ax wx hb hs hd
      have h5 : ax.tmps.getD 5 undef = (.pointer (some ⟨w2.heap.size, 0, none⟩)) := hs 5 (by kernel_rfl)
      exact Does.load 26 (.tmp 5) rfl (w2.heap.size) 0 h5 (hdC x) _ (V.out.2.2.later hb V.out.2.2.lt).allR Try.underlying26 rfl (hsizeC HO.out.len)
    · intro ax wx hb hs hd
      have h0 : ax.tmps.getD 0 undef = (.slice ao n c) := hs 0 (by kernel_rfl)
      refine Does.value (.slice ao n c) ?_ rfl
      clear hs hd
      go_simp
    · intro ax wx hb hs hd
      have h16 : ax.tmps.getD 16 undef = (.slice ao n c) := hd 1 16 rfl (by kernel_rfl) (by decide)
      have S := HS.out.1
      refine Does.value (.slice (subA ao 26 c) (n - 26) (c - 26)) ?_ rfl
      clear hs hd
      go_simp
    · intro ax wx hb hs hd
      have h17 : ax.tmps.getD 17 undef = (.slice (subA ao 26 c) (n - 26) (c - 26)) := hd 2 17 rfl (by kernel_rfl) (by decide)
      refine Does.call 41 #[.slice (subA ao 26 c) (n - 26) (c - 26)] (by clear hs hd; go_simp) ?_
      refine (clone_any _ _ _ _ wx (HS.out.2.later (below_chain V.out.1 hb V.out.1.size) (Nat.le_refl _))).mono ?_
      rintro e w' ⟨v, rfl, o, l⟩
      exact ⟨_, rfl, ownsRow_base o hb.size, l⟩
  · intro wx hb
    refine @EndsP.val _ _ _ _ _ _ _ _ (.agg (hdC x).toArray) rfl ?_
    refine @EndsP.val _ _ _ _ _ _ _ _ (.slice ao n c) rfl ?_
    refine @EndsP.val _ _ _ _ _ _ _ _ (.slice (subA ao 26 c) (n - 26) (c - 26)) rfl ?_
    refine @EndsP.any _ _ _ _ _ _ _ _ (isO w4.heap.size (n - 26) (xs.drop 26)) (isO_later _ _ _) rfl ?_
    intro v3 p3
    intro hD nf hn
    obtain ⟨mf, rfl⟩ : ∃ mf, nf = mf + 3 := ⟨nf - 3, by have h3 : 3 ≤ nf := hn; omega⟩
    clear hD hn
    simp only [Act.put, List.setIfInBounds_toArray, List.set_cons_zero, List.set_cons_succ]
    refine wpAny_ready (rs := [4]) (by kernel_rfl) (by simp) (AllReady.cons rfl (fun K hK => ?_) AllReady.nil)
    rw [if_pos (by rfl)]
    refine last_store 26 (.tmp 2) (.tmp 15) rfl rfl (w.heap.size) rfl 26 _ (hdC x) rfl (V.out.2.1.later hb V.out.2.1.lt) (by rw [hdC_length HO.out.len]; rfl) (hsizeC HO.out.len) (hdC_one _) ?_
    intro wp' bp sp kp
    refine hK _ _ ?_
    clear hK K
    refine wpAny_ready (rs := [5]) (by kernel_rfl) (by simp) (AllReady.cons rfl (fun K hK => ?_) AllReady.nil)
    rw [if_pos (by rfl)]
    refine last_assign (.tmp 18) rfl (some 3) rfl v3 rfl ?_
    refine hK _ _ ?_
    clear hK K
    simp only [Act.put, List.setIfInBounds_toArray, List.set_cons_zero, List.set_cons_succ]
    refine wpAny_ready (rs := [6]) (by kernel_rfl) (by simp) (AllReady.cons rfl (fun K hK => ?_) AllReady.nil)
    rw [if_pos (by rfl)]
    refine last_assign (.const (.int .i64 0)) rfl (some 4) rfl (.int .i64 0) rfl ?_
    refine hK _ _ ?_
    clear hK K
    simp only [Act.put, List.setIfInBounds_toArray, List.set_cons_zero, List.set_cons_succ]
    refine wpAny_done (by kernel_rfl) (NoPanic.normal ?_) _
    have q2 := V.out.1.size
    have q3 := hb.size
    have L : Below w.heap.size w wp' := below_kept (below_chain V.out.1 hb q2) kp (Nat.le_trans q2 q3) (fun j hj => by omega)
    have O3 : Hid (isO w.heap.size (n - 26) (xs.drop 26) v3 wp') := isO_base (isO_kept p3 kp (fun j hj => hj ▸ V.out.2.1.lt)) q2
    clear kp sp hb q2 q3 p3
    go_wp2
    exact ret_btt rfl (w.heap.size) (hdC x) _ _ _ rfl rfl rfl bp Try.underlying26 rfl (hsizeC HO.out.len) rfl ⟨_, rfl, O3.out, L⟩
end Go.Proofs.Ytabdjoljdefjdaa
