/- The document's Put. -/
import Derived.Test.YtabdjoljdefjdaaRcRMake
namespace Go.Proofs.Ytabdjoljdefjdaa
open Go.RowKit
set_option linter.unusedVariables false
set_option linter.unusedSimpArgs false

set_option maxRecDepth 20000 in
set_option maxHeartbeats 2000000 in
theorem rput_short (h : Hd) (ao : Option Addr) (n c : Nat) (zs : List Int) (hn : n < 26) (w : World) (hx : Seen w ao n zs) :
    Calls Try.prog 21 #[.slice ao n c, .agg (hdC h).toArray] w fun e w' => ∃ v, e = .returned (.tuple #[v, .bool false]) ∧ isO w.heap.size n zs v w' ∧ Below w.heap.size w w' := by
  have i1 : (n : Int) < 26 := by omega
  have HX : Hid (Seen w ao n zs) := hx
  clear hx
  go_enter Try.func21, Try.ntmps21
  go_wp2_with (first | (refine wpList_box_new rfl 26 _ rfl (hdC h) rfl ?_; intro w1 b1 s1 l1))
  refine (copyB_any ao n c zs w1 (HX.out.later l1 (Nat.le_refl _))).mono ?_
  rintro e w2 ⟨v2, rfl, o2, l2⟩
  have V : Hid (isO w.heap.size n zs v2 w2 ∧ Below w.heap.size w w2) := ⟨isO_base o2 l1.size, below_chain l1 l2 l1.size⟩
  clear o2 l1 l2 b1 s1
  go_wp2
  go_ret2
  exact ⟨_, rfl, V.out.1, V.out.2⟩
set_option maxRecDepth 20000 in
set_option maxHeartbeats 2000000 in
theorem rput_long (h : Hd) (k : HdOk h) (ao : Option Addr) (n c : Nat) (zs : List Int) (hn : 26 ≤ n) (hl : n ≤ 140737488355200) (hc : n ≤ c) (w : World) (hx : Seen w ao n zs) :
    Calls Try.prog 21 #[.slice ao n c, .agg (hdC h).toArray] w fun e w' => ∃ v, e = .returned (.tuple #[v, .bool true]) ∧ isO w.heap.size n (hdB h ++ zs.drop 26) v w' ∧ Below w.heap.size w w' := by
  have i1 : ¬ ((n : Int) < 26) := by omega
  have HK : Hid (HdOk h) := k
  have HS : Hid ((∀ W, (Instr.sliceAt 27 (.slice ao n c) (some (.int .i64 26)) none none).run Try.prog W = .ok (.slice (subA ao 26 c) (n - 26) (c - 26)) W) ∧ Seen w (subA ao 26 c) (n - 26) (zs.drop 26) ∧ n - 26 ≤ c - 26 ∧ 26 + (n - 26) = n) := by
    refine ⟨fun W => sl_l ao n c 26 hn W, ?_, by omega, by omega⟩
    have s := hx.sub 26 n c hn (Nat.le_refl _) hc
    rwa [List.take_of_length_le (by rw [List.length_drop, hx.len]; exact Nat.le_refl _)] at s
  clear hx k
  go_enter Try.func21, Try.ntmps21
  go_wp2_with (first | (refine wpList_box_new rfl 26 _ rfl (hdC h) rfl ?_; intro w1 b1 s1 l1))
  have K1 : Hid (Bk w w1 h) := ⟨b1, l1⟩
  clear b1 s1 l1
  refine region_invP 4 ((.val (.agg (hdC h).toArray)) :: (.val (.slice ao n c)) :: (.val (.slice (subA ao 26 c) (n - 26) (c - 26))) :: (.any (isO w.heap.size n (hdB h ++ zs.drop 26)) (isO_later _ _ _)) :: []) (by kernel_rfl) (by kernel_rfl) (by kernel_rfl) [] ⟨.inl rfl, .inl rfl, .inl rfl, .inl rfl, trivial⟩ (by kernel_rfl) ?_ ?_
  · refine Steps'.cons ?_ (Steps'.cons ?_ (Steps'.cons ?_ (Steps'.cons ?_ (Steps'.one _ _ _ _ _ _ _))))
    · intro ax wx hb hs hd
      have h3 : ax.tmps.getD 3 undef = (.pointer (some ⟨w.heap.size, 0, none⟩)) := hs 3 (by kernel_rfl)
      exact Does.load 26 (.tmp 3) rfl w.heap.size 0 h3 (hdC h) _ (K1.out.b.later hb K1.out.b.lt).allR Try.underlying26 rfl (hsizeC HK.out.len)
    · intro ax wx hb hs hd
      have h0 : ax.tmps.getD 0 undef = (.slice ao n c) := hs 0 (by kernel_rfl)
      refine Does.value (.slice ao n c) ?_ rfl
      clear hs hd
      go_simp
    · intro ax wx hb hs hd
      have h12 : ax.tmps.getD 12 undef = (.slice ao n c) := hd 1 12 rfl (by kernel_rfl) (by decide)
      have S := HS.out.1
      refine Does.value (.slice (subA ao 26 c) (n - 26) (c - 26)) ?_ rfl
      clear hs hd
      go_simp
    · intro ax wx hb hs hd
      have h11 : ax.tmps.getD 11 undef = (.agg (hdC h).toArray) := hd 0 11 rfl (by kernel_rfl) (by decide)
      have h13 : ax.tmps.getD 13 undef = (.slice (subA ao 26 c) (n - 26) (c - 26)) := hd 2 13 rfl (by kernel_rfl) (by decide)
      refine Does.call 13 #[.agg (hdC h).toArray, .slice (subA ao 26 c) (n - 26) (c - 26)] (by clear hs hd; go_simp) ?_
      refine (rmake_any h HK.out _ (n - 26) (c - 26) _ HS.out.2.2.1 (by have := HS.out.2.2.2; omega) wx (HS.out.2.1.later (below_chain K1.out.bel hb K1.out.bel.size) (Nat.le_refl _))).mono ?_
      rintro e w' ⟨v, rfl, o, l⟩
      rw [HS.out.2.2.2] at o
      exact ⟨_, rfl, isO_base o (by have := hb.size; have := K1.out.bel.size; omega), l⟩
  · intro wx hb
    refine @EndsP.val _ _ _ _ _ _ _ _ (.agg (hdC h).toArray) rfl ?_
    refine @EndsP.val _ _ _ _ _ _ _ _ (.slice ao n c) rfl ?_
    refine @EndsP.val _ _ _ _ _ _ _ _ (.slice (subA ao 26 c) (n - 26) (c - 26)) rfl ?_
    refine @EndsP.any _ _ _ _ _ _ _ _ (isO w.heap.size n (hdB h ++ zs.drop 26)) (isO_later _ _ _) rfl ?_
    intro v3 p3
    intro hD nf hn
    obtain ⟨mf, rfl⟩ : ∃ mf, nf = mf + 2 := ⟨nf - 2, by have h3 : 2 ≤ nf := hn; omega⟩
    clear hD hn
    simp only [Act.put, List.setIfInBounds_toArray, List.set_cons_zero, List.set_cons_succ]
    refine wpAny_ready (rs := [4]) (by kernel_rfl) (by simp) (AllReady.cons rfl (fun K hK => ?_) AllReady.nil)
    rw [if_pos (by rfl)]
    refine last_assign (.tmp 14) rfl (some 4) rfl v3 rfl ?_
    refine hK _ _ ?_
    clear hK K
    simp only [Act.put, List.setIfInBounds_toArray, List.set_cons_zero, List.set_cons_succ]
    refine wpAny_ready (rs := [5]) (by kernel_rfl) (by simp) (AllReady.cons rfl (fun K hK => ?_) AllReady.nil)
    rw [if_pos (by rfl)]
    refine last_assign (.const (.bool true)) rfl (some 5) rfl (.bool true) rfl ?_
    refine hK _ _ ?_
    clear hK K
    simp only [Act.put, List.setIfInBounds_toArray, List.set_cons_zero, List.set_cons_succ]
    refine wpAny_done (by kernel_rfl) (NoPanic.normal ?_) _
    have V : Hid (isO w.heap.size n (hdB h ++ zs.drop 26) v3 wx ∧ Below w.heap.size w wx) := ⟨p3, below_chain K1.out.bel hb K1.out.bel.size⟩
    clear p3
    go_wp2
    go_ret2
    exact ⟨_, rfl, V.out.1, V.out.2⟩
end Go.Proofs.Ytabdjoljdefjdaa
