/- The walk of DeriveSums. -/
import Derived.Test.YtiimjhahblmggaaDoorVSmA
import Derived.Test.YtiimjhahblmggaaDoorVWorks
import Derived.Test.YtiimjhahblmggaaDoorRVSum
import Derived.Test.YtiimjhahblmggaaDoorVCheck
import Derived.Test.YtiimjhahblmggaaDoorRInvT
import Derived.Test.YtiimjhahblmggaaDoorRInvGT
namespace Go.Proofs.YtiimjhahblmggaaDoor.deriveSums
open Go.RowKit
set_option linter.unusedVariables false
set_option linter.unusedSimpArgs false

theorem own_kept1S {S : Nat → Prop} {w w' : World} {base : Nat} {e : TypeId} {size : Nat} {v : Value} {n : Nat} {xs : List Value} (h : w.ownsRow base e size v n xs) (hk : Kept S w w') (hS : ∀ k, v.ownBlock = some k → ¬ S k) : w'.ownsRow base e size v n xs := by
  refine ⟨h.1, ?_⟩
  rcases h.2 with h0 | ⟨g, cap, cur, rfl, hg, hh, r⟩
  · exact .inl h0
  · exact .inr ⟨g, cap, cur, rfl, hg, by rw [hk.block g (lt_of_block hh) (hS g rfl)]; exact hh, r⟩
theorem mem_len (pss : List (List Int)) (i : Nat) (hi : i < pss.length) : (pss.getD i []).length ≤ pss.flatten.length := by
  have h := flat_succ pss i hi
  have h2 := flat_le pss (i + 1)
  rw [h, List.length_append] at h2
  omega
theorem blk_allS {W : World} {g : Nat} {t : TypeId} {vs : List Value} (h : Blk W g t vs) : W.rangeAt g 0 vs := fun j v hv => by rw [Nat.zero_add, h.cell]; exact hv
theorem last_valueS {o : Oper} {a : Act} {w : World} {K : Act → World → Prop} {Q : Exit → Act → World → Prop} (d : Option Tmp) (hdst : o.dst = d) (v : Value) (hv : (execOp a.eval o).run Tryd.prog w = .ok (.value v) w) (h : K (a.put d v) w) : o.wp Tryd.prog a w K Q := by
  unfold Oper.wp
  rw [hv]
  subst hdst
  exact h
theorem sl_lentS (g n c h : Nat) (hh : h ≤ c) (w : World) : (Instr.sliceAt 22 (.slice (some ⟨g, 0, none⟩) n c) none (some (.int .i64 h)) none).run Tryd.prog w = .ok (.slice (some ⟨g, 0, none⟩) h c) w := by
  rw [sl_h _ _ _ _ hh]
  congr 2
  unfold subA
  split <;> rfl
def isRw (N : Nat) (F : List Int) (v : Value) (w : World) : Prop := ∃ vo vc, v = .slice vo N vc ∧ Seen w vo N F
theorem isRw_later (N : Nat) (F : List Int) : ∀ v w w', Below w.heap.size w w' → isRw N F v w → isRw N F v w' := fun _ _ _ hb ⟨vo, vc, e, h⟩ => ⟨vo, vc, e, h.later hb (Nat.le_refl _)⟩
set_option maxRecDepth 20000 in
set_option maxHeartbeats 40000000 in
theorem walk (ko : Option Addr) (kn kc : Nat) (key : List Int) (po : Option Addr) (n pc : Nat) (pss : List (List Int)) (w : World) (hk : Seen w ko kn key) (hkc : kn ≤ kc) (hk0 : ko = none → kc = 0) (hkn : kn ≤ 1048576) (hx : SeenJ w po n pss) (hK : KTab w) :
    Calls Tryd.prog 3 #[.slice ko kn kc, .slice po n pc] w fun e w' => e = .returned (.bool true) ∧ Below w.heap.size w w' := by
  have HKS : Hid (Seen w ko kn key ∧ kn ≤ kc ∧ (ko = none → kc = 0)) := ⟨hk, hkc, hk0⟩
  have HX : Hid (SeenJ w po n pss ∧ KTab w) := ⟨hx, hK⟩
  have hn := hx.top
  have hall := hx.all
  obtain ⟨M, hM⟩ : ∃ M, mac key pss.flatten = M := ⟨_, rfl⟩
  have HM : Hid (mac key pss.flatten = M ∧ M.length = 32 ∧ Bytes M) := ⟨hM, by rw [← hM]; exact mac_length _ _, by rw [← hM]; exact mac_bytes _ _⟩
  have u2 : (Tryd.prog.info? 28).map (·.size) = some (u8s M).length := by rw [u8s_length, HM.out.2.1]; exact sizeAH
  have heq : ∀ wx, (Op.equalIn 10000 28 (.agg (u8s M).toArray) (.agg (u8s M).toArray)).run Tryd.prog wx = .ok true wx := equal_self 9998 M HM.out.2.1
  have HBY : Hid (∀ i, i < n → Bytes (pss.getD i []) ∧ (pss.getD i []).length ≤ 140737488355328) := fun i hi => by
    obtain ⟨_, _, _, _, _, _, _, hs, _⟩ := HX.out.1.cells i hi
    exact ⟨hs.bytes, hs.top⟩
  have hlen : Hid (pss.length = n) := hx.len
  have HOF : Hid (offs pss n = (flatA pss).length ∧ (flatA pss).length ≤ 70000000 ∧ (flatA pss).length = pss.flatten.length + 64 * n) := by
    have h1 := offs_bound pss
    rw [hlen.out] at h1
    exact ⟨by show (flat pss n).length = _; rw [← hlen.out, flat_all], by omega, h1⟩
  obtain ⟨N, hN⟩ : ∃ N, offs pss n = N := ⟨_, rfl⟩
  obtain ⟨tl, htl⟩ : ∃ tl, pss.flatten.length = tl := ⟨_, rfl⟩
  have HN : Hid (offs pss n = N ∧ N ≤ 70000000 ∧ pss.flatten.length = tl) := ⟨hN, by rw [← hN, HOF.out.1]; exact HOF.out.2.1, htl⟩
  rw [htl] at hall
  have BYT : Hid (Bytes pss.flatten) := fun z hz => by
    obtain ⟨l, hl, hzl⟩ := List.mem_flatten.1 hz
    obtain ⟨i, hi, rfl⟩ := List.mem_iff_getElem.1 hl
    have := (HBY.out i (by have := hlen.out; omega)).1 z
    simp only [List.getD, List.getElem?_eq_getElem hi, Option.getD_some] at this
    exact this hzl
  clear hx hK hk hkc hk0 hM hN htl
  go_enter Tryd.func3, Tryd.ntmps3
  go_wp2_with (first | (go_at_call 7; refine (lent_any ko kn kc key w HKS.out.1 (by omega)).mono ?_; rintro e w1 ⟨gk, ck, rfl, r1, hgk, hck, _, l1⟩) | ((with_reducible show Calls _ _ _ w1 _); go_at_call 8; refine (rrows_any po n pc pss w1 ((HX.out.1.later l1).l) (by have := HN.out; omega)).mono ?_; rintro e w2 ⟨v2, rfl, o2, l2⟩; obtain ⟨ff, cf, gf, rfl, f1, f2, f3, f4⟩ := full_of hlen.out (fun i hi => (HBY.out i hi).1) (by have := HOF.out; omega) o2; rw [HN.out.1] at f2 f4 ⊢) | (go_at_call 9; rw [← HN.out.1]; refine (cut_any ff gf cf po n pc pss w2 (((HX.out.1.later l1).later l2).l) (by have := HN.out; omega) (fun h => (f1 h).1) (by rw [HN.out.1]; exact f2) f3).mono ?_; rintro e w3 ⟨v3, rfl, o3, l3⟩; rw [HN.out.1]; obtain ⟨lo, lc, rfl⟩ : ∃ a c, v3 = .slice a n c := (by rcases o3.2 with ⟨h, h0⟩ | ⟨g, cap, cur, h, _⟩; exact ⟨none, 0, by rw [h, h0]⟩; exact ⟨_, _, h⟩)) | (go_at_call 10; refine (rjoin_any po n pc pss w3 (((HX.out.1.later l1).later l2).later l3)).mono ?_; rintro e w4 ⟨v4, rfl, o4, l4⟩; obtain ⟨to, tc, rfl, s4, t1, t2, _, _⟩ := own_data (BYT.out) (by rw [HN.out.2.2]; omega) o4; rw [HN.out.2.2] at s4 t1 ⊢) | (go_at_call 11; refine (rvsum_any ko kn kc key to tl tc pss.flatten w4 ((((HKS.out.1.later l1 (Nat.le_refl _)).later l2 (Nat.le_refl _)).later l3 (Nat.le_refl _)).later l4 (Nat.le_refl _)) HKS.out.2.2 (by omega) s4 t2 (by omega)).mono ?_; rintro e w5 ⟨rfl, l5⟩; rw [HM.out.1]) | (refine wpList_alloc_new rfl 28 rfl 32 _ zeroAH ?_; intro w6 b6 s6 l6) | (refine wpList_store_blk rfl 28 28 _ _ rfl _ rfl _ (u8s M) rfl b6 (by rw [u8s_length, HM.out.2.1, u8s_length, zer_length]) u2 (u8s_one _) ?_; intro w7 b7 s7 k7))
  obtain ⟨q, hq⟩ : ∃ q, w5.heap.size = q := ⟨_, rfl⟩
  rw [hq] at b7 ⊢
  have z1 := l1.size
  have z2 := l2.size
  have z3 := l3.size
  have z4 := l4.size
  have z5 := l5.size
  have l57 : Below w5.heap.size w5 w7 := below_kept l6 k7 (by omega) (fun j hj => by omega)
  have z7 := l57.size
  have F1 : Hid (0 < n → ff = some ⟨gf, 0, none⟩ ∧ w1.heap.size ≤ gf ∧ gf < w2.heap.size) := fun h => ⟨(f1 h).1, (f1 h).2.2.1, (f1 h).2.2.2⟩
  have O7 : Hid (w7.ownsRow w2.heap.size 22 1 (.slice lo n lc) n (cuts gf cf pss n) ∧ (0 < n → RowAt w7 gf (flatA pss))) := ⟨ownsRow_below (ownsRow_below (ownsRow_below o3 l4) l5) l57, fun h => (((((f1 h).2.1.later l3 (Nat.le_refl _)).later l4 (Nat.le_refl _)).later l5 (Nat.le_refl _)).later l57 (Nat.le_refl _))⟩
  have HZ : Hid (∀ W, Below w7.heap.size w7 W → RowAt W gk (key ++ marks) ∧ SeenP W lo n pss ∧ Blk W q 28 (u8s M) ∧ Seen W to tl pss.flatten ∧ KTab W ∧ Seen W ff N (flatA pss) ∧ SeenJ W po n pss ∧ Seen W ko kn key ∧ Below w.heap.size w W) := fun W hW => by
    have bW : Below w.heap.size w W := below_chain (below_chain (below_chain (below_chain (below_chain (below_chain l1 l2 z1) l3 (by omega)) l4 (by omega)) l5 (by omega)) l57 (by omega)) hW (by omega)
    have r7 := ((((r1.later l2 (Nat.le_refl _)).later l3 (Nat.le_refl _)).later l4 (Nat.le_refl _)).later l5 (Nat.le_refl _)).later l57 (Nat.le_refl _)
    exact ⟨r7.later hW (Nat.le_refl _), cut_parts hlen.out (ownsRow_below O7.out.1 hW) (fun h => (O7.out.2 h).later hW (Nat.le_refl _)) (by rw [← HOF.out.1, HN.out.1]; exact f2) HBY.out, b7.later hW b7.lt, ((s4.later l5 (Nat.le_refl _)).later l57 (Nat.le_refl _)).later hW (Nat.le_refl _), HX.out.2.below bW HX.out.2.lt, ((((f4.later l3 (Nat.le_refl _)).later l4 (Nat.le_refl _)).later l5 (Nat.le_refl _)).later l57 (Nat.le_refl _)).later hW (Nat.le_refl _), HX.out.1.later bW, HKS.out.1.later bW (Nat.le_refl _), bW⟩
  have HTC : Hid (tl ≤ tc ∧ offs pss n ≤ 70000000) := ⟨t1, by rw [HN.out.1]; exact HN.out.2.1⟩
  have hgk2 : gk < w1.heap.size := r1.lt
  have HFO : Hid (∀ {W W' : World} {v : Value}, W'.ownsRow W.heap.size 5 1 v (offs pss n) ((flat pss n).map (Value.int .u8)) → isRw N (flatA pss) v W') := fun {W W' v} o => by
    obtain ⟨ff', cf', gf', rfl, _, _, _, s⟩ := full_of hlen.out (fun i hi => (HBY.out i hi).1) (by have := HOF.out; omega) o
    rw [HN.out.1] at s ⊢
    exact ⟨_, _, rfl, s⟩
  have HCF : Hid ((flatA pss).length ≤ cf) := by show _ ≤ _; rw [← HOF.out.1, HN.out.1]; exact f2
  clear b6 b7 k7 l1 l2 l3 l4 l5 l6 l57 o2 o3 o4 r1 s4 s6 s7 t1 f1 f2 f3 f4 hgk
  have LB : ∀ {W : World}, Below w7.heap.size w7 W → Below w7.heap.size w7 W := fun h => h
  refine region_invGT [.val (.slice (some ⟨gk, 0, none⟩) (kn + 64) ck), .val (.slice ko kn kc), .val (.int .i64 (kn : Int)), .val (.slice (some ⟨gk, 0, none⟩) kn ck), .val (.slice lo n lc), .val (.agg (u8s M).toArray), .val (.agg (u8s M).toArray), .val (.bool false), .val (.bool false), .val (.slice (some ⟨gk, 0, none⟩) (kn + 64) ck), .val (.slice ko kn kc), .val (.int .i64 (kn : Int)), .val (.slice (some ⟨gk, 0, none⟩) kn ck), .val (.slice lo n lc), .val (.agg (u8s M).toArray), .val (.agg (u8s M).toArray), .val (.bool false), .val (.bool false), .val (.bool false), .val (.slice (some ⟨gk, 0, none⟩) (kn + 64) ck), .val (.slice ko kn kc), .val (.int .i64 (kn : Int)), .val (.slice (some ⟨gk, 0, none⟩) kn ck), .val (.agg (u8s M).toArray), .val (.slice lo n lc), .val (.bool true), .val (.bool false)] (by kernel_rfl) (by kernel_rfl) (by repeat (first | exact trivial | (refine ⟨by first | trivial | rfl, ?_⟩))) (by kernel_rfl) ?_ ?_
  · refine Steps'.cons ?_ (Steps'.cons ?_ (Steps'.cons ?_ (Steps'.cons ?_ (Steps'.cons ?_ (Steps'.cons ?_ (Steps'.cons ?_ (Steps'.cons ?_ (Steps'.cons ?_ (Steps'.cons ?_ (Steps'.cons ?_ (Steps'.cons ?_ (Steps'.cons ?_ (Steps'.cons ?_ (Steps'.cons ?_ (Steps'.cons ?_ (Steps'.cons ?_ (Steps'.cons ?_ (Steps'.cons ?_ (Steps'.cons ?_ (Steps'.cons ?_ (Steps'.cons ?_ (Steps'.cons ?_ (Steps'.cons ?_ (Steps'.cons ?_ (Steps'.cons ?_ (Steps'.cons ?_ (Steps'.one _ _ _ _ _ _ _)))))))))))))))))))))))))))
    · intro ax wx hb hs hd
      have h5 : ax.tmps.getD 5 undef = (.slice (some ⟨gk, 0, none⟩) (kn + 64) ck) := hs 5 (by kernel_rfl)
      refine Does.value (.slice (some ⟨gk, 0, none⟩) (kn + 64) ck) ?_ rfl
      clear hs hd
      go_simp
    · intro ax wx hb hs hd
      have h0 : ax.tmps.getD 0 undef = (.slice ko kn kc) := hs 0 (by kernel_rfl)
      refine Does.value (.slice ko kn kc) ?_ rfl
      clear hs hd
      go_simp
    · intro ax wx hb hs hd
      have h27 : ax.tmps.getD 27 undef = (.slice ko kn kc) := hd 1 27 rfl (by kernel_rfl) (by decide)
      refine Does.value (.int .i64 (kn : Int)) ?_ rfl
      clear hs hd
      go_simp
    · intro ax wx hb hs hd
      have h26 : ax.tmps.getD 26 undef = (.slice (some ⟨gk, 0, none⟩) (kn + 64) ck) := hd 0 26 rfl (by kernel_rfl) (by decide)
      have h28 : ax.tmps.getD 28 undef = (.int .i64 (kn : Int)) := hd 2 28 rfl (by kernel_rfl) (by decide)
      have hsl := sl_lentS gk (kn + 64) ck kn (by omega) wx
      refine Does.value (.slice (some ⟨gk, 0, none⟩) kn ck) ?_ rfl
      clear hs hd
      go_simp
    · intro ax wx hb hs hd
      have h7 : ax.tmps.getD 7 undef = (.slice lo n lc) := hs 7 (by kernel_rfl)
      refine Does.value (.slice lo n lc) ?_ rfl
      clear hs hd
      go_simp
    · intro ax wx hb hs hd
      have h29 : ax.tmps.getD 29 undef = (.slice (some ⟨gk, 0, none⟩) kn ck) := hd 3 29 rfl (by kernel_rfl) (by decide)
      have h30 : ax.tmps.getD 30 undef = (.slice lo n lc) := hd 4 30 rfl (by kernel_rfl) (by decide)
      refine Does.call 12 #[(.slice (some ⟨gk, 0, none⟩) kn ck), (.slice lo n lc)] (by clear hs hd; go_simp) ?_
      refine (vsum_any _ kn ck key lo n lc pss wx (Seen.lent (HZ.out wx (LB hb)).1 HKS.out.1) (by omega) (HZ.out wx (LB hb)).2.1 (by omega) (by rw [HN.out.2.2]; omega) (HZ.out wx (LB hb)).2.2.2.2.1).mono ?_
      rintro e w9 ⟨rfl, l9⟩
      rw [HM.out.1]
      exact ⟨_, rfl, rfl, l9⟩
    · intro ax wx hb hs hd
      have h9 : ax.tmps.getD 9 undef = (.pointer (some ⟨q, 0, none⟩)) := hs 9 (by kernel_rfl)
      exact Does.load 28 (.tmp 9) rfl q 0 h9 (u8s M) _ (blk_allS (HZ.out wx (LB hb)).2.2.1) Tryd.underlying28 rfl u2
    · intro ax wx hb hs hd
      have h31 : ax.tmps.getD 31 undef = (.agg (u8s M).toArray) := hd 5 31 rfl (by kernel_rfl) (by decide)
      have h32 : ax.tmps.getD 32 undef = (.agg (u8s M).toArray) := hd 6 32 rfl (by kernel_rfl) (by decide)
      refine Does.value (.bool false) ?_ rfl
      clear hs hd
      go_simp
    · intro ax wx hb hs hd
      have h33 : ax.tmps.getD 33 undef = (.bool false) := hd 7 33 rfl (by kernel_rfl) (by decide)
      refine Does.value (.bool false) ?_ rfl
      clear hs hd
      go_simp
    · intro ax wx hb hs hd
      have h5 : ax.tmps.getD 5 undef = (.slice (some ⟨gk, 0, none⟩) (kn + 64) ck) := hs 5 (by kernel_rfl)
      refine Does.value (.slice (some ⟨gk, 0, none⟩) (kn + 64) ck) ?_ rfl
      clear hs hd
      go_simp
    · intro ax wx hb hs hd
      have h0 : ax.tmps.getD 0 undef = (.slice ko kn kc) := hs 0 (by kernel_rfl)
      refine Does.value (.slice ko kn kc) ?_ rfl
      clear hs hd
      go_simp
    · intro ax wx hb hs hd
      have h36 : ax.tmps.getD 36 undef = (.slice ko kn kc) := hd 10 36 rfl (by kernel_rfl) (by decide)
      refine Does.value (.int .i64 (kn : Int)) ?_ rfl
      clear hs hd
      go_simp
    · intro ax wx hb hs hd
      have h35 : ax.tmps.getD 35 undef = (.slice (some ⟨gk, 0, none⟩) (kn + 64) ck) := hd 9 35 rfl (by kernel_rfl) (by decide)
      have h37 : ax.tmps.getD 37 undef = (.int .i64 (kn : Int)) := hd 11 37 rfl (by kernel_rfl) (by decide)
      have hsl := sl_lentS gk (kn + 64) ck kn (by omega) wx
      refine Does.value (.slice (some ⟨gk, 0, none⟩) kn ck) ?_ rfl
      clear hs hd
      go_simp
    · intro ax wx hb hs hd
      have h7 : ax.tmps.getD 7 undef = (.slice lo n lc) := hs 7 (by kernel_rfl)
      refine Does.value (.slice lo n lc) ?_ rfl
      clear hs hd
      go_simp
    · intro ax wx hb hs hd
      have h38 : ax.tmps.getD 38 undef = (.slice (some ⟨gk, 0, none⟩) kn ck) := hd 12 38 rfl (by kernel_rfl) (by decide)
      have h39 : ax.tmps.getD 39 undef = (.slice lo n lc) := hd 13 39 rfl (by kernel_rfl) (by decide)
      refine Does.call 12 #[(.slice (some ⟨gk, 0, none⟩) kn ck), (.slice lo n lc)] (by clear hs hd; go_simp) ?_
      refine (vsum_any _ kn ck key lo n lc pss wx (Seen.lent (HZ.out wx (LB hb)).1 HKS.out.1) (by omega) (HZ.out wx (LB hb)).2.1 (by omega) (by rw [HN.out.2.2]; omega) (HZ.out wx (LB hb)).2.2.2.2.1).mono ?_
      rintro e w9 ⟨rfl, l9⟩
      rw [HM.out.1]
      exact ⟨_, rfl, rfl, l9⟩
    · intro ax wx hb hs hd
      have h9 : ax.tmps.getD 9 undef = (.pointer (some ⟨q, 0, none⟩)) := hs 9 (by kernel_rfl)
      exact Does.load 28 (.tmp 9) rfl q 0 h9 (u8s M) _ (blk_allS (HZ.out wx (LB hb)).2.2.1) Tryd.underlying28 rfl u2
    · intro ax wx hb hs hd
      have h40 : ax.tmps.getD 40 undef = (.agg (u8s M).toArray) := hd 14 40 rfl (by kernel_rfl) (by decide)
      have h41 : ax.tmps.getD 41 undef = (.agg (u8s M).toArray) := hd 15 41 rfl (by kernel_rfl) (by decide)
      refine Does.value (.bool false) ?_ rfl
      clear hs hd
      go_simp
    · intro ax wx hb hs hd
      have h34 : ax.tmps.getD 34 undef = (.bool false) := hd 8 34 rfl (by kernel_rfl) (by decide)
      have h42 : ax.tmps.getD 42 undef = (.bool false) := hd 16 42 rfl (by kernel_rfl) (by decide)
      refine Does.value (.bool false) ?_ rfl
      clear hs hd
      go_simp
    · intro ax wx hb hs hd
      have h43 : ax.tmps.getD 43 undef = (.bool false) := hd 17 43 rfl (by kernel_rfl) (by decide)
      refine Does.value (.bool false) ?_ rfl
      clear hs hd
      go_simp
    · intro ax wx hb hs hd
      have h5 : ax.tmps.getD 5 undef = (.slice (some ⟨gk, 0, none⟩) (kn + 64) ck) := hs 5 (by kernel_rfl)
      refine Does.value (.slice (some ⟨gk, 0, none⟩) (kn + 64) ck) ?_ rfl
      clear hs hd
      go_simp
    · intro ax wx hb hs hd
      have h0 : ax.tmps.getD 0 undef = (.slice ko kn kc) := hs 0 (by kernel_rfl)
      refine Does.value (.slice ko kn kc) ?_ rfl
      clear hs hd
      go_simp
    · intro ax wx hb hs hd
      have h46 : ax.tmps.getD 46 undef = (.slice ko kn kc) := hd 20 46 rfl (by kernel_rfl) (by decide)
      refine Does.value (.int .i64 (kn : Int)) ?_ rfl
      clear hs hd
      go_simp
    · intro ax wx hb hs hd
      have h45 : ax.tmps.getD 45 undef = (.slice (some ⟨gk, 0, none⟩) (kn + 64) ck) := hd 19 45 rfl (by kernel_rfl) (by decide)
      have h47 : ax.tmps.getD 47 undef = (.int .i64 (kn : Int)) := hd 21 47 rfl (by kernel_rfl) (by decide)
      have hsl := sl_lentS gk (kn + 64) ck kn (by omega) wx
      refine Does.value (.slice (some ⟨gk, 0, none⟩) kn ck) ?_ rfl
      clear hs hd
      go_simp
    · intro ax wx hb hs hd
      have h9 : ax.tmps.getD 9 undef = (.pointer (some ⟨q, 0, none⟩)) := hs 9 (by kernel_rfl)
      exact Does.load 28 (.tmp 9) rfl q 0 h9 (u8s M) _ (blk_allS (HZ.out wx (LB hb)).2.2.1) Tryd.underlying28 rfl u2
    · intro ax wx hb hs hd
      have h7 : ax.tmps.getD 7 undef = (.slice lo n lc) := hs 7 (by kernel_rfl)
      refine Does.value (.slice lo n lc) ?_ rfl
      clear hs hd
      go_simp
    · intro ax wx hb hs hd
      have h48 : ax.tmps.getD 48 undef = (.slice (some ⟨gk, 0, none⟩) kn ck) := hd 22 48 rfl (by kernel_rfl) (by decide)
      have h49 : ax.tmps.getD 49 undef = (.agg (u8s M).toArray) := hd 23 49 rfl (by kernel_rfl) (by decide)
      have h50 : ax.tmps.getD 50 undef = (.slice lo n lc) := hd 24 50 rfl (by kernel_rfl) (by decide)
      refine Does.call 13 #[(.slice (some ⟨gk, 0, none⟩) kn ck), (.agg (u8s M).toArray), (.slice lo n lc)] (by clear hs hd; go_simp) ?_
      refine (check_any _ kn ck key M lo n lc pss wx HM.out.2.1 HM.out.2.2 (Seen.lent (HZ.out wx (LB hb)).1 HKS.out.1) (by omega) (HZ.out wx (LB hb)).2.1 (by omega) (by rw [HN.out.2.2]; omega) (HZ.out wx (LB hb)).2.2.2.2.1).mono ?_
      rintro e w9 ⟨rfl, l9⟩
      rw [decide_eq_true HM.out.1]
      exact ⟨_, rfl, rfl, l9⟩
    · intro ax wx hb hs hd
      have h51 : ax.tmps.getD 51 undef = (.bool true) := hd 25 51 rfl (by kernel_rfl) (by decide)
      refine Does.value (.bool false) ?_ rfl
      clear hs hd
      go_simp
  · intro wx hb
    refine @Ends.val _ _ _ _ _ _ _ _ _ (.slice (some ⟨gk, 0, none⟩) (kn + 64) ck) rfl ?_
    refine @Ends.val _ _ _ _ _ _ _ _ _ (.slice ko kn kc) rfl ?_
    refine @Ends.val _ _ _ _ _ _ _ _ _ (.int .i64 (kn : Int)) rfl ?_
    refine @Ends.val _ _ _ _ _ _ _ _ _ (.slice (some ⟨gk, 0, none⟩) kn ck) rfl ?_
    refine @Ends.val _ _ _ _ _ _ _ _ _ (.slice lo n lc) rfl ?_
    refine @Ends.val _ _ _ _ _ _ _ _ _ (.agg (u8s M).toArray) rfl ?_
    refine @Ends.val _ _ _ _ _ _ _ _ _ (.agg (u8s M).toArray) rfl ?_
    refine @Ends.val _ _ _ _ _ _ _ _ _ (.bool false) rfl ?_
    refine @Ends.val _ _ _ _ _ _ _ _ _ (.bool false) rfl ?_
    refine @Ends.val _ _ _ _ _ _ _ _ _ (.slice (some ⟨gk, 0, none⟩) (kn + 64) ck) rfl ?_
    refine @Ends.val _ _ _ _ _ _ _ _ _ (.slice ko kn kc) rfl ?_
    refine @Ends.val _ _ _ _ _ _ _ _ _ (.int .i64 (kn : Int)) rfl ?_
    refine @Ends.val _ _ _ _ _ _ _ _ _ (.slice (some ⟨gk, 0, none⟩) kn ck) rfl ?_
    refine @Ends.val _ _ _ _ _ _ _ _ _ (.slice lo n lc) rfl ?_
    refine @Ends.val _ _ _ _ _ _ _ _ _ (.agg (u8s M).toArray) rfl ?_
    refine @Ends.val _ _ _ _ _ _ _ _ _ (.agg (u8s M).toArray) rfl ?_
    refine @Ends.val _ _ _ _ _ _ _ _ _ (.bool false) rfl ?_
    refine @Ends.val _ _ _ _ _ _ _ _ _ (.bool false) rfl ?_
    refine @Ends.val _ _ _ _ _ _ _ _ _ (.bool false) rfl ?_
    refine @Ends.val _ _ _ _ _ _ _ _ _ (.slice (some ⟨gk, 0, none⟩) (kn + 64) ck) rfl ?_
    refine @Ends.val _ _ _ _ _ _ _ _ _ (.slice ko kn kc) rfl ?_
    refine @Ends.val _ _ _ _ _ _ _ _ _ (.int .i64 (kn : Int)) rfl ?_
    refine @Ends.val _ _ _ _ _ _ _ _ _ (.slice (some ⟨gk, 0, none⟩) kn ck) rfl ?_
    refine @Ends.val _ _ _ _ _ _ _ _ _ (.agg (u8s M).toArray) rfl ?_
    refine @Ends.val _ _ _ _ _ _ _ _ _ (.slice lo n lc) rfl ?_
    refine @Ends.val _ _ _ _ _ _ _ _ _ (.bool true) rfl ?_
    refine @Ends.val _ _ _ _ _ _ _ _ _ (.bool false) rfl ?_
    refine @Ends.one _ _ _ _ _ _ _ ?_
    simp only [Act.put, List.setIfInBounds_toArray, List.set_cons_zero, List.set_cons_succ]
    have Lw8 : Hid (Below w7.heap.size w7 wx) := LB hb
    clear hb LB
    refine last_valueS (some 53) rfl (.bool false) (by go_simp) ?_
    simp only [Act.put, List.setIfInBounds_toArray, List.set_cons_zero, List.set_cons_succ]
    obtain ⟨w8, rfl⟩ : ∃ q, q = wx := ⟨_, rfl⟩
    have LB : ∀ {W : World}, Below w8.heap.size w8 W → Below w7.heap.size w7 W := fun h => below_chain Lw8.out h Lw8.out.size
    go_wp2
    refine region_invGT [.val (.slice (some ⟨gk, 0, none⟩) (kn + 64) ck), .val (.slice ko kn kc), .val (.int .i64 (kn : Int)), .val (.slice (some ⟨gk, 0, none⟩) kn ck), .val (.slice to tl tc), .val (.agg (u8s M).toArray), .val (.agg (u8s M).toArray), .val (.bool false), .val (.bool false), .val (.slice (some ⟨gk, 0, none⟩) (kn + 64) ck), .val (.slice ko kn kc), .val (.bool true), .val (.bool false), .val (.bool false), .val (.bool false), .val (.slice ff N cf), .val (.slice po n pc), .any (isRw N (flatA pss)) (isRw_later _ _), .val (.bool true), .val (.bool false)] (by kernel_rfl) (by kernel_rfl) (by repeat (first | exact trivial | (refine ⟨by first | trivial | rfl, ?_⟩))) (by kernel_rfl) ?_ ?_
    · refine Steps'.cons ?_ (Steps'.cons ?_ (Steps'.cons ?_ (Steps'.cons ?_ (Steps'.cons ?_ (Steps'.cons ?_ (Steps'.cons ?_ (Steps'.cons ?_ (Steps'.cons ?_ (Steps'.cons ?_ (Steps'.cons ?_ (Steps'.cons ?_ (Steps'.cons ?_ (Steps'.cons ?_ (Steps'.cons ?_ (Steps'.cons ?_ (Steps'.cons ?_ (Steps'.cons ?_ (Steps'.cons ?_ (Steps'.cons ?_ (Steps'.one _ _ _ _ _ _ _))))))))))))))))))))
      · intro ax wx hb hs hd
        have h5 : ax.tmps.getD 5 undef = (.slice (some ⟨gk, 0, none⟩) (kn + 64) ck) := hs 5 (by kernel_rfl)
        refine Does.value (.slice (some ⟨gk, 0, none⟩) (kn + 64) ck) ?_ rfl
        clear hs hd
        go_simp
      · intro ax wx hb hs hd
        have h0 : ax.tmps.getD 0 undef = (.slice ko kn kc) := hs 0 (by kernel_rfl)
        refine Does.value (.slice ko kn kc) ?_ rfl
        clear hs hd
        go_simp
      · intro ax wx hb hs hd
        have h55 : ax.tmps.getD 55 undef = (.slice ko kn kc) := hd 1 55 rfl (by kernel_rfl) (by decide)
        refine Does.value (.int .i64 (kn : Int)) ?_ rfl
        clear hs hd
        go_simp
      · intro ax wx hb hs hd
        have h54 : ax.tmps.getD 54 undef = (.slice (some ⟨gk, 0, none⟩) (kn + 64) ck) := hd 0 54 rfl (by kernel_rfl) (by decide)
        have h56 : ax.tmps.getD 56 undef = (.int .i64 (kn : Int)) := hd 2 56 rfl (by kernel_rfl) (by decide)
        have hsl := sl_lentS gk (kn + 64) ck kn (by omega) wx
        refine Does.value (.slice (some ⟨gk, 0, none⟩) kn ck) ?_ rfl
        clear hs hd
        go_simp
      · intro ax wx hb hs hd
        have h8 : ax.tmps.getD 8 undef = (.slice to tl tc) := hs 8 (by kernel_rfl)
        refine Does.value (.slice to tl tc) ?_ rfl
        clear hs hd
        go_simp
      · intro ax wx hb hs hd
        have h57 : ax.tmps.getD 57 undef = (.slice (some ⟨gk, 0, none⟩) kn ck) := hd 3 57 rfl (by kernel_rfl) (by decide)
        have h58 : ax.tmps.getD 58 undef = (.slice to tl tc) := hd 4 58 rfl (by kernel_rfl) (by decide)
        refine Does.call 14 #[(.slice (some ⟨gk, 0, none⟩) kn ck), (.slice to tl tc)] (by clear hs hd; go_simp) ?_
        refine (extract_any _ kn ck key to tl tc pss.flatten wx (Seen.lent (HZ.out wx (LB hb)).1 HKS.out.1) (by omega) (HZ.out wx (LB hb)).2.2.2.1 HTC.out.1 (HZ.out wx (LB hb)).2.2.2.2.1).mono ?_
        rintro e w9 ⟨rfl, l9⟩
        rw [HM.out.1]
        exact ⟨_, rfl, rfl, l9⟩
      · intro ax wx hb hs hd
        have h9 : ax.tmps.getD 9 undef = (.pointer (some ⟨q, 0, none⟩)) := hs 9 (by kernel_rfl)
        exact Does.load 28 (.tmp 9) rfl q 0 h9 (u8s M) _ (blk_allS (HZ.out wx (LB hb)).2.2.1) Tryd.underlying28 rfl u2
      · intro ax wx hb hs hd
        have h59 : ax.tmps.getD 59 undef = (.agg (u8s M).toArray) := hd 5 59 rfl (by kernel_rfl) (by decide)
        have h60 : ax.tmps.getD 60 undef = (.agg (u8s M).toArray) := hd 6 60 rfl (by kernel_rfl) (by decide)
        refine Does.value (.bool false) ?_ rfl
        clear hs hd
        go_simp
      · intro ax wx hb hs hd
        have h61 : ax.tmps.getD 61 undef = (.bool false) := hd 7 61 rfl (by kernel_rfl) (by decide)
        refine Does.value (.bool false) ?_ rfl
        clear hs hd
        go_simp
      · intro ax wx hb hs hd
        have h5 : ax.tmps.getD 5 undef = (.slice (some ⟨gk, 0, none⟩) (kn + 64) ck) := hs 5 (by kernel_rfl)
        refine Does.value (.slice (some ⟨gk, 0, none⟩) (kn + 64) ck) ?_ rfl
        clear hs hd
        go_simp
      · intro ax wx hb hs hd
        have h0 : ax.tmps.getD 0 undef = (.slice ko kn kc) := hs 0 (by kernel_rfl)
        refine Does.value (.slice ko kn kc) ?_ rfl
        clear hs hd
        go_simp
      · intro ax wx hb hs hd
        have h63 : ax.tmps.getD 63 undef = (.slice (some ⟨gk, 0, none⟩) (kn + 64) ck) := hd 9 63 rfl (by kernel_rfl) (by decide)
        have h64 : ax.tmps.getD 64 undef = (.slice ko kn kc) := hd 10 64 rfl (by kernel_rfl) (by decide)
        refine Does.call 15 #[(.slice (some ⟨gk, 0, none⟩) (kn + 64) ck), (.slice ko kn kc)] (by clear hs hd; go_simp) ?_
        refine (rkept_yes gk (kn + 64) ck ko kn kc key wx (HZ.out wx (LB hb)).1 (HZ.out wx (LB hb)).2.2.2.2.2.2.2.1 (by omega) rfl).mono ?_
        rintro e w9 ⟨rfl, l9⟩
        exact ⟨_, rfl, rfl, l9⟩
      · intro ax wx hb hs hd
        have h65 : ax.tmps.getD 65 undef = (.bool true) := hd 11 65 rfl (by kernel_rfl) (by decide)
        refine Does.value (.bool false) ?_ rfl
        clear hs hd
        go_simp
      · intro ax wx hb hs hd
        have h62 : ax.tmps.getD 62 undef = (.bool false) := hd 8 62 rfl (by kernel_rfl) (by decide)
        have h66 : ax.tmps.getD 66 undef = (.bool false) := hd 12 66 rfl (by kernel_rfl) (by decide)
        refine Does.value (.bool false) ?_ rfl
        clear hs hd
        go_simp
      · intro ax wx hb hs hd
        have h67 : ax.tmps.getD 67 undef = (.bool false) := hd 13 67 rfl (by kernel_rfl) (by decide)
        refine Does.value (.bool false) ?_ rfl
        clear hs hd
        go_simp
      · intro ax wx hb hs hd
        have h6 : ax.tmps.getD 6 undef = (.slice ff N cf) := hs 6 (by kernel_rfl)
        refine Does.value (.slice ff N cf) ?_ rfl
        clear hs hd
        go_simp
      · intro ax wx hb hs hd
        have h1 : ax.tmps.getD 1 undef = (.slice po n pc) := hs 1 (by kernel_rfl)
        refine Does.value (.slice po n pc) ?_ rfl
        clear hs hd
        go_simp
      · intro ax wx hb hs hd
        have h70 : ax.tmps.getD 70 undef = (.slice po n pc) := hd 16 70 rfl (by kernel_rfl) (by decide)
        refine Does.call 8 #[(.slice po n pc)] (by clear hs hd; go_simp) ?_
        refine (rrows_any po n pc pss wx (HZ.out wx (LB hb)).2.2.2.2.2.2.1.l (by have := HTC.out.2; omega)).mono ?_
        rintro e w9 ⟨v, rfl, o9, l9⟩
        exact ⟨_, rfl, HFO.out o9, l9⟩
      · intro ax wx hb hs hd
        have h69 : ax.tmps.getD 69 undef = (.slice ff N cf) := hd 15 69 rfl (by kernel_rfl) (by decide)
        have p71 : (isRw N (flatA pss)) (ax.tmps.getD 71 undef) wx := hd 17 71 rfl (by kernel_rfl) (by decide)
        obtain ⟨vo, vc, h71, s71⟩ := p71
        refine Does.call 16 #[(.slice ff N cf), .slice vo N vc] (by clear hs hd; go_simp) ?_
        refine (rsame_yes ff vo N cf vc (flatA pss) wx (HZ.out wx (LB hb)).2.2.2.2.2.1 s71).mono ?_
        rintro e w9 ⟨rfl, qd, rfl⟩
        exact ⟨_, rfl, rfl, below_dn (Below.refl _ _) qd⟩
      · intro ax wx hb hs hd
        have h72 : ax.tmps.getD 72 undef = (.bool true) := hd 18 72 rfl (by kernel_rfl) (by decide)
        refine Does.value (.bool false) ?_ rfl
        clear hs hd
        go_simp
    · intro wx hb
      refine @Ends.val _ _ _ _ _ _ _ _ _ (.slice (some ⟨gk, 0, none⟩) (kn + 64) ck) rfl ?_
      refine @Ends.val _ _ _ _ _ _ _ _ _ (.slice ko kn kc) rfl ?_
      refine @Ends.val _ _ _ _ _ _ _ _ _ (.int .i64 (kn : Int)) rfl ?_
      refine @Ends.val _ _ _ _ _ _ _ _ _ (.slice (some ⟨gk, 0, none⟩) kn ck) rfl ?_
      refine @Ends.val _ _ _ _ _ _ _ _ _ (.slice to tl tc) rfl ?_
      refine @Ends.val _ _ _ _ _ _ _ _ _ (.agg (u8s M).toArray) rfl ?_
      refine @Ends.val _ _ _ _ _ _ _ _ _ (.agg (u8s M).toArray) rfl ?_
      refine @Ends.val _ _ _ _ _ _ _ _ _ (.bool false) rfl ?_
      refine @Ends.val _ _ _ _ _ _ _ _ _ (.bool false) rfl ?_
      refine @Ends.val _ _ _ _ _ _ _ _ _ (.slice (some ⟨gk, 0, none⟩) (kn + 64) ck) rfl ?_
      refine @Ends.val _ _ _ _ _ _ _ _ _ (.slice ko kn kc) rfl ?_
      refine @Ends.val _ _ _ _ _ _ _ _ _ (.bool true) rfl ?_
      refine @Ends.val _ _ _ _ _ _ _ _ _ (.bool false) rfl ?_
      refine @Ends.val _ _ _ _ _ _ _ _ _ (.bool false) rfl ?_
      refine @Ends.val _ _ _ _ _ _ _ _ _ (.bool false) rfl ?_
      refine @Ends.val _ _ _ _ _ _ _ _ _ (.slice ff N cf) rfl ?_
      refine @Ends.val _ _ _ _ _ _ _ _ _ (.slice po n pc) rfl ?_
      refine @Ends.any _ _ _ _ _ _ _ _ _ (isRw N (flatA pss)) (isRw_later _ _) rfl ?_
      intro v71 p71
      refine @Ends.val _ _ _ _ _ _ _ _ _ (.bool true) rfl ?_
      refine @Ends.val _ _ _ _ _ _ _ _ _ (.bool false) rfl ?_
      refine @Ends.one _ _ _ _ _ _ _ ?_
      simp only [Act.put, List.setIfInBounds_toArray, List.set_cons_zero, List.set_cons_succ]
      have Lw9 : Hid (Below w7.heap.size w7 wx) := LB hb
      clear hb LB
      refine last_valueS (some 74) rfl (.bool false) (by go_simp) ?_
      simp only [Act.put, List.setIfInBounds_toArray, List.set_cons_zero, List.set_cons_succ]
      obtain ⟨w9, rfl⟩ : ∃ q, q = wx := ⟨_, rfl⟩
      have B9 := (HZ.out w9 Lw9.out).2.2.1
      go_wp2_with (first | (refine wpList_load_blk rfl 28 _ rfl _ rfl (u8s M) _ B9 Tryd.underlying28 rfl u2 ?_) | (refine wpList_alloc_new rfl 28 rfl 32 _ zeroAH ?_; intro w10 b10 s10 l10) | (refine wpList_store_blk rfl 28 28 _ _ rfl _ rfl _ (u8s M) rfl b10 (by rw [u8s_length, HM.out.2.1, u8s_length, zer_length]) u2 (u8s_one _) ?_; intro w11 b11 s11 k11; have c31 := u8s_cell b11 31 (by rw [HM.out.2.1]; omega); have f31 := b11.frozen 31; obtain ⟨y, hy⟩ : ∃ y, M.getD 31 0 = y := ⟨_, rfl⟩; rw [hy] at c31))
      obtain ⟨q2, hq2⟩ : ∃ q2, w9.heap.size = q2 := ⟨_, rfl⟩
      rw [hq2] at b11 ⊢
      obtain ⟨M2, hM2⟩ : ∃ M2, M.set 31 (bits .xor .u8 y 1) = M2 := ⟨_, rfl⟩
      have HM2 : Hid (M2.length = 32 ∧ Bytes M2 ∧ ¬ mac key pss.flatten = M2) := by
        refine ⟨by rw [← hM2, List.length_set]; exact HM.out.2.1, fun z hz => ?_, fun e => ?_⟩
        · rw [← hM2] at hz
          rcases List.mem_or_eq_of_mem_set hz with h | rfl
          · exact HM.out.2.2 z h
          · exact xor8_in _ _
        · rw [HM.out.1, ← hM2] at e
          have h31 : M.getD 31 0 = (M.set 31 (bits .xor .u8 y 1)).getD 31 0 := by rw [← e]
          rw [hy] at h31
          have h3 : (M.set 31 (bits .xor .u8 y 1)).getD 31 0 = bits .xor .u8 y 1 := by simp [List.getD, HM.out.2.1]
          rw [h3] at h31
          have hyb : 0 ≤ y ∧ y < 256 := by rw [← hy]; exact HM.out.2.2 _ (by have := HM.out.2.1; simp [List.getD, this])
          exact xor_one y hyb h31.symm
      have u3 : (Tryd.prog.info? 28).map (·.size) = some (u8s M2).length := by rw [u8s_length, HM2.out.1]; exact sizeAH
      have L12 : Hid (Below w7.heap.size w7 (w11.setCell ⟨q2, 31, none⟩ (.int .u8 (bits .xor .u8 y 1)))) := by
        have zz := Lw9.out.size
        have k12 := (Kept.refl (fun b => b = q2) w11).setCell (p := ⟨q2, 31, none⟩) rfl (.int .u8 (bits .xor .u8 y 1))
        exact below_kept (below_kept (below_chain Lw9.out l10 zz) k11 (by omega) (fun j hj => by omega)) k12 (by have := k11.size; omega) (fun j hj => by omega)
      have B12 : Hid (Blk (w11.setCell ⟨q2, 31, none⟩ (.int .u8 (bits .xor .u8 y 1))) q2 28 (u8s M2)) := by
        have h := b11.set 31 (.int .u8 (bits .xor .u8 y 1))
        rw [u8s_set, hM2] at h
        exact h
      obtain ⟨w12, hw12⟩ : ∃ w12, w11.setCell ⟨q2, 31, none⟩ (.int .u8 (bits .xor .u8 y 1)) = w12 := ⟨_, rfl⟩
      rw [hw12] at L12 B12 ⊢
      clear hw12 hM2 hy b10 b11 k11 l10 s10 s11 c31 f31 hq2 B9
      have LB : ∀ {W : World}, Below w12.heap.size w12 W → Below w7.heap.size w7 W := fun h => below_chain L12.out h L12.out.size
      refine region_invT [.val (.slice (some ⟨gk, 0, none⟩) (kn + 64) ck), .val (.slice ko kn kc), .val (.int .i64 (kn : Int)), .val (.slice (some ⟨gk, 0, none⟩) kn ck), .val (.agg (u8s M2).toArray), .val (.slice lo n lc)] (by kernel_rfl) (by kernel_rfl) (by kernel_rfl) ?_ ?_
      · refine Steps'.cons ?_ (Steps'.cons ?_ (Steps'.cons ?_ (Steps'.cons ?_ (Steps'.cons ?_ (Steps'.cons ?_ (Steps'.one _ _ _ _ _ _ _))))))
        · intro ax wx hb hs hd
          have h5 : ax.tmps.getD 5 undef = (.slice (some ⟨gk, 0, none⟩) (kn + 64) ck) := hs 5 (by kernel_rfl)
          refine Does.value (.slice (some ⟨gk, 0, none⟩) (kn + 64) ck) ?_ rfl
          clear hs hd
          go_simp
        · intro ax wx hb hs hd
          have h0 : ax.tmps.getD 0 undef = (.slice ko kn kc) := hs 0 (by kernel_rfl)
          refine Does.value (.slice ko kn kc) ?_ rfl
          clear hs hd
          go_simp
        · intro ax wx hb hs hd
          have h81 : ax.tmps.getD 81 undef = (.slice ko kn kc) := hd 1 81 rfl (by kernel_rfl) (by decide)
          refine Does.value (.int .i64 (kn : Int)) ?_ rfl
          clear hs hd
          go_simp
        · intro ax wx hb hs hd
          have h80 : ax.tmps.getD 80 undef = (.slice (some ⟨gk, 0, none⟩) (kn + 64) ck) := hd 0 80 rfl (by kernel_rfl) (by decide)
          have h82 : ax.tmps.getD 82 undef = (.int .i64 (kn : Int)) := hd 2 82 rfl (by kernel_rfl) (by decide)
          have hsl := sl_lentS gk (kn + 64) ck kn (by omega) wx
          refine Does.value (.slice (some ⟨gk, 0, none⟩) kn ck) ?_ rfl
          clear hs hd
          go_simp
        · intro ax wx hb hs hd
          have h10 : ax.tmps.getD 10 undef = (.pointer (some ⟨q2, 0, none⟩)) := hs 10 (by kernel_rfl)
          exact Does.load 28 (.tmp 10) rfl q2 0 h10 (u8s M2) _ (blk_allS (B12.out.later hb B12.out.lt)) Tryd.underlying28 rfl u3
        · intro ax wx hb hs hd
          have h7 : ax.tmps.getD 7 undef = (.slice lo n lc) := hs 7 (by kernel_rfl)
          refine Does.value (.slice lo n lc) ?_ rfl
          clear hs hd
          go_simp
      · intro wx hb
        refine @Ends.val _ _ _ _ _ _ _ _ _ (.slice (some ⟨gk, 0, none⟩) (kn + 64) ck) rfl ?_
        refine @Ends.val _ _ _ _ _ _ _ _ _ (.slice ko kn kc) rfl ?_
        refine @Ends.val _ _ _ _ _ _ _ _ _ (.int .i64 (kn : Int)) rfl ?_
        refine @Ends.val _ _ _ _ _ _ _ _ _ (.slice (some ⟨gk, 0, none⟩) kn ck) rfl ?_
        refine @Ends.val _ _ _ _ _ _ _ _ _ (.agg (u8s M2).toArray) rfl ?_
        refine @Ends.val _ _ _ _ _ _ _ _ _ (.slice lo n lc) rfl ?_
        refine @Ends.one _ _ _ _ _ _ _ ?_
        simp only [Act.put, List.setIfInBounds_toArray, List.set_cons_zero, List.set_cons_succ]
        refine Does.wp (base := 0) (E := .val (.bool false)) (Does.call 13 #[(.slice (some ⟨gk, 0, none⟩) kn ck), .agg (u8s M2).toArray, (.slice lo n lc)] (by go_simp) ?_) (fun v w' hv hw' => ?_)
        · refine (check_any _ kn ck key M2 lo n lc pss wx HM2.out.1 HM2.out.2.1 (Seen.lent (HZ.out wx (LB hb)).1 HKS.out.1) (by omega) (HZ.out wx (LB hb)).2.1 (by omega) (by rw [HN.out.2.2]; omega) (HZ.out wx (LB hb)).2.2.2.2.1).mono ?_
          rintro e w9 ⟨rfl, l9⟩
          rw [decide_eq_false HM2.out.2.2]
          exact ⟨_, rfl, rfl, l9⟩
        · obtain rfl : v = .bool false := hv
          have L13 : Hid (Below w7.heap.size w7 w') := below_chain (LB hb) hw' (LB hb).size
          clear hb hw' LB
          simp only [Act.put, List.setIfInBounds_toArray, List.set_cons_zero, List.set_cons_succ]
          obtain ⟨w13, rfl⟩ : ∃ q, q = w' := ⟨_, rfl⟩
          have S13 : Hid (w13.ownsRow w2.heap.size 22 1 (.slice lo n lc) n (cuts gf cf pss n) ∧ (0 < n → RowAt w13 gf (flatA pss)) ∧ RowAt w13 gk (key ++ marks) ∧ Below w.heap.size w w13) := ⟨ownsRow_below O7.out.1 L13.out, fun h => (O7.out.2 h).later L13.out (Nat.le_refl _), (HZ.out w13 L13.out).1, (HZ.out w13 L13.out).2.2.2.2.2.2.2.2⟩
          go_wp2
          go_loopw [11] (fun v wr => ∃ i : Nat, i ≤ n ∧ v = .int .i64 i ∧ (0 < n → RowAt wr gf (flatA (zO pss i))) ∧ Kept (fun b => 0 < n ∧ b = gf) w13 wr) (fun v _ => n - (intOf v).toNat)
          case atStart => exact ⟨0, Nat.zero_le _, rfl, fun h => by rw [zO_zero]; exact S13.out.2.1 h, Kept.refl _ _⟩
          case round =>
            obtain ⟨i, hi, rfl, hr, hkp⟩ := hrel
            by_cases hlt : i < n
            · obtain ⟨O, rfl, hO2⟩ : ∃ O, lo = some ⟨O, 0, none⟩ ∧ w2.heap.size ≤ O := by
                rcases S13.out.1.2 with ⟨_, h0⟩ | ⟨O, cap, cur, e, hO, _⟩
                · omega
                · cases e; exact ⟨O, rfl, hO⟩
              have CH : Hid (∀ W, Kept (fun b => 0 < n ∧ b = gf) w13 W → W.cell? ⟨O, i, none⟩ = some (.slice (some ⟨gf, offs pss i, none⟩) (pss.getD i []).length (cf - offs pss i))) := fun W hW => by
                have h1 := own_kept1S S13.out.1 hW (fun k hk hs => by have := (S13.out.1.lt k hk).1; have := F1.out hs.1; omega)
                rw [h1.cellAt i (by omega)]
                simp [cuts, hlt, lenAt]
              obtain ⟨li, hli⟩ : ∃ li, (pss.getD i []).length = li := ⟨_, rfl⟩
              rw [hli] at CH
              have HLI : Hid ((pss.getD i []).length = li ∧ li ≤ 1048576 ∧ offs pss i + li ≤ (flatA pss).length ∧ offs pss i ≤ cf) := by
                have h1 := offs_le pss (i + 1) n (by omega) (by have := hlen.out; omega)
                rw [offs_succ pss i (by have := hlen.out; omega)] at h1
                have h2 := HOF.out
                have h3 := HCF.out
                have h4 : lenAt pss i = li := hli
                have h5 := mem_len pss i (by have := hlen.out; omega)
                rw [hli, HN.out.2.2] at h5
                exact ⟨hli, by omega, by omega, by omega⟩
              have hli2 : li ≤ 1048576 := HLI.out.2.1
              have i1 : (0 : Int) ≤ (i : Int) := by omega
              have i2 : (i : Int) < (n : Int) := by omega
              have R0 := hr (by omega)
              rw [← zT_zero pss i (by have := hlen.out; omega)] at R0
              have HI : Hid (RowAt wr gf (flatA (zT pss i 0)) ∧ Kept (fun b => 0 < n ∧ b = gf) w13 wr) := ⟨R0, hkp⟩
              clear hr hkp R0 hli
              obtain ⟨w14, rfl⟩ : ∃ q, q = wr := ⟨_, rfl⟩
              go_wp2
              go_loopw [12] (fun v wr => ∃ j : Nat, j ≤ li ∧ v = .int .i64 j ∧ RowAt wr gf (flatA (zT pss i j)) ∧ Kept (fun b => 0 < n ∧ b = gf) w13 wr) (fun v _ => li - (intOf v).toNat)
              case atStart => exact ⟨0, Nat.zero_le _, rfl, HI.out.1, HI.out.2⟩
              case round =>
                clear HI
                obtain ⟨j, hj, rfl, hr, hkp⟩ := hrel
                have cH := CH.out wr hkp
                by_cases hl2 : j < li
                · have hll := HLI.out.1
                  have hbd : offs pss i + j < (flatA (zT pss i j)).length := by rw [zT_length pss i j (by have := hlen.out; omega) (by omega)]; have := HLI.out.2.2.1; omega
                  have c1 := hr.cell (offs pss i + j) hbd
                  rw [zT_at pss i j (by omega)] at c1
                  obtain ⟨y, hy⟩ : ∃ y, (pss.getD i []).getD j 0 = y := ⟨_, rfl⟩
                  rw [hy] at c1
                  have HY : Hid ((pss.getD i []).getD j 0 = y) := hy
                  have HR : Hid (RowAt wr gf (flatA (zT pss i j)) ∧ Kept (fun b => 0 < n ∧ b = gf) w13 wr ∧ offs pss i + j < (flatA (zT pss i j)).length) := ⟨hr, hkp, hbd⟩
                  have HH : Hid (∀ W, Below wr.heap.size wr W → W.cell? ⟨O, i, none⟩ = some (.slice (some ⟨gf, offs pss i, none⟩) li (cf - offs pss i)) ∧ W.cell? ⟨gf, offs pss i + j, none⟩ = some (.int .u8 y)) := fun W hW => ⟨CH.out W (hkp.trans (Kept.new _ hW)), (hW.cell (p := ⟨gf, offs pss i + j, none⟩) hr.lt).trans c1⟩
                  have j1 : (0 : Int) ≤ (j : Int) := by omega
                  have j2 : (j : Int) < (li : Int) := by omega
                  clear hr hkp hy c1 hbd
                  go_wp2
                  refine region_invT [.val (.slice (some ⟨O, 0, none⟩) n lc), .val (.int .i64 (i : Int)), .val (.pointer (some ⟨O, i, none⟩)), .val (.slice (some ⟨gf, offs pss i, none⟩) li (cf - offs pss i)), .val (.int .i64 (j : Int)), .val (.slice (some ⟨O, 0, none⟩) n lc), .val (.int .i64 (i : Int)), .val (.pointer (some ⟨O, i, none⟩)), .val (.slice (some ⟨gf, offs pss i, none⟩) li (cf - offs pss i)), .val (.int .i64 (j : Int)), .val (.pointer (some ⟨gf, offs pss i + j, none⟩)), .val (.int .u8 y), .val (.int .u8 (bits .xor .u8 y 33)), .val (.pointer (some ⟨gf, offs pss i + j, none⟩))] (by kernel_rfl) (by kernel_rfl) (by kernel_rfl) ?_ ?_
                  · refine Steps'.cons ?_ (Steps'.cons ?_ (Steps'.cons ?_ (Steps'.cons ?_ (Steps'.cons ?_ (Steps'.cons ?_ (Steps'.cons ?_ (Steps'.cons ?_ (Steps'.cons ?_ (Steps'.cons ?_ (Steps'.cons ?_ (Steps'.cons ?_ (Steps'.cons ?_ (Steps'.cons ?_ (Steps'.one _ _ _ _ _ _ _))))))))))))))
                    · intro ax wx hb hs hd
                      have h7 : ax.tmps.getD 7 undef = (.slice (some ⟨O, 0, none⟩) n lc) := hs 7 (by kernel_rfl)
                      refine Does.value (.slice (some ⟨O, 0, none⟩) n lc) ?_ rfl
                      clear hs hd
                      go_simp
                    · intro ax wx hb hs hd
                      have h11 : ax.tmps.getD 11 undef = (.int .i64 (i : Int)) := hs 11 (by kernel_rfl)
                      refine Does.value (.int .i64 (i : Int)) ?_ rfl
                      clear hs hd
                      go_simp
                    · intro ax wx hb hs hd
                      have h102 : ax.tmps.getD 102 undef = (.slice (some ⟨O, 0, none⟩) n lc) := hd 0 102 rfl (by kernel_rfl) (by decide)
                      have h103 : ax.tmps.getD 103 undef = (.int .i64 (i : Int)) := hd 1 103 rfl (by kernel_rfl) (by decide)
                      refine Does.value (.pointer (some ⟨O, i, none⟩)) ?_ rfl
                      clear hs hd
                      go_simp
                    · intro ax wx hb hs hd
                      have h104 : ax.tmps.getD 104 undef = (.pointer (some ⟨O, i, none⟩)) := hd 2 104 rfl (by kernel_rfl) (by decide)
                      have hc2 := (HH.out wx hb).1
                      refine Does.value (.slice (some ⟨gf, offs pss i, none⟩) li (cf - offs pss i)) ?_ rfl
                      clear hs hd
                      go_simp
                    · intro ax wx hb hs hd
                      have h12 : ax.tmps.getD 12 undef = (.int .i64 (j : Int)) := hs 12 (by kernel_rfl)
                      refine Does.value (.int .i64 (j : Int)) ?_ rfl
                      clear hs hd
                      go_simp
                    · intro ax wx hb hs hd
                      have h7 : ax.tmps.getD 7 undef = (.slice (some ⟨O, 0, none⟩) n lc) := hs 7 (by kernel_rfl)
                      refine Does.value (.slice (some ⟨O, 0, none⟩) n lc) ?_ rfl
                      clear hs hd
                      go_simp
                    · intro ax wx hb hs hd
                      have h11 : ax.tmps.getD 11 undef = (.int .i64 (i : Int)) := hs 11 (by kernel_rfl)
                      refine Does.value (.int .i64 (i : Int)) ?_ rfl
                      clear hs hd
                      go_simp
                    · intro ax wx hb hs hd
                      have h107 : ax.tmps.getD 107 undef = (.slice (some ⟨O, 0, none⟩) n lc) := hd 5 107 rfl (by kernel_rfl) (by decide)
                      have h108 : ax.tmps.getD 108 undef = (.int .i64 (i : Int)) := hd 6 108 rfl (by kernel_rfl) (by decide)
                      refine Does.value (.pointer (some ⟨O, i, none⟩)) ?_ rfl
                      clear hs hd
                      go_simp
                    · intro ax wx hb hs hd
                      have h109 : ax.tmps.getD 109 undef = (.pointer (some ⟨O, i, none⟩)) := hd 7 109 rfl (by kernel_rfl) (by decide)
                      have hc2 := (HH.out wx hb).1
                      refine Does.value (.slice (some ⟨gf, offs pss i, none⟩) li (cf - offs pss i)) ?_ rfl
                      clear hs hd
                      go_simp
                    · intro ax wx hb hs hd
                      have h12 : ax.tmps.getD 12 undef = (.int .i64 (j : Int)) := hs 12 (by kernel_rfl)
                      refine Does.value (.int .i64 (j : Int)) ?_ rfl
                      clear hs hd
                      go_simp
                    · intro ax wx hb hs hd
                      have h110 : ax.tmps.getD 110 undef = (.slice (some ⟨gf, offs pss i, none⟩) li (cf - offs pss i)) := hd 8 110 rfl (by kernel_rfl) (by decide)
                      have h111 : ax.tmps.getD 111 undef = (.int .i64 (j : Int)) := hd 9 111 rfl (by kernel_rfl) (by decide)
                      refine Does.value (.pointer (some ⟨gf, offs pss i + j, none⟩)) ?_ rfl
                      clear hs hd
                      go_simp
                    · intro ax wx hb hs hd
                      have h112 : ax.tmps.getD 112 undef = (.pointer (some ⟨gf, offs pss i + j, none⟩)) := hd 10 112 rfl (by kernel_rfl) (by decide)
                      have hc3 := (HH.out wx hb).2
                      refine Does.value (.int .u8 y) ?_ rfl
                      clear hs hd
                      go_simp
                    · intro ax wx hb hs hd
                      have h113 : ax.tmps.getD 113 undef = (.int .u8 y) := hd 11 113 rfl (by kernel_rfl) (by decide)
                      refine Does.value (.int .u8 (bits .xor .u8 y 33)) ?_ rfl
                      clear hs hd
                      go_simp
                    · intro ax wx hb hs hd
                      have h105 : ax.tmps.getD 105 undef = (.slice (some ⟨gf, offs pss i, none⟩) li (cf - offs pss i)) := hd 3 105 rfl (by kernel_rfl) (by decide)
                      have h106 : ax.tmps.getD 106 undef = (.int .i64 (j : Int)) := hd 4 106 rfl (by kernel_rfl) (by decide)
                      refine Does.value (.pointer (some ⟨gf, offs pss i + j, none⟩)) ?_ rfl
                      clear hs hd
                      go_simp
                  · intro wx hb
                    refine @Ends.val _ _ _ _ _ _ _ _ _ (.slice (some ⟨O, 0, none⟩) n lc) rfl ?_
                    refine @Ends.val _ _ _ _ _ _ _ _ _ (.int .i64 (i : Int)) rfl ?_
                    refine @Ends.val _ _ _ _ _ _ _ _ _ (.pointer (some ⟨O, i, none⟩)) rfl ?_
                    refine @Ends.val _ _ _ _ _ _ _ _ _ (.slice (some ⟨gf, offs pss i, none⟩) li (cf - offs pss i)) rfl ?_
                    refine @Ends.val _ _ _ _ _ _ _ _ _ (.int .i64 (j : Int)) rfl ?_
                    refine @Ends.val _ _ _ _ _ _ _ _ _ (.slice (some ⟨O, 0, none⟩) n lc) rfl ?_
                    refine @Ends.val _ _ _ _ _ _ _ _ _ (.int .i64 (i : Int)) rfl ?_
                    refine @Ends.val _ _ _ _ _ _ _ _ _ (.pointer (some ⟨O, i, none⟩)) rfl ?_
                    refine @Ends.val _ _ _ _ _ _ _ _ _ (.slice (some ⟨gf, offs pss i, none⟩) li (cf - offs pss i)) rfl ?_
                    refine @Ends.val _ _ _ _ _ _ _ _ _ (.int .i64 (j : Int)) rfl ?_
                    refine @Ends.val _ _ _ _ _ _ _ _ _ (.pointer (some ⟨gf, offs pss i + j, none⟩)) rfl ?_
                    refine @Ends.val _ _ _ _ _ _ _ _ _ (.int .u8 y) rfl ?_
                    refine @Ends.val _ _ _ _ _ _ _ _ _ (.int .u8 (bits .xor .u8 y 33)) rfl ?_
                    refine @Ends.val _ _ _ _ _ _ _ _ _ (.pointer (some ⟨gf, offs pss i + j, none⟩)) rfl ?_
                    refine @Ends.one _ _ _ _ _ _ _ ?_
                    simp only [Act.put, List.setIfInBounds_toArray, List.set_cons_zero, List.set_cons_succ]
                    refine last_byteR (.tmp 115) (.tmp 114) rfl rfl gf (offs pss i + j) rfl (flatA (zT pss i j)) (bits .xor .u8 y 33) rfl (HR.out.1.later hb (Nat.le_refl _)) HR.out.2.2 (fun hR => ?_)
                    rw [← HY.out, zT_set pss i j (by omega)] at hR
                    rw [HY.out] at hR
                    have HR2 : Hid (RowAt (wx.setCell ⟨gf, offs pss i + j, none⟩ (.int .u8 (bits .xor .u8 y 33))) gf (flatA (zT pss i (j + 1))) ∧ Kept (fun b => 0 < n ∧ b = gf) w13 (wx.setCell ⟨gf, offs pss i + j, none⟩ (.int .u8 (bits .xor .u8 y 33)))) := ⟨hR, (HR.out.2.1.trans (Kept.new _ hb)).setCell ⟨by omega, rfl⟩ _⟩
                    clear hR hb
                    go_wp2
                    exact ⟨⟨j + 1, by omega, by go_num, HR2.out.1, HR2.out.2⟩, by simp [intOf]; omega⟩
                · obtain rfl : j = li := by omega
                  have e3 := HLI.out.1
                  have hr2 := hr
                  rw [← e3, zT_all pss i (by have := hlen.out; omega)] at hr2
                  have HE : Hid (RowAt wr gf (flatA (zO pss (i + 1))) ∧ Kept (fun b => 0 < n ∧ b = gf) w13 wr) := ⟨hr2, hkp⟩
                  clear hr hr2 hkp e3
                  go_wp2
                  exact ⟨⟨i + 1, by omega, by go_num, fun _ => HE.out.1, HE.out.2⟩, by simp [intOf]; omega⟩
            · obtain rfl : i = n := by omega
              have hT : 0 < i → RowAt wr gf (flatA (pss.map (turn 33))) := fun h => by have := hr h; rwa [← hlen.out, zO_all] at this
              obtain ⟨ps2, hp2⟩ : ∃ p, pss.map (turn 33) = p := ⟨_, rfl⟩
              have HP2 : Hid (ps2.length = i ∧ ps2.flatten.length ≤ 1048576 ∧ (∀ j, j < i → Bytes (ps2.getD j []) ∧ (ps2.getD j []).length ≤ 140737488355328) ∧ Bytes ps2.flatten) := by
                have hb : ∀ j, Bytes (ps2.getD j []) := fun j => by rw [← hp2, getD_map]; exact turn_bytes _ _
                refine ⟨by rw [← hp2, List.length_map]; exact hlen.out, by rw [← hp2, flatten_map, HN.out.2.2]; exact hall, fun j hj => ⟨hb j, by rw [← hp2, getD_map, turn_length]; exact (HBY.out j hj).2⟩, fun z hz => ?_⟩
                obtain ⟨l, hl, hzl⟩ := List.mem_flatten.1 hz
                rw [← hp2] at hl
                obtain ⟨l0, _, rfl⟩ := List.mem_map.1 hl
                exact turn_bytes _ _ z hzl
              have S15 : Hid (SeenP wr lo i ps2 ∧ RowAt wr gk (key ++ marks) ∧ Below w.heap.size w wr) := by
                have bel : Below w.heap.size w wr := below_kept S13.out.2.2.2 hkp (by have := S13.out.2.2.2.size; omega) (fun j hj hs => by have := F1.out hs.1; omega)
                have ho := own_kept1S S13.out.1 hkp (fun k hk hs => by have := (S13.out.1.lt k hk).1; have := F1.out hs.1; omega)
                rw [← cuts_map, hp2] at ho
                rw [hp2] at hT
                exact ⟨cut_parts HP2.out.1 ho hT (by rw [← hp2, flatA_len_map]; exact HCF.out) HP2.out.2.2.1, S13.out.2.2.1.kept hkp (fun hs => by have := F1.out hs.1; omega), bel⟩
              clear hr hkp hT hp2
              obtain ⟨w15, rfl⟩ : ∃ q, q = wr := ⟨_, rfl⟩
              obtain ⟨M3, hM3⟩ : ∃ M3, mac key ps2.flatten = M3 := ⟨_, rfl⟩
              have HM3 : Hid (mac key ps2.flatten = M3) := hM3
              obtain ⟨t2, ht2⟩ : ∃ t2, ps2.flatten.length = t2 := ⟨_, rfl⟩
              have HT2 : Hid (ps2.flatten.length = t2 ∧ t2 ≤ 1048576) := ⟨ht2, by rw [← ht2]; exact HP2.out.2.1⟩
              have heq3 : ∀ wx, (Op.equalIn 10000 28 (.agg (u8s M3).toArray) (.agg (u8s M3).toArray)).run Tryd.prog wx = .ok true wx := equal_self 9998 M3 (by rw [← hM3]; exact mac_length _ _)
              have hsl := fun W => sl_lentS gk (kn + 64) ck kn (by omega) W
              have K15 := HX.out.2.below S15.out.2.2 HX.out.2.lt
              clear hM3 ht2
              go_wp2_with (first | (go_at_call 17; refine (twins_any lo i lc ps2 w15 (S15.out.1.l hn)).mono ?_; rintro e w16 ⟨v16, hd16, rfl, o16, l16⟩; obtain ⟨ao, ac, rfl, j16⟩ := own_join HP2.out.1 hn HP2.out.2.1 o16 HP2.out.2.2.1; have K16 := K15.below l16 K15.lt) | ((with_reducible show Calls _ _ _ w16 _); go_at_call 12; refine (vsum_any _ kn ck key lo i lc ps2 w16 (Seen.lent (S15.out.2.1.later l16 (Nat.le_refl _)) HKS.out.1) (by omega) (S15.out.1.later l16 (Nat.le_refl _)) (by omega) (by have := HP2.out.2.1; omega) K16).mono ?_; rintro e w17 ⟨rfl, l17⟩; rw [HM3.out]) | (go_at_call 10; refine (rjoin_any ao i ac ps2 w17 (j16.later l17)).mono ?_; rintro e w18 ⟨v18, rfl, o18, l18⟩; obtain ⟨uo, uc, rfl, s18, _, t18, _, _⟩ := own_data HP2.out.2.2.2 (by have := HP2.out.2.1; omega) o18; rw [HT2.out.1] at s18 ⊢; have B18 : Below w.heap.size w w18 := below_chain (below_chain (below_chain S15.out.2.2 l16 S15.out.2.2.size) l17 (by have := S15.out.2.2.size; have := l16.size; omega)) l18 (by have := S15.out.2.2.size; have := l16.size; have := l17.size; omega)) | ((with_reducible show Calls _ _ _ w18 _); go_at_call 11; refine (rvsum_any ko kn kc key uo t2 uc ps2.flatten w18 (HKS.out.1.later B18 (Nat.le_refl _)) HKS.out.2.2 (by omega) s18 t18 (by have := HT2.out.2; omega)).mono ?_; rintro e w19 ⟨rfl, l19⟩; rw [HM3.out]) | (go_at_call 18; refine (works_any w19 (HX.out.2.below (below_chain B18 l19 B18.size) HX.out.2.lt)).mono ?_; rintro e w20 ⟨rfl, l20⟩))
              go_ret
              exact ⟨rfl, below_chain (below_chain B18 l19 B18.size) l20 (by have := B18.size; have := l19.size; omega)⟩
end Go.Proofs.YtiimjhahblmggaaDoor.deriveSums
