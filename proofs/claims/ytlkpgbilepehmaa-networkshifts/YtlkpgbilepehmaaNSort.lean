/- Layer network: Sort of numbers. -/
import Derived.Test.YtlkpgbilepehmaaNMath
import Derived.Test.YtlkpgbilepehmaaNInts
import Derived.Test.YtlkpgbilepehmaaNFlat
import Derived.Test.YtlkpgbilepehmaaNLen2
namespace Go.Proofs.Ytlkpgbilepehmaa
open Go.RowKit Go.Shelf
set_option linter.unusedVariables false
set_option linter.unusedSimpArgs false
attribute [local go_sem] Oper.semAt_some

/-- A gate whose places are places, whatever gate it is. -/
def clG (N : Nat) (x : Int × Int) : Int × Int := if 0 ≤ x.1 ∧ x.1 < N ∧ 0 ≤ x.2 ∧ x.2 < N ∧ x.1 ≠ x.2 then x else (0, 1)
theorem clG_in (N : Nat) (hN : 2 ≤ N) (x : Int × Int) : ∃ a b : Nat, clG N x = ((a : Int), (b : Int)) ∧ a < N ∧ b < N ∧ a ≠ b := by
  unfold clG
  split
  · rename_i h
    exact ⟨x.1.toNat, x.2.toNat, Prod.ext (by simp; omega) (by simp; omega), by omega, by omega, by omega⟩
  · exact ⟨0, 1, rfl, by omega, by omega, by omega⟩
theorem clG_id (N : Nat) (a b : Nat) (ha : a < N) (hb : b < N) (hab : a ≠ b) : clG N ((a : Int), (b : Int)) = ((a : Int), (b : Int)) := by
  unfold clG; rw [if_pos]; exact ⟨by simp, by simp; omega, by simp, by simp; omega, by simp; omega⟩
theorem clG_gate (L N : Nat) (hN : 2 ^ L = N) (f e i : Nat) (he : e < L) (hi : i < N) (hb : i / 2 ^ e % 2 = 0) : clG N (gateN f e i) = gateN f e i := by
  subst hN
  have hr := in_range L e i he hi hb
  have hp : 0 < 2 ^ e := Nat.pow_pos (by decide)
  unfold gateN
  split
  · exact clG_id _ _ _ hi hr (by omega)
  · exact clG_id _ _ _ hr hi (by omega)
theorem clG_gates (L : Nat) (hL : L ≤ 16) : (gatesL L).map (clG (2 ^ L)) = gatesL L := by
  have : ∀ x ∈ gatesL L, clG (2 ^ L) x = x := fun x hx => by
    obtain ⟨a, b, rfl, ha, hb, hab⟩ := gates_in L hL x hx
    exact clG_id _ a b ha hb hab
  exact (List.map_congr_left this).trans (List.map_id _)
theorem rowI_own' {β : Type} {B g c : Nat} (f : β → List Int) : OwnFrom B (fun s W => RowI W g c (f s)) := fun s X Y row hs hg hr =>
  hs.block (hg.block g hs.lt (fun e => by obtain ⟨_, o, h1, h2⟩ := hr g e.symm; obtain ⟨rest, _, h3⟩ := hs; rw [h3] at h1; cases h1; cases h2))
theorem Above.up {B C : Nat} {V V' : World} (h : Above B V V') (hBC : B ≤ C) : Above C V V' := ⟨h.size, fun k hk hl => h.same k (by omega) hl⟩
theorem Above.grown {B g : Nat} {V V' : World} (h : V.grownBy V' (some g)) (hg : g < B) : Above B V V' := ⟨h.size, fun k hk hl => h.block k hl (fun e => by have := Option.some.inj e; omega)⟩
theorem gstep_yes (lt : Int → Int → Bool) (ys : List Int) (a b : Nat) (h : lt (ys.getD b 0) (ys.getD a 0) = true) : gstep lt ys ((a : Int), (b : Int)) = trade ys a b := by
  unfold gstep; simp only [Int.toNat_natCast]; exact if_pos h
theorem gstep_no (lt : Int → Int → Bool) (ys : List Int) (a b : Nat) (h : lt (ys.getD b 0) (ys.getD a 0) = false) : gstep lt ys ((a : Int), (b : Int)) = ys := by
  unfold gstep; simp only [Int.toNat_natCast]; exact if_neg (by show ¬ lt (ys.getD b 0) (ys.getD a 0) = true; rw [h]; decide)

set_option maxRecDepth 100000 in
set_option maxHeartbeats 4000000 in
theorem sort_yes (L : Nat) (hL : L ≤ 16) (N : Nat) (hN : 2 ^ L = N) (ao : Option Addr) (c : Nat) (zs : List Int) (B : FuncId) (caps : Array Value) (lt : Int → Int → Bool) (w : World) (hs : SeenZ w ao N zs) (hc : ao = none → c = 0)
    (hent : ∀ args w, (callFunc B args).run Try.prog w = .ok (.enter B args) w)
    (hbf : ∀ a b W, Below w.heap.size w W → Calls Try.prog B (#[.int .i64 a, .int .i64 b] ++ caps) W fun e W' => e = .returned (.bool (lt a b)) ∧ Below W.heap.size W W') :
    Calls Try.prog 23 #[.slice ao N c, .func (.func B) #[] caps] w fun e w' => ∃ g cp, e = .returned (.tuple #[.slice (some ⟨g, 0, none⟩) N cp, .int .i64 0]) ∧ w.heap.size ≤ g ∧ cp ≤ maxLen ∧ RowI w' g cp (gfold lt zs (gatesL L)) ∧ Below w.heap.size w w' := by
  have hN1 : 1 ≤ N := by rw [← hN]; exact Nat.pow_pos (by decide)
  have hN2 : N ≤ 65536 := by rw [← hN]; exact Nat.pow_le_pow_right (by decide) hL
  have HI : Hid (∀ w, Calls Try.prog 37 #[.int .i64 (N : Int)] w fun e w' => e = .returned (.bool true) ∧ w = w') := by
    show ∀ w, Calls Try.prog 37 #[.int .i64 (N : Int)] w fun e w' => e = .returned (.bool true) ∧ w = w'
    rw [← hN]; exact fun w => isSize_yes L hL w
  have HN : Hid (2 ^ L = N) := hN
  clear hN
  have h0 : ((N : Int) == 0) = false := by simp; omega
  have h0' : ¬ (N : Int) = 0 := by omega
  refine (callsIn_wide (n := 30)).1 ?_
  refine callsIn_of_wp_marks Try.func23 rfl trivial ?_ rfl
  simp only [Try.ntmps23, List.size_toArray, List.length_cons, List.length_nil, Nat.reduceAdd, Nat.reduceSub, Array.replicate_succ, Array.replicate_zero, List.push_toArray, List.append_toArray, List.nil_append, List.cons_append]
  gi_wp2_with (first | (refine ⟨trivial, ?_⟩; gi_at_call 37; refine (callsIn_wide.2 (HI.out _)).mono ?_; rintro e w' ⟨rfl, rfl⟩) | (refine ⟨trivial, ?_⟩; gi_at_call 42; refine (callsIn_wide.2 (sclone_any ao N c zs _ (hs.later ((Below.refl _ w).alloc (Nat.le_refl _) _) (Nat.le_refl _)) (by omega) hc)).mono ?_; rintro e w1 ⟨v, rfl, o1, b1⟩; obtain ⟨g, cp, rfl, hg, hcp, r1⟩ := own_rowI o1 (by omega); clear o1) | (refine ⟨trivial, ?_⟩; gi_at_call 10; refine (bit_in _ _ trivial rfl _ _).mono ?_; rintro e w' ⟨rfl, rfl⟩))
  have bF : Boxed w1 w.heap.size 31 (.func (.func B) #[] caps) := (b1.block w.heap.size (by simp)).trans (Boxed.new w _ _)
  have hgw : w.heap.size < g := by have := hg; simp at this; omega
  have hw1 : Below w.heap.size w w1 := ((Below.refl _ w).alloc (Nat.le_refl _) _).trans ⟨b1.os, b1.tape, b1.output, b1.size, fun k hk => b1.block k (by simp; omega)⟩
  have hgl := r1.lt
  have hzl := hs.len
  clear hg b1
  have bF0 := (bF.alloc (.cells #[.slice (some ⟨g, 0, none⟩) N cp] 44)).alloc (.cells #[.int .i64 (N : Int)] 3)
  have bS0 := (Boxed.new w1 44 (.slice (some ⟨g, 0, none⟩) N cp)).alloc (.cells #[.int .i64 (N : Int)] 3)
  have bN0 := Boxed.new (w1.alloc (.cells #[.slice (some ⟨g, 0, none⟩) N cp] 44)) 3 (.int .i64 (N : Int))
  simp only [World.size_alloc] at bN0
  have hB0 : Below w.heap.size w ((w1.alloc (.cells #[.slice (some ⟨g, 0, none⟩) N cp] 44)).alloc (.cells #[.int .i64 (N : Int)] 3)) := (hw1.alloc hw1.size _).alloc (by simp; have := hw1.size; omega) _
  have r0 : RowI ((w1.alloc (.cells #[.slice (some ⟨g, 0, none⟩) N cp] 44)).alloc (.cells #[.int .i64 (N : Int)] 3)) g cp zs := (r1.block (Below.heap_alloc _ _ _ hgl)).block (Below.heap_alloc _ _ _ (by simp; omega))
  have hsz : ((w1.alloc (.cells #[.slice (some ⟨g, 0, none⟩) N cp] 44)).alloc (.cells #[.int .i64 (N : Int)] 3)).heap.size = w1.heap.size + 2 := by simp
  obtain ⟨W0, hW0⟩ : ∃ W0, (w1.alloc (.cells #[.slice (some ⟨g, 0, none⟩) N cp] 44)).alloc (.cells #[.int .i64 (N : Int)] 3) = W0 := ⟨_, rfl⟩
  rw [hW0] at bF0 bS0 bN0 hB0 r0 hsz ⊢
  have HS : Hid (W0.heap.size = w1.heap.size + 2 ∧ w.heap.size < g ∧ g < w1.heap.size ∧ w.heap.size ≤ w1.heap.size ∧ zs.length = N) := ⟨hsz, hgw, hgl, hw1.size, hzl⟩
  have hR0 : w.heap.size ≤ W0.heap.size := by have := HS.out; omega
  clear hW0 hsz hgw hgl hw1 hzl bF r1 hs
  refine range_own rfl (by omega) (gf := 33) (lb := #[.pointer (some ⟨w1.heap.size + 1, 0, none⟩)]) rfl trivial (enters_of Try.func33 (by kernel_rfl) rfl)
    (bit_stops 29 (w1.heap.size + 1) L N hL HN.out (clG N) (fun f e i he hi hb => clG_gate L N HN.out f e i he hi hb) W0 HI.out bN0)
    (fun h k => ⟨kpB_t h.1 k.1, h.2.trans k.2⟩) (fun W o o' h hc => ⟨fun x => x.kept (grownBy_putObj' W _ o') (fun e => by have := HS.out; have e2 := Option.some.inj e; omega), Above.put W o' (by omega)⟩) (fun _ => rfl)
    (fun pre W => (RowI W g cp (gfold lt zs (List.map (clG N) pre)) ∧ Below w.heap.size w W) ∧ ((Boxed W w.heap.size 31 (.func (.func B) #[] caps) ∧ Boxed W w1.heap.size 44 (.slice (some ⟨g, 0, none⟩) N cp)) ∧ Boxed W (w1.heap.size + 1) 3 (.int .i64 (N : Int))))
    (fun cc pre W => False)
    (OwnFrom.and (OwnFrom.and (rowI_own' _) (ownFrom_below (Nat.le_refl _) hR0)) (OwnFrom.and (OwnFrom.and (Own.from (boxed_own _ _ _) _) (Own.from (boxed_own _ _ _) _)) (Own.from (boxed_own _ _ _) _)))
    (fun cc => ownFrom_pure _ (fun _ => False))
    ⟨⟨r0, hB0⟩, ⟨bF0, bS0⟩, bN0⟩
    (fun x a' W => ∃ Bx, W0.heap.size ≤ Bx ∧ TwoG W Bx (clG N x) ∧ a' = { tmps := #[.slice ao N c, .func (.func B) #[] caps, undef, .pointer (some ⟨w.heap.size, 0, none⟩), .slice none 0 0, .int .i64 0, .pointer (some ⟨w1.heap.size, 0, none⟩), .pointer (some ⟨Bx, 0, none⟩), .slice ao N c, .int .i64 N, .bool false, .slice ao N c, .int .i64 N, .bool true, .bool false, .slice ao N c, .slice (some ⟨g, 0, none⟩) N cp, .slice (some ⟨g, 0, none⟩) N cp, .int .i64 N, .func (.func 33) #[] #[.pointer (some ⟨w1.heap.size + 1, 0, none⟩)], .agg #[.int .i64 (clG N x).1, .int .i64 (clG N x).2], undef, undef, undef, undef, undef, undef, undef, undef, undef, undef, undef, undef, undef, undef, undef, undef, undef, undef, undef], defers := [] })
    (fun x a' _ X Y row hs hg hr => by obtain ⟨Bx, h1, h2, h3⟩ := hs; exact ⟨Bx, h1, twoG_own Bx (clG N x) () X Y row h2 hg (fun r e => (hr r e).2), h3⟩)
    ?assign ?body ?done ?stop
  case assign =>
    rintro l pre x W K ⟨⟨hr, hB1⟩, ⟨bF1, bS1⟩, bN1⟩ hK
    simp only [hopV]
    gi_wp2
    refine hK _ _ ((KeepsOthers.alloc _ _).from _) ⟨fun h => h.alloc _, Above.below ((Below.refl _ W).alloc (Nat.le_refl _) _)⟩ ⟨⟨hr.block (Below.heap_alloc _ _ _ hr.lt), hB1.alloc hB1.size _⟩, ⟨bF1.alloc _, bS1.alloc _⟩, bN1.alloc _⟩ ⟨W.heap.size, by have := bN1.lt; have := HS.out; omega, ?_, rfl⟩
    exact World.alloc_heap_new W _
  case body =>
    rintro l pre x a' W hl hr0 ⟨⟨hr, hB1⟩, ⟨bF1, bS1⟩, bN1⟩ ⟨Bx, hBx, bX, rfl⟩ hlt
    have hNN : 2 ≤ N := by
      rw [← HN.out]
      rcases Nat.eq_zero_or_pos L with h | h
      · subst h; simp [gatesL, gts, stepsK] at hlt
      · exact Nat.le_trans (by decide : 2 ≤ 2 ^ 1) (Nat.pow_le_pow_right (by decide) h)
    obtain ⟨a, b, hab, ha, hb, hne⟩ := clG_in N hNN x
    obtain ⟨ys, hys⟩ : ∃ ys, gfold lt zs (List.map (clG N) pre) = ys := ⟨_, rfl⟩
    have hyl : ys.length = N := by rw [← hys, gfold_length]; exact HS.out.2.2.2.2
    have HY : Hid (gfold lt zs (List.map (clG N) (pre ++ [x])) = gstep lt ys ((a : Int), (b : Int)) ∧ ys.length = N) := ⟨by rw [List.map_append, List.map_cons, List.map_nil, gfold_snoc, hys, hab], hyl⟩
    rw [hab] at bX ⊢
    rw [hys] at hr
    have cF : W.drew.cell? ⟨w.heap.size, 0, none⟩ = _ := bF1.cell
    have cS : W.drew.cell? ⟨w1.heap.size, 0, none⟩ = _ := bS1.cell
    have c0 : W.drew.cell? ⟨Bx, 0, none⟩ = _ := bX.fst
    have c1 : W.drew.cell? ⟨Bx, 1, none⟩ = _ := bX.snd
    have d0 : W.drew.cell? ⟨g, a, none⟩ = _ := hr.cell a (by omega)
    have d1 : W.drew.cell? ⟨g, b, none⟩ = _ := hr.cell b (by omega)
    clear hab hys hyl hlt
    gi_wp2
    refine Go.wpIn_mono (Q := fun e a' w' => e = .normal ∧ a' = { tmps := #[.slice ao N c, .func (.func B) #[] caps, undef, .pointer (some ⟨w.heap.size, 0, none⟩), .slice none 0 0, .int .i64 0, .pointer (some ⟨w1.heap.size, 0, none⟩), .pointer (some ⟨Bx, 0, none⟩), .slice ao N c, .int .i64 N, .bool false, .slice ao N c, .int .i64 N, .bool true, .bool false, .slice ao N c, .slice (some ⟨g, 0, none⟩) N cp, .slice (some ⟨g, 0, none⟩) N cp, .int .i64 N, .func (.func 33) #[] #[.pointer (some ⟨w1.heap.size + 1, 0, none⟩)], .agg #[.int .i64 (a : Int), .int .i64 (b : Int)], .func (.func B) #[] caps, .slice (some ⟨g, 0, none⟩) N cp, .pointer (some ⟨Bx, 1, none⟩), .int .i64 (b : Int), .pointer (some ⟨g, b, none⟩), .int .i64 (ys.getD b 0), .slice (some ⟨g, 0, none⟩) N cp, .pointer (some ⟨Bx, 0, none⟩), .int .i64 (a : Int), .pointer (some ⟨g, a, none⟩), .int .i64 (ys.getD a 0), .bool (lt (ys.getD b 0) (ys.getD a 0)), undef, undef, undef, undef, undef, undef, undef], defers := [] } ∧ Below W.heap.size W w') ?_ ?_
    · refine region_flat { tmps := #[.slice ao N c, .func (.func B) #[] caps, undef, .pointer (some ⟨w.heap.size, 0, none⟩), .slice none 0 0, .int .i64 0, .pointer (some ⟨w1.heap.size, 0, none⟩), .pointer (some ⟨Bx, 0, none⟩), .slice ao N c, .int .i64 N, .bool false, .slice ao N c, .int .i64 N, .bool true, .bool false, .slice ao N c, .slice (some ⟨g, 0, none⟩) N cp, .slice (some ⟨g, 0, none⟩) N cp, .int .i64 N, .func (.func 33) #[] #[.pointer (some ⟨w1.heap.size + 1, 0, none⟩)], .agg #[.int .i64 (a : Int), .int .i64 (b : Int)], .func (.func B) #[] caps, .slice (some ⟨g, 0, none⟩) N cp, .pointer (some ⟨Bx, 1, none⟩), .int .i64 (b : Int), .pointer (some ⟨g, b, none⟩), .int .i64 (ys.getD b 0), .slice (some ⟨g, 0, none⟩) N cp, .pointer (some ⟨Bx, 0, none⟩), .int .i64 (a : Int), .pointer (some ⟨g, a, none⟩), .int .i64 (ys.getD a 0), undef, undef, undef, undef, undef, undef, undef, undef], defers := [] } { dst := some 32, op := .call { callee := .value (.tmp 21), args := #[.tmp 26, .tmp 31], argTypes := #[3, 3] }, type := 4, pos := "network.go:74", after := #[{ on := 0, ground := .data }, { on := 5, ground := .data }, { on := 10, ground := .data }], guard := none } (fun _ => trivial) (by kernel_rfl) (by kernel_rfl) (by kernel_rfl) (by kernel_rfl) (by kernel_rfl) ?vals ?last
      case vals =>
        have ia : (a : Int) < (N : Int) := by omega
        have ib : (b : Int) < (N : Int) := by omega
        refine ValsF.cons ?v0 (ValsF.cons ?v1 (ValsF.cons ?v2 (ValsF.cons ?v3 (ValsF.cons ?v4 (ValsF.cons ?v5 (ValsF.cons ?v6 (ValsF.cons ?v7 (ValsF.cons ?v8 (ValsF.cons ?v9 (ValsF.cons ?v10 (ValsF.one _ _ _ _)))))))))))
        case v0 =>
          clear cS c0 c1 d0 d1 hbf hent hcp hr hr0 bX bF1 bS1 bN1 hB1 HY bF0 bS0 bN0 r0 hB0 HI
          simp [go_sem, cF]
        case v1 =>
          clear cF c0 c1 d0 d1 hbf hent hcp hr hr0 bX bF1 bS1 bN1 hB1 HY bF0 bS0 bN0 r0 hB0 HI
          simp [go_sem, cS]
        case v2 =>
          clear cF cS c0 c1 d0 d1 hbf hent hcp hr hr0 bX bF1 bS1 bN1 hB1 HY bF0 bS0 bN0 r0 hB0 HI
          simp [go_sem]
        case v3 =>
          clear cF cS c0 d0 d1 hbf hent hcp hr hr0 bX bF1 bS1 bN1 hB1 HY bF0 bS0 bN0 r0 hB0 HI
          simp [go_sem, c1]
        case v4 =>
          clear cF cS c0 c1 d0 d1 hbf hent hcp hr hr0 bX bF1 bS1 bN1 hB1 HY bF0 bS0 bN0 r0 hB0 HI
          simp [go_sem, hb]
        case v5 =>
          clear cF cS c0 c1 d0 hbf hent hcp hr hr0 bX bF1 bS1 bN1 hB1 HY bF0 bS0 bN0 r0 hB0 HI
          simp [go_sem, d1]
        case v6 =>
          clear cF c0 c1 d0 d1 hbf hent hcp hr hr0 bX bF1 bS1 bN1 hB1 HY bF0 bS0 bN0 r0 hB0 HI
          simp [go_sem, cS]
        case v7 =>
          clear cF cS c0 c1 d0 d1 hbf hent hcp hr hr0 bX bF1 bS1 bN1 hB1 HY bF0 bS0 bN0 r0 hB0 HI
          simp [go_sem]
        case v8 =>
          clear cF cS c1 d0 d1 hbf hent hcp hr hr0 bX bF1 bS1 bN1 hB1 HY bF0 bS0 bN0 r0 hB0 HI
          simp [go_sem, c0]
        case v9 =>
          clear cF cS c0 c1 d0 d1 hbf hent hcp hr hr0 bX bF1 bS1 bN1 hB1 HY bF0 bS0 bN0 r0 hB0 HI
          simp [go_sem, ha]
        case v10 =>
          clear cF cS c0 c1 d1 hbf hent hcp hr hr0 bX bF1 bS1 bN1 hB1 HY bF0 bS0 bN0 r0 hB0 HI
          simp [go_sem, d0]
      case last =>
        refine last_callF (fun c h => by cases h) B (#[.int .i64 (ys.getD b 0), .int .i64 (ys.getD a 0)] ++ caps) ?_ ?_
        · refine (exec_callv (.tmp 21) #[.tmp 26, .tmp 31] #[3, 3] ?_ B caps ?_ hent).trans ?_
          · rfl
          · rfl
          · kernel_rfl
        · refine ((hbf _ _ W.drew hB1.drew).mono ?_)
          rintro e w' ⟨rfl, hw'⟩
          refine ⟨_, rfl, rfl, ?_, ⟨hw'.os, hw'.tape, hw'.output, hw'.size, hw'.block⟩⟩
          kernel_rfl
    rintro _ _ W2 ⟨rfl, rfl, hW2⟩
    clear cF cS c0 c1 d0 d1
    have bF2 := (hW2.block _ bF1.lt).trans bF1
    have bS2 : Boxed W2 _ _ _ := (hW2.block _ bS1.lt).trans bS1
    have bN2 : Boxed W2 _ _ _ := (hW2.block _ bN1.lt).trans bN1
    have bX2 : TwoG W2 _ _ := (hW2.block _ bX.lt).trans bX
    have r2 := hr.block (hW2.block g hr.lt)
    have cS : W2.cell? ⟨w1.heap.size, 0, none⟩ = _ := bS2.cell
    have c0 : W2.cell? ⟨Bx, 0, none⟩ = _ := bX2.fst
    have c1 : W2.cell? ⟨Bx, 1, none⟩ = _ := bX2.snd
    have hWB : Below w.heap.size w W2 := hB1.trans ⟨hW2.os, hW2.tape, hW2.output, hW2.size, fun k hk => hW2.block k (by have := hB1.size; omega)⟩
    have HW : Hid (Below W.heap.size W W2 ∧ W.heap.size ≤ W2.heap.size ∧ g < W.heap.size) := ⟨hW2, hW2.size, hr.lt⟩
    clear hW2 bF1 bS1 bN1 bX hr hB1
    cases hlt : lt (ys.getD b 0) (ys.getD a 0) with
    | true =>
      gi_wp2_with (refine ⟨trivial, ?_⟩; gi_at_call 43; refine (CallsIn.inRound l (callsIn_wide.2 (exch_row g N cp a b ys W2 r2 HY.out.2 ha hb hne hN2))).mono ?_; rintro e W3 ⟨⟨v, rfl⟩, r3, g3⟩)
      have ab := (Above.below (B := W0.heap.size) HW.out.1).trans (Above.grown g3 (by have := HS.out; omega))
      have kb : ∀ k, k < W2.heap.size → k ≠ g → W3.heap[k]? = W2.heap[k]? := fun k hk hne => g3.block k hk (fun e => hne (Option.some.inj e))
      have bF3 : Boxed W3 _ _ _ := (kb _ (by have := HW.out; have := HS.out; omega) (by have := HS.out; omega)).trans bF2
      have bS3 : Boxed W3 _ _ _ := (kb _ bS2.lt (by have := HS.out; omega)).trans bS2
      have bN3 : Boxed W3 _ _ _ := (kb _ bN2.lt (by have := HS.out; omega)).trans bN2
      refine ⟨ab.keeps (Nat.le_refl _), ⟨fun _ => bN3, ab.up (by omega)⟩, ⟨?_, ?_⟩, ⟨bF3, bS3⟩, bN3⟩
      · rw [HY.out.1, gstep_yes lt ys a b hlt]
        exact r3
      · exact hWB.grown g3 hWB.size (fun j hj => by have := HS.out; have := Option.some.inj hj; omega)
    | false =>
      gi_wp2
      have ab := Above.below (B := W0.heap.size) HW.out.1
      refine ⟨ab.keeps (Nat.le_refl _), ⟨fun _ => bN2, ab.up (by omega)⟩, ⟨?_, hWB⟩, ⟨bF2, bS2⟩, bN2⟩
      rw [HY.out.1, gstep_no lt ys a b hlt]
      exact r2
  case done =>
    rintro D xs W hD rfl ⟨⟨hr, hB1⟩, ⟨bF1, bS1⟩, bN1⟩ hK
    have cS := bS1.cell
    have hm : List.map (clG N) (gatesL L) = gatesL L := by rw [← HN.out]; exact clG_gates L hL
    rw [hm] at hr
    clear hm
    gi_wp2
    have hDg : D ≠ g := by have := HS.out; omega
    refine ⟨by simp, .inl ⟨_, _, rfl, run_takeDeferred hK, ?_⟩⟩
    refine ⟨.tuple #[.slice (some ⟨g, 0, none⟩) N cp, .int .i64 0], by kernel_rfl, g, cp, rfl, by have := HS.out; omega, hcp, hr.block (World.putObj_heap_other (by omega)), ?_⟩
    exact hB1.trans ⟨rfl, rfl, rfl, by simp [World.putObj], fun k hk => World.putObj_heap_other (by omega)⟩
  case stop => rintro D cc pre W hD hpre h; exact h.elim
set_option maxHeartbeats 1000000 in
theorem sort_none (ao : Option Addr) (c : Nat) (B : FuncId) (caps : Array Value) (w : World) :
    Calls Try.prog 23 #[.slice ao 0 c, .func (.func B) #[] caps] w fun e w' => e = .returned (.tuple #[.slice none 0 0, .int .i64 0]) ∧ Below w.heap.size w w' := by
  refine (callsIn_wide (n := 30)).1 ?_
  refine callsIn_of_wp_marks Try.func23 rfl trivial ?_ rfl
  simp only [Try.ntmps23, List.size_toArray, List.length_cons, List.length_nil, Nat.reduceAdd, Nat.reduceSub, Array.replicate_succ, Array.replicate_zero, List.push_toArray, List.append_toArray, List.nil_append, List.cons_append]
  gi_wp2
  refine ⟨.tuple #[.slice none 0 0, .int .i64 0], by kernel_rfl, rfl, ?_⟩
  exact (Below.refl _ _).alloc (Nat.le_refl _) _
set_option maxHeartbeats 1000000 in
theorem sort_bad (ao : Option Addr) (n c : Nat) (B : FuncId) (caps : Array Value) (w : World) (hn : 0 < n) (hs : ¬ IsSz (n : Int)) :
    Calls Try.prog 23 #[.slice ao n c, .func (.func B) #[] caps] w fun e w' => e = .returned (.tuple #[.slice none 0 0, .int .i64 170]) ∧ Below w.heap.size w w' := by
  have h0 : ((n : Int) == 0) = false := by simp; omega
  have h0' : ¬ (n : Int) = 0 := by omega
  refine (callsIn_wide (n := 30)).1 ?_
  refine callsIn_of_wp_marks Try.func23 rfl trivial ?_ rfl
  simp only [Try.ntmps23, List.size_toArray, List.length_cons, List.length_nil, Nat.reduceAdd, Nat.reduceSub, Array.replicate_succ, Array.replicate_zero, List.push_toArray, List.append_toArray, List.nil_append, List.cons_append]
  gi_wp2_with (refine ⟨trivial, ?_⟩; gi_at_call 37; refine (callsIn_wide.2 (isSize_no _ hs _)).mono ?_; rintro e w' ⟨rfl, rfl⟩)
  refine ⟨.tuple #[.slice none 0 0, .int .i64 170], by kernel_rfl, rfl, ?_⟩
  exact (Below.refl _ _).alloc (Nat.le_refl _) _
end Go.Proofs.Ytlkpgbilepehmaa
