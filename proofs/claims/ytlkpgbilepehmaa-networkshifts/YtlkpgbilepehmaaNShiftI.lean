/- Layer network: Shift of numbers, with a function that books what it was asked. -/
import Derived.Test.YtlkpgbilepehmaaNWayI
import Derived.Test.YtlkpgbilepehmaaNShL
namespace Go.Proofs.Ytlkpgbilepehmaa
open Go.RowKit Go.Shelf
set_option linter.unusedVariables false
set_option linter.unusedSimpArgs false
attribute [local go_sem] Oper.semAt_some

def KG (g gw b : Nat) : Prop := b = g ∨ b = gw
theorem ownFrom_kept {β : Type} {S : Nat → Prop} {B : Nat} {w₀ : World} (hB : w₀.heap.size ≤ B) : OwnFrom B (fun (_ : β) W => Kept S w₀ W) :=
  fun _ _ _ _ hs hg hr => hs.grown hg (fun k e hk => by have := (hr k e).1; omega)
set_option maxRecDepth 100000 in
set_option maxHeartbeats 4000000 in
theorem shiftI_some (ad : Addr) (n c A : Nat) (v : Value) (lq zs : List Int) (live : Nat → Bool) (hlive : evn zs = live) (hn1 : 1 ≤ n) (hn : n ≤ 65536) (w : World) (hs : SeenZ w (some ad) n zs) (hA : Ask w A v lq) (hll : lq.length ≤ 1048576) :
    Calls Try.prog 29 #[.slice (some ad) n c, .func (.func 27) #[] #[.pointer (some ⟨A, 0, none⟩)]] w fun e w' => ∃ g cp, e = .returned (.slice (some ⟨g, 0, none⟩) n cp) ∧ w.heap.size ≤ g ∧ cp ≤ maxLen ∧ RowI w' g cp (izP zs n (foldP live (hopsL n))) ∧
      ∃ v', Ask w' A v' (lq ++ zs) ∧ (v'.ownBlock = v.ownBlock ∨ ∀ b, v'.ownBlock = some b → w.heap.size ≤ b ∧ b ≠ g) ∧ Kept (AskS A v) w w' := by
  have hi1 : ¬ (65536 : Int) < (n : Int) := by omega
  refine (callsIn_wide (n := 30)).1 ?_
  refine callsIn_of_wp_marks Try.func29 rfl trivial ?_ rfl
  simp only [Try.ntmps29, List.size_toArray, List.length_cons, List.length_nil, Nat.reduceAdd, Nat.reduceSub, Array.replicate_succ, Array.replicate_zero, List.push_toArray, List.append_toArray, List.nil_append, List.cons_append]
  have HA0 : Hid (Ask w A v lq ∧ A < w.heap.size ∧ ∀ b, v.ownBlock = some b → b < w.heap.size) := ⟨hA, hA.box.lt, fun b hb => (hA.row.lt b hb).2⟩
  clear hA
  gi_wp2_with (first | (refine ⟨trivial, ?_⟩; gi_at_call 42; refine (callsIn_wide.2 (sclone_any (some ad) n c zs _ hs (by omega) (fun h => by cases h))).mono ?_; rintro e w1 ⟨vv, rfl, o1, b1⟩; obtain ⟨g, cp, rfl, hg, hcp, r1⟩ := own_rowI o1 (by omega); clear o1) | (refine ⟨trivial, ?_⟩; gi_at_call 46; refine (callsIn_wide.2 (waysI_any g n cp A v lq zs _ (r1.block (Below.heap_alloc _ _ _ r1.lt)) hs.len hn ((HA0.out.1.later b1).later ((Below.refl _ _).alloc (Nat.le_refl _) _)) hll (by have := HA0.out.2.1; omega) (fun e => by have := HA0.out.2.2 _ e; omega))).mono ?_; rintro e w2 ⟨rfl, r2, v2, hA2, hv2, b2⟩; rw [hlive] at r2; have bSx : Boxed w2 w1.heap.size 44 (.slice (some ⟨g, 0, none⟩) n cp) := (b2.block w1.heap.size (by simp) (fun e => by have := b1.size; rcases e with e | e; (have := HA0.out.2.1; omega); (have := HA0.out.2.2 _ e; omega))).trans (Boxed.new w1 _ _); have cS5 : ∀ ob, (w2.alloc ob).cell? ⟨w1.heap.size, 0, none⟩ = some (.slice (some ⟨g, 0, none⟩) n cp) := fun ob => (bSx.alloc ob).cell) | (refine ⟨trivial, ?_⟩; gi_at_call 15; refine (hops_in _ _ trivial rfl _ _).mono ?_; rintro e w' ⟨rfl, rfl⟩))
  clear cS5
  have e1 : (w1.alloc (.cells #[.slice (some ⟨g, 0, none⟩) n cp] 44)).heap.size = w1.heap.size + 1 := by simp
  have hg1 := r1.lt
  have hz1 := b1.size
  have hAS : ∀ k, w.heap.size ≤ k → ¬ AskS A v k := fun k hk e => by
    rcases e with e | e
    · have := HA0.out.2.1; omega
    · have := HA0.out.2.2 _ e; omega
  have rT : RowI w2 g cp (izP zs n id) := by
    rw [izP_id zs n hs.len]
    exact (r1.block (Below.heap_alloc w1 (.cells #[.slice (some ⟨g, 0, none⟩) n cp] 44) g hg1)).block (b2.block g (by simp; omega) (hAS g hg))
  have hK2 : Kept (AskS A v) w w2 := by
    have k1 : Kept (AskS A v) w w1 := ⟨b1.os, b1.tape, b1.output, b1.size, fun k hk _ => b1.block k hk⟩
    exact (k1.alloc _).trans b2
  have hzz := b2.size
  rw [e1] at r2 hv2 hzz
  obtain ⟨gw, hgw⟩ : ∃ gw, w1.heap.size + 1 = gw := ⟨_, rfl⟩
  rw [hgw] at r2 hv2 ⊢
  have hgw1 := r2.lt
  have bS := bSx
  have hw12 : w1.heap.size < w2.heap.size := by omega
  have bS0 := (bS.alloc (.cells #[.slice (some ⟨gw, 0, none⟩) n n] 44)).alloc (.cells #[.int .i64 (n : Int)] 3)
  have bW0 := (Boxed.new w2 44 (.slice (some ⟨gw, 0, none⟩) n n)).alloc (.cells #[.int .i64 (n : Int)] 3)
  have bN0 := Boxed.new (w2.alloc (.cells #[.slice (some ⟨gw, 0, none⟩) n n] 44)) 3 (.int .i64 (n : Int))
  simp only [World.size_alloc] at bN0
  have hB0 := ((Kept.refl (KG g gw) w2).alloc (.cells #[.slice (some ⟨gw, 0, none⟩) n n] 44)).alloc (.cells #[.int .i64 (n : Int)] 3)
  have rT0 : RowI ((w2.alloc (.cells #[.slice (some ⟨gw, 0, none⟩) n n] 44)).alloc (.cells #[.int .i64 (n : Int)] 3)) g cp (izP zs n id) := (rT.block (Below.heap_alloc _ _ _ rT.lt)).block (Below.heap_alloc _ _ _ (by have := rT.lt; simp; omega))
  have rW0 : RowI ((w2.alloc (.cells #[.slice (some ⟨gw, 0, none⟩) n n] 44)).alloc (.cells #[.int .i64 (n : Int)] 3)) gw n (wyP live n id) := (r2.block (Below.heap_alloc _ _ _ hgw1)).block (Below.heap_alloc _ _ _ (by simp; omega))
  have hsz : ((w2.alloc (.cells #[.slice (some ⟨gw, 0, none⟩) n n] 44)).alloc (.cells #[.int .i64 (n : Int)] 3)).heap.size = w2.heap.size + 2 := by simp
  obtain ⟨W0, hW0⟩ : ∃ W0, (w2.alloc (.cells #[.slice (some ⟨gw, 0, none⟩) n n] 44)).alloc (.cells #[.int .i64 (n : Int)] 3) = W0 := ⟨_, rfl⟩
  rw [hW0] at bS0 bW0 bN0 hB0 rT0 rW0 hsz ⊢
  have HS : Hid (W0.heap.size = w2.heap.size + 2 ∧ w.heap.size ≤ g ∧ g < w1.heap.size ∧ w1.heap.size < w2.heap.size ∧ w1.heap.size + 1 ≤ gw ∧ gw < w2.heap.size ∧ w.heap.size ≤ w1.heap.size ∧ gw = w1.heap.size + 1) := ⟨hsz, hg, hg1, hw12, by omega, hgw1, hz1, by omega⟩
  have HA2 : Hid (Ask w2 A v2 (lq ++ zs) ∧ (v2.ownBlock = v.ownBlock ∨ ∀ b, v2.ownBlock = some b → gw < b) ∧ Kept (AskS A v) w w2 ∧ ∀ k, w.heap.size ≤ k → ¬ AskS A v k) := ⟨hA2, hv2, hK2, hAS⟩
  have hR0 : w2.heap.size ≤ W0.heap.size := by have := HS.out; omega
  clear hW0 hsz hg1 hgw1 bS bSx rT hK2 hw12 hgw hg b1 b2 r1 r2 hs hA2 hv2 hzz hz1 e1 hAS
  have hst := hops_stopsV Fence.wide 29 trivial rfl (by omega) (w2.heap.size + 1) n hn (clG n) (fun e j h => clG_id n (2 ^ e + j) j h (Nat.lt_of_le_of_lt (Nat.le_add_left _ _) h) (by have : 0 < 2 ^ e := Nat.pow_pos (by decide); omega)) W0 bN0
  refine wpIn_rangeFunc_ownH rfl (by omega) (gf := 38) (lb := #[.pointer (some ⟨w2.heap.size + 1, 0, none⟩)]) rfl trivial (enters_of Try.func38 (by kernel_rfl) rfl)
    hst kpB_t (kpB_b bN0.lt) (Below.refl _ _) (fun _ => rfl)
    (fun pre W => (RowI W g cp (izP zs n (foldP live (List.map (clG n) pre))) ∧ RowI W gw n (wyP live n (foldP live (List.map (clG n) pre))) ∧ Kept (KG g gw) w2 W) ∧ ((Boxed W w1.heap.size 44 (.slice (some ⟨g, 0, none⟩) n cp) ∧ Boxed W w2.heap.size 44 (.slice (some ⟨gw, 0, none⟩) n n)) ∧ Boxed W (w2.heap.size + 1) 3 (.int .i64 (n : Int))))
    (fun cc pre W => False)
    (OwnFrom.and (OwnFrom.and (rowI_own' _) (OwnFrom.and (rowI_own' _) (ownFrom_kept hR0))) (OwnFrom.and (OwnFrom.and (Own.from (boxed_own _ _ _) _) (Own.from (boxed_own _ _ _) _)) (Own.from (boxed_own _ _ _) _)))
    (fun cc => ownFrom_pure _ (fun _ => False))
    ⟨⟨rT0, rW0, hB0⟩, ⟨bS0, bW0⟩, bN0⟩
    (fun x a' W => ∃ Bx, W0.heap.size ≤ Bx ∧ TwoH W Bx (clG n x) ∧ a' = { tmps := #[.slice (some ad) n c, .func (.func 27) #[] #[.pointer (some ⟨A, 0, none⟩)], undef, undef, .slice none 0 0, .pointer (some ⟨w1.heap.size, 0, none⟩), .pointer (some ⟨w2.heap.size, 0, none⟩), .pointer (some ⟨Bx, 0, none⟩), .slice (some ad) n c, .int .i64 (n : Int), .bool false, .slice (some ad) n c, .slice (some ⟨g, 0, none⟩) n cp, .slice (some ⟨g, 0, none⟩) n cp, .func (.func 27) #[] #[.pointer (some ⟨A, 0, none⟩)], .slice (some ⟨gw, 0, none⟩) n n, .slice (some ⟨g, 0, none⟩) n cp, .int .i64 (n : Int), .func (.func 38) #[] #[.pointer (some ⟨w2.heap.size + 1, 0, none⟩)], .agg #[.int .i64 (clG n x).1, .int .i64 (clG n x).2], undef, undef, undef, undef, undef, undef, undef, undef, undef, undef, undef, undef, undef, undef, undef, undef, undef, undef, undef, undef, undef, undef, undef, undef, undef], defers := [] })
    (fun x a' _ X Y row hs hg hr => by obtain ⟨Bx, h1, h2, h3⟩ := hs; exact ⟨Bx, h1, twoH_own Bx (clG n x) () X Y row h2 hg (fun r e => (hr r e).2), h3⟩)
    ?assign ?body ?done ?stop
  case assign =>
    rintro l pre x W K ⟨⟨hT, hI, hB1⟩, ⟨bS1, bW1⟩, bN1⟩ hK
    simp only [hopV]
    gi_wp2
    refine hK _ _ ((KeepsOthers.alloc _ _).from _) (fun h => h.alloc _) ⟨⟨hT.block (Below.heap_alloc _ _ _ hT.lt), hI.block (Below.heap_alloc _ _ _ hI.lt), hB1.alloc _⟩, ⟨bS1.alloc _, bW1.alloc _⟩, bN1.alloc _⟩ ⟨W.heap.size, by have := bN1.lt; have := HS.out; omega, ?_, rfl⟩
    exact World.alloc_heap_new W _
  case body =>
    rintro l pre x a' W hl hr0 ⟨⟨hT1, hI1, hB1⟩, ⟨bS1, bW1⟩, bN1⟩ ⟨Bx, hBx, bX, rfl⟩ hlt
    have hNN : 2 ≤ n := by
      rcases Nat.lt_or_ge n 2 with h | h
      · have : hopsL n = [] := by unfold hopsL; rw [hopsK_stop n 0 17 (by omega) (by simp; omega)]; rfl
        rw [this] at hlt; simp at hlt
      · exact h
    obtain ⟨a, b, hab, ha, hb, hne⟩ := clG_in n hNN x
    obtain ⟨P, hP⟩ : ∃ P, foldP live (List.map (clG n) pre) = P := ⟨_, rfl⟩
    obtain ⟨V, hV⟩ : ∃ V : Nat, wayO live (P a) = V := ⟨_, rfl⟩
    obtain ⟨T, hT0⟩ : ∃ T, bits .and .i64 (V : Int) ((a : Int) - (b : Int)) = T := ⟨_, rfl⟩
    obtain ⟨t, ht0⟩ : ∃ t, (T != 0) = t := ⟨_, rfl⟩
    have HP : Hid (foldP live (List.map (clG n) (pre ++ [x])) = if t = true then swP P a b else P) := by
      show foldP live (List.map (clG n) (pre ++ [x])) = if t = true then swP P a b else P
      rw [List.map_append, List.map_cons, List.map_nil, foldP_snoc, hP, hab]
      unfold hopG
      simp only [Int.toNat_natCast]
      rw [hV, hT0, ht0]
    rw [hab] at bX ⊢
    rw [hP] at hT1 hI1
    have cW : W.drew.cell? ⟨w2.heap.size, 0, none⟩ = _ := bW1.cell
    have c0 : W.drew.cell? ⟨Bx, 0, none⟩ = _ := bX.fst
    have c1 : W.drew.cell? ⟨Bx, 1, none⟩ = _ := bX.snd
    have d0 : W.drew.cell? ⟨gw, a, none⟩ = some (.int .i64 (V : Int)) := by
      have := hI1.cell a (by rw [wyP_length]; exact ha)
      rw [wyP_get live n P a ha, hV] at this
      exact this
    have ew : IntKind.i64.wrap ((a : Int) - (b : Int)) = (a : Int) - (b : Int) := by simp [IntKind.wrap, IntKind.signed, IntKind.bits]; omega
    have hT : bits .and .i64 (V : Int) ((a : Int) - (b : Int)) = T := hT0
    have ht : (T != 0) = t := ht0
    clear hab hP hV hlt hT0 ht0
    gi_wp2
    refine region_flatC [.slice (some ⟨gw, 0, none⟩) n n, .pointer (some ⟨Bx, 0, none⟩), .int .i64 (a : Int), .pointer (some ⟨gw, a, none⟩), .int .i64 (V : Int), .pointer (some ⟨Bx, 0, none⟩), .int .i64 (a : Int), .pointer (some ⟨Bx, 1, none⟩), .int .i64 (b : Int), .int .i64 ((a : Int) - (b : Int)), .int .i64 T, .bool t]
      { tmps := #[.slice (some ad) n c, .func (.func 27) #[] #[.pointer (some ⟨A, 0, none⟩)], undef, undef, .slice none 0 0, .pointer (some ⟨w1.heap.size, 0, none⟩), .pointer (some ⟨w2.heap.size, 0, none⟩), .pointer (some ⟨Bx, 0, none⟩), .slice (some ad) n c, .int .i64 (n : Int), .bool false, .slice (some ad) n c, .slice (some ⟨g, 0, none⟩) n cp, .slice (some ⟨g, 0, none⟩) n cp, .func (.func 27) #[] #[.pointer (some ⟨A, 0, none⟩)], .slice (some ⟨gw, 0, none⟩) n n, .slice (some ⟨g, 0, none⟩) n cp, .int .i64 (n : Int), .func (.func 38) #[] #[.pointer (some ⟨w2.heap.size + 1, 0, none⟩)], .agg #[.int .i64 (a : Int), .int .i64 (b : Int)], .slice (some ⟨gw, 0, none⟩) n n, .pointer (some ⟨Bx, 0, none⟩), .int .i64 (a : Int), .pointer (some ⟨gw, a, none⟩), .int .i64 (V : Int), .pointer (some ⟨Bx, 0, none⟩), .int .i64 (a : Int), .pointer (some ⟨Bx, 1, none⟩), .int .i64 (b : Int), .int .i64 ((a : Int) - (b : Int)), .int .i64 T, .bool t, undef, undef, undef, undef, undef, undef, undef, undef, undef, undef, undef, undef, undef], defers := [] } (fun _ => trivial) (by kernel_rfl) (by kernel_rfl) (by kernel_rfl) (by kernel_rfl) 
        (ValsC.cons (by kernel_rfl) (by simp [go_sem, cW]) 
        (ValsC.cons (by kernel_rfl) (by simp [go_sem]) 
        (ValsC.cons (by kernel_rfl) (by simp [go_sem, c0]) 
        (ValsC.cons (by kernel_rfl) (by simp [go_sem, ha]) 
        (ValsC.cons (by kernel_rfl) (by simp [go_sem, d0]) 
        (ValsC.cons (by kernel_rfl) (by simp [go_sem]) 
        (ValsC.cons (by kernel_rfl) (by simp [go_sem, c0]) 
        (ValsC.cons (by kernel_rfl) (by simp [go_sem]) 
        (ValsC.cons (by kernel_rfl) (by simp [go_sem, c1]) 
        (ValsC.cons (by kernel_rfl) (by simp [go_sem, ew]) 
        (ValsC.cons (by kernel_rfl) (by simp [go_sem, hT]) 
        (ValsC.cons (by kernel_rfl) (by simp [go_sem, ht]) ValsC.nil)))))))))))) ?_
    clear cW c0 c1 d0 ew hT ht
    have cS : W.drew.cell? ⟨w1.heap.size, 0, none⟩ = _ := bS1.cell
    have c0 : W.drew.cell? ⟨Bx, 0, none⟩ = _ := bX.fst
    have c1 : W.drew.cell? ⟨Bx, 1, none⟩ = _ := bX.snd
    have HW : Hid (W.heap.size = W.drew.heap.size ∧ g < W.heap.size ∧ gw < W.heap.size ∧ Bx < W.heap.size ∧ w2.heap.size + 1 < W.heap.size) := ⟨rfl, hT1.lt, hI1.lt, bX.lt, bN1.lt⟩
    cases t with
    | true =>
      gi_wp2_with (first | (refine ⟨trivial, ?_⟩; gi_at_call 43; (with_reducible show CallsIn _ _ _ _ #[.slice (some ⟨g, 0, none⟩) _ _, _, _] _ _); refine (CallsIn.inRound l (callsIn_wide.2 (exch_row g n cp a b (izP zs n P) W.drew hT1 (izP_length _ _ _) ha hb hne hn))).mono ?_; rintro e W3 ⟨⟨v, rfl⟩, rT3, g3⟩; have kb : ∀ k, k < W.drew.heap.size → k ≠ g → W3.heap[k]? = W.drew.heap[k]? := fun k hk hne => g3.block k hk (fun e => hne (Option.some.inj e)); have bW3 : Boxed W3 w2.heap.size 44 (.slice (some ⟨gw, 0, none⟩) n n) := (kb _ bW1.lt (by have := HS.out; omega)).trans bW1; have bX3 : TwoH W3 Bx ((a : Int), (b : Int)) := (kb _ bX.lt (by have := HS.out; omega)).trans bX; have cW3 := bW3.cell; have c03 := bX3.fst; have c13 := bX3.snd; have rI3 : RowI W3 gw n (wyP live n P) := RowI.block (w := W.drew) hI1 (kb _ hI1.lt (by have := HS.out; omega)); dsimp only at c03 c13) | (refine ⟨trivial, ?_⟩; gi_at_call 43; (with_reducible show CallsIn _ _ _ _ #[.slice (some ⟨gw, 0, none⟩) _ _, _, _] _ _); refine (CallsIn.inRound l (callsIn_wide.2 (exch_row gw n n a b (wyP live n P) W3 rI3 (wyP_length _ _ _) ha hb hne hn))).mono ?_; rintro e W4 ⟨⟨v, rfl⟩, rI4, g4⟩))
      have kc : ∀ k, k < W3.heap.size → k ≠ gw → W4.heap[k]? = W3.heap[k]? := fun k hk hne => g4.block k hk (fun e => hne (Option.some.inj e))
      have sz3 := g3.size
      have hbx : ∀ k t v, Boxed W k t v → k ≠ g → k ≠ gw → Boxed W4 k t v := fun k t v h1 h2 h3 => (kc k (by have := h1.lt; have : W.drew.heap.size = W.heap.size := rfl; omega) h3).trans ((kb k h1.lt h2).trans h1)
      have bS4 := hbx _ _ _ bS1 (by have := HS.out; omega) (by have := HS.out; omega)
      have bW4 := hbx _ _ _ bW1 (by have := HS.out; omega) (by have := HS.out; omega)
      have bN4 := hbx _ _ _ bN1 (by have := HS.out; omega) (by have := HS.out; omega)
      have hP2 : foldP live (List.map (clG n) (pre ++ [x])) = swP P a b := by rw [HP.out]; rfl
      refine ⟨?_, fun _ => bN4, ⟨?_, ?_, ?_⟩, ⟨bS4, bW4⟩, bN4⟩
      · exact ((⟨Nat.le_refl _, fun k o hk h0 _ => h0⟩ : KeepsFrom W0.heap.size W W.drew).trans (keepsG g3 (by have := HS.out; omega))).trans (keepsG g4 (by have := HS.out; omega))
      · rw [hP2, ← izP_trade zs n a b P ha hb]
        exact rT3.block (kc g (by have := rT3.lt; omega) (by have := HS.out; omega))
      · rw [hP2, ← wyP_trade live n a b P ha hb]
        exact rI4
      · have b5 : Kept (KG g gw) w2 W3 := hB1.drew.grown g3 (fun j hj _ => .inl (Option.some.inj hj).symm)
        exact b5.grown g4 (fun j hj _ => .inr (Option.some.inj hj).symm)
    | false =>
      gi_wp2
      have hP2 : foldP live (List.map (clG n) (pre ++ [x])) = P := by rw [HP.out]; rfl
      refine ⟨⟨Nat.le_refl _, fun k o hk h0 _ => h0⟩, fun h => h, ⟨by rw [hP2]; exact hT1, by rw [hP2]; exact hI1, hB1.drew⟩, ⟨bS1, bW1⟩, bN1⟩
  case done =>
    rintro D xs W hD hxs ⟨⟨hT, hI, hB1⟩, ⟨bS1, bW1⟩, bN1⟩ hK
    subst hxs
    have cS := bS1.cell
    have hm : List.map (clG n) (hopsL n) = hopsL n := hops_clG n hn
    rw [hm] at hT
    clear hm hI
    gi_wp2
    refine ⟨by simp, .inl ⟨_, _, rfl, run_takeDeferred hK, ?_⟩⟩
    have hA4 : Ask W A v2 (lq ++ zs) := HA2.out.1.kept hB1 (fun e => by
      rcases e with e | e
      · exact HA2.out.2.2.2 A (by have := HS.out; omega) (.inl rfl)
      · exact HA2.out.2.2.2 A (by have := HS.out; omega) (.inl rfl)) (fun b hb e => by
      rcases HA2.out.2.1 with h | h
      · rcases e with e | e
        · exact HA2.out.2.2.2 b (by have := HS.out; omega) (.inr (h ▸ hb))
        · exact HA2.out.2.2.2 b (by have := HS.out; omega) (.inr (h ▸ hb))
      · have := h b hb; have := HS.out; rcases e with e | e <;> omega)
    have hvb : ∀ b, v2.ownBlock = some b → b < w2.heap.size := fun b hb => (HA2.out.1.row.lt b hb).2
    have hAb := HA2.out.1.box.lt
    have hkD : ∀ o, Kept (fun b => b = D) W (W.putObj D o) := fun o => ⟨rfl, rfl, rfl, by simp [World.putObj], fun k hk hs => World.putObj_heap_other (fun e => hs e)⟩
    refine ⟨.slice (some ⟨g, 0, none⟩) n cp, by kernel_rfl, g, cp, rfl, by have := HS.out; omega, hcp, hT.block (World.putObj_heap_other (by have := HS.out; omega)), v2, hA4.kept (hkD _) (by have := HS.out; omega) (fun b hb => by have := hvb b hb; have := HS.out; omega), ?_, ?_⟩
    · rcases HA2.out.2.1 with h | h
      · exact .inl h
      · exact .inr fun b hb => by have := h b hb; have := HS.out; exact ⟨by omega, by omega⟩
    · have h1 := HA2.out.2.2.1
      refine ⟨hB1.os.trans h1.os, hB1.tape.trans h1.tape, hB1.output.trans h1.output, by have := h1.size; have := hB1.size; simp [World.putObj]; omega, fun k hk hs => ?_⟩
      have := h1.size
      exact (World.putObj_heap_other (by have := HS.out; omega)).trans ((hB1.block k (by omega) (fun e => by have := HS.out; rcases e with e | e <;> omega)).trans (h1.block k hk hs))
  case stop => rintro D cc pre W hD hpre h; exact h.elim
end Go.Proofs.Ytlkpgbilepehmaa
