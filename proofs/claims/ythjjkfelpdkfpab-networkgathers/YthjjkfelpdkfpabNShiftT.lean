/- Layer network: Shift of Things. -/
import Derived.Test.YthjjkfelpdkfpabNWays
import Derived.Test.YthjjkfelpdkfpabNHopV
import Derived.Test.YthjjkfelpdkfpabNSort
import Derived.Test.YthjjkfelpdkfpabNFlatC
namespace Go.Proofs.Ythjjkfelpdkfpab
open Go.RowKit Go.Shelf
set_option linter.unusedVariables false
set_option linter.unusedSimpArgs false
attribute [local go_sem] Oper.semAt_some

/-- A hop, as the program does it. -/
def hopG (live : Nat → Bool) (P : Nat → Nat) (x : Int × Int) : Nat → Nat := if (bits .and .i64 ((wayO live (P x.1.toNat) : Nat) : Int) (x.1 - x.2) != 0) = true then swP P x.1.toNat x.2.toNat else P
def foldP (live : Nat → Bool) (gs : List (Int × Int)) : Nat → Nat := gs.foldl (hopG live) id
theorem foldP_snoc (live : Nat → Bool) (gs : List (Int × Int)) (x : Int × Int) : foldP live (gs ++ [x]) = hopG live (foldP live gs) x := by simp [foldP]
def TwoH (W : World) (B : Nat) (x : Int × Int) : Prop := W.heap[B]? = some (.cells #[.int .i64 x.1, .int .i64 x.2] 47 (0, 0))
theorem TwoH.lt {W : World} {B : Nat} {x : Int × Int} (h : TwoH W B x) : B < W.heap.size := (Array.getElem?_eq_some_iff.1 h).1
theorem TwoH.fst {W : World} {B : Nat} {x : Int × Int} (h : TwoH W B x) : W.cell? ⟨B, 0, none⟩ = some (.int .i64 x.1) := by simp [World.cell?, show W.heap[B]? = _ from h]
theorem TwoH.snd {W : World} {B : Nat} {x : Int × Int} (h : TwoH W B x) : W.cell? ⟨B, 1, none⟩ = some (.int .i64 x.2) := by simp [World.cell?, show W.heap[B]? = _ from h]
theorem twoH_own (B : Nat) (x : Int × Int) : Own (fun (_ : Unit) W => TwoH W B x) := fun s X Y row hs hg hrow =>
  (hg.block B (TwoH.lt hs) (fun e' => by obtain ⟨o, ho, hc⟩ := hrow B e'.symm; rw [show X.heap[B]? = _ from hs] at ho; cases ho; cases hc)).trans hs
theorem rowT_ownF {β : Type} {B g c : Nat} (f : β → List Thg) : OwnFrom B (fun s W => RowT W g c (f s)) := fun s X Y row hs hg hr =>
  hs.block (hg.block g hs.lt (fun e => by obtain ⟨_, o, h1, h2⟩ := hr g e.symm; obtain ⟨rest, _, h3⟩ := hs; rw [h3] at h1; cases h1; cases h2))
theorem hops_clG (n : Nat) (hn : n ≤ 65536) : List.map (clG n) (hopsL n) = hopsL n := by
  have hk : ∀ e, ∀ x ∈ hopsK n e, clG n x = x := by
    intro e
    induction e with
    | zero => intro x hx; simp [hopsK] at hx
    | succ e ih =>
      intro x hx
      rw [hopsK] at hx
      rcases List.mem_append.1 hx with h | h
      · exact ih x h
      · simp only [hopsD, List.mem_map, List.mem_range] at h
        obtain ⟨j, hj, rfl⟩ := h
        have hp : 0 < 2 ^ e := Nat.pow_pos (by decide)
        exact clG_id n (2 ^ e + j) j (by omega) (by omega) (by omega)
  exact (List.map_congr_left (hk 17)).trans (List.map_id _)
theorem keepsG {B g : Nat} {V V' : World} (h : V.grownBy V' (some g)) (hg : g < B) : KeepsFrom B V V' := (Above.grown h hg).keeps (Nat.le_refl _)
set_option maxRecDepth 100000 in
set_option maxHeartbeats 4000000 in
theorem shiftT_some (ad : Addr) (n c : Nat) (hn1 : 1 ≤ n) (hn : n ≤ 65536) (B : FuncId) (caps : Array Value) (live : Nat → Bool) (w : World) (hs : SeenT w (some ad) n (thP n id))
    (hent : ∀ args w, (callFunc B args).run Try.prog w = .ok (.enter B args) w)
    (hlv : ∀ p W, p < n → Below w.heap.size w W → Calls Try.prog B (#[.agg #[.string ByteArray.empty, .int .i64 (p : Int)]] ++ caps) W fun e W' => e = .returned (.bool (live p)) ∧ Below W.heap.size W W') :
    Calls Try.prog 6 #[.slice (some ad) n c, .func (.func B) #[] caps] w fun e w' => ∃ g cp, e = .returned (.slice (some ⟨g, 0, none⟩) n cp) ∧ w.heap.size ≤ g ∧ RowT w' g cp (thP n (foldP live (hopsL n))) ∧ Below w.heap.size w w' := by
  have hi1 : ¬ (65536 : Int) < (n : Int) := by omega
  refine (callsIn_wide (n := 30)).1 ?_
  refine callsIn_of_wp_marks Try.func6 rfl trivial ?_ rfl
  simp only [Try.ntmps6, List.size_toArray, List.length_cons, List.length_nil, Nat.reduceAdd, Nat.reduceSub, Array.replicate_succ, Array.replicate_zero, List.push_toArray, List.append_toArray, List.nil_append, List.cons_append]
  have HV : Hid (∀ p W, p < n → Below w.heap.size w W → Calls Try.prog B (#[.agg #[.string ByteArray.empty, .int .i64 (p : Int)]] ++ caps) W fun e W' => e = .returned (.bool (live p)) ∧ Below W.heap.size W W') := hlv
  clear hlv
  gi_wp2_with (first | (refine ⟨trivial, ?_⟩; gi_at_call 21; refine (callsIn_wide.2 (scloneT_any ad n c (thP n id) _ hs (by omega))).mono ?_; rintro e w1 ⟨v, rfl, o1, b1⟩; obtain ⟨g, cp, rfl, hg, hcp, r1⟩ := own_rowT o1 (by omega); clear o1) | (refine ⟨trivial, ?_⟩; gi_at_call 22; refine (callsIn_wide.2 (ways_any g n cp B caps live _ (r1.block (Below.heap_alloc _ _ _ r1.lt)) hn hent (fun p W hp hW => HV.out p W hp (b1.trans ⟨hW.os, hW.tape, hW.output, by have := hW.size; simp at this; omega, fun k hk => by rw [hW.block k (by have := b1.size; simp; omega)]; exact Below.heap_alloc _ _ _ (by have := b1.size; omega)⟩)))).mono ?_; rintro e w2 ⟨gw, rfl, hgw, r2, b2⟩; have bSx : Boxed w2 w1.heap.size 23 (.slice (some ⟨g, 0, none⟩) n cp) := (b2.block w1.heap.size (by simp)).trans (Boxed.new w1 _ _); have cS5 : ∀ ob, (w2.alloc ob).cell? ⟨w1.heap.size, 0, none⟩ = some (.slice (some ⟨g, 0, none⟩) n cp) := fun ob => (bSx.alloc ob).cell) | (refine ⟨trivial, ?_⟩; gi_at_call 23; refine (hops_in _ _ trivial rfl _ _).mono ?_; rintro e w' ⟨rfl, rfl⟩))
  clear cS5 bSx
  have hg1 := r1.lt
  have hgw1 := r2.lt
  have bS : Boxed w2 w1.heap.size 23 (.slice (some ⟨g, 0, none⟩) n cp) := (b2.block w1.heap.size (by simp)).trans (Boxed.new w1 _ _)
  have rT : RowT w2 g cp (thP n id) := (r1.block (Below.heap_alloc w1 (.cells #[.slice (some ⟨g, 0, none⟩) n cp] 23) g hg1)).block (b2.block g (by simp; omega))
  have hB2 : Below w.heap.size w w2 := b1.trans ⟨b2.os, b2.tape, b2.output, by have := b2.size; simp at this; omega, fun k hk => by rw [b2.block k (by have := b1.size; simp; omega)]; exact Below.heap_alloc _ _ _ (by have := b1.size; omega)⟩
  have hw12 : w1.heap.size < w2.heap.size := by have := b2.size; simp at this; omega
  have hgw2 : w1.heap.size + 1 ≤ gw := by have := hgw; simp at this; omega
  have bS0 := (bS.alloc (.cells #[.slice (some ⟨gw, 0, none⟩) n n] 33)).alloc (.cells #[.int .i64 (n : Int)] 3)
  have bW0 := (Boxed.new w2 33 (.slice (some ⟨gw, 0, none⟩) n n)).alloc (.cells #[.int .i64 (n : Int)] 3)
  have bN0 := Boxed.new (w2.alloc (.cells #[.slice (some ⟨gw, 0, none⟩) n n] 33)) 3 (.int .i64 (n : Int))
  simp only [World.size_alloc] at bN0
  have hB0 := (hB2.alloc hB2.size (.cells #[.slice (some ⟨gw, 0, none⟩) n n] 33)).alloc (by have := hB2.size; simp; omega) (.cells #[.int .i64 (n : Int)] 3)
  have rT0 : RowT ((w2.alloc (.cells #[.slice (some ⟨gw, 0, none⟩) n n] 33)).alloc (.cells #[.int .i64 (n : Int)] 3)) g cp (thP n id) := (rT.block (Below.heap_alloc _ _ _ rT.lt)).block (Below.heap_alloc _ _ _ (by have := rT.lt; simp; omega))
  have rW0 : RowI ((w2.alloc (.cells #[.slice (some ⟨gw, 0, none⟩) n n] 33)).alloc (.cells #[.int .i64 (n : Int)] 3)) gw n (wyP live n id) := (r2.block (Below.heap_alloc _ _ _ hgw1)).block (Below.heap_alloc _ _ _ (by simp; omega))
  have hsz : ((w2.alloc (.cells #[.slice (some ⟨gw, 0, none⟩) n n] 33)).alloc (.cells #[.int .i64 (n : Int)] 3)).heap.size = w2.heap.size + 2 := by simp
  obtain ⟨W0, hW0⟩ : ∃ W0, (w2.alloc (.cells #[.slice (some ⟨gw, 0, none⟩) n n] 33)).alloc (.cells #[.int .i64 (n : Int)] 3) = W0 := ⟨_, rfl⟩
  rw [hW0] at bS0 bW0 bN0 hB0 rT0 rW0 hsz ⊢
  have HS : Hid (W0.heap.size = w2.heap.size + 2 ∧ w.heap.size ≤ g ∧ g < w1.heap.size ∧ w1.heap.size < w2.heap.size ∧ w1.heap.size + 1 ≤ gw ∧ gw < w2.heap.size ∧ w.heap.size ≤ w1.heap.size) := ⟨hsz, hg, hg1, hw12, hgw2, hgw1, b1.size⟩
  have hR0 : w.heap.size ≤ W0.heap.size := by have := HS.out; omega
  clear hW0 hsz hg1 hgw1 bS rT hB2 hw12 hgw2 hgw hg b1 b2 r1 r2 hs hent
  have hst := hops_stopsV Fence.wide 29 trivial rfl (by omega) (w2.heap.size + 1) n hn (clG n) (fun e j h => clG_id n (2 ^ e + j) j h (Nat.lt_of_le_of_lt (Nat.le_add_left _ _) h) (by have : 0 < 2 ^ e := Nat.pow_pos (by decide); omega)) W0 bN0
  refine wpIn_rangeFunc_ownH rfl (by omega) (gf := 48) (lb := #[.pointer (some ⟨w2.heap.size + 1, 0, none⟩)]) rfl trivial (enters_of Try.func48 (by kernel_rfl) rfl)
    hst kpB_t (kpB_b bN0.lt) (Below.refl _ _) (fun _ => rfl)
    (fun pre W => (RowT W g cp (thP n (foldP live (List.map (clG n) pre))) ∧ RowI W gw n (wyP live n (foldP live (List.map (clG n) pre))) ∧ Below w.heap.size w W) ∧ ((Boxed W w1.heap.size 23 (.slice (some ⟨g, 0, none⟩) n cp) ∧ Boxed W w2.heap.size 33 (.slice (some ⟨gw, 0, none⟩) n n)) ∧ Boxed W (w2.heap.size + 1) 3 (.int .i64 (n : Int))))
    (fun cc pre W => False)
    (OwnFrom.and (OwnFrom.and (rowT_ownF _) (OwnFrom.and (rowI_own' _) (ownFrom_below (Nat.le_refl _) hR0))) (OwnFrom.and (OwnFrom.and (Own.from (boxed_own _ _ _) _) (Own.from (boxed_own _ _ _) _)) (Own.from (boxed_own _ _ _) _)))
    (fun cc => ownFrom_pure _ (fun _ => False))
    ⟨⟨rT0, rW0, hB0⟩, ⟨bS0, bW0⟩, bN0⟩
    (fun x a' W => ∃ Bx, W0.heap.size ≤ Bx ∧ TwoH W Bx (clG n x) ∧ a' = { tmps := #[.slice (some ad) n c, .func (.func B) #[] caps, undef, undef, .slice none 0 0, .pointer (some ⟨w1.heap.size, 0, none⟩), .pointer (some ⟨w2.heap.size, 0, none⟩), .pointer (some ⟨Bx, 0, none⟩), .slice (some ad) n c, .int .i64 (n : Int), .bool false, .slice (some ad) n c, .slice (some ⟨g, 0, none⟩) n cp, .slice (some ⟨g, 0, none⟩) n cp, .func (.func B) #[] caps, .slice (some ⟨gw, 0, none⟩) n n, .slice (some ⟨g, 0, none⟩) n cp, .int .i64 (n : Int), .func (.func 48) #[] #[.pointer (some ⟨w2.heap.size + 1, 0, none⟩)], .agg #[.int .i64 (clG n x).1, .int .i64 (clG n x).2], undef, undef, undef, undef, undef, undef, undef, undef, undef, undef, undef, undef, undef, undef, undef, undef, undef, undef, undef, undef, undef, undef, undef, undef, undef], defers := [] })
    (fun x a' _ X Y row hs hg hr => by obtain ⟨Bx, h1, h2, h3⟩ := hs; exact ⟨Bx, h1, twoH_own Bx (clG n x) () X Y row h2 hg (fun r e => (hr r e).2), h3⟩)
    ?assign ?body ?done ?stop
  case assign =>
    rintro l pre x W K ⟨⟨hT, hI, hB1⟩, ⟨bS1, bW1⟩, bN1⟩ hK
    simp only [hopV]
    gi_wp2
    refine hK _ _ ((KeepsOthers.alloc _ _).from _) (fun h => h.alloc _) ⟨⟨hT.block (Below.heap_alloc _ _ _ hT.lt), hI.block (Below.heap_alloc _ _ _ hI.lt), hB1.alloc hB1.size _⟩, ⟨bS1.alloc _, bW1.alloc _⟩, bN1.alloc _⟩ ⟨W.heap.size, by have := bN1.lt; have := HS.out; omega, ?_, rfl⟩
    exact World.alloc_heap_new W _
  case body =>
    rintro l pre x a' W hl hr0 ⟨⟨hT1, hI1, hB1⟩, ⟨bS1, bW1⟩, bN1⟩ ⟨Bx, hBx, bX, rfl⟩ hlt
    have hNN : 2 ≤ n := by
      rcases Nat.lt_or_ge n 2 with h | h
      · have : hopsL n = [] := by unfold hopsL; rw [hopsK_stop n 0 17 (by omega) (by simp; omega)]; rfl
        rw [this] at hlt; simp at hlt
      · exact h
    obtain ⟨a, b, hab, ha, hb, hne⟩ := clG_in n hNN x
    obtain ⟨P, hP⟩ : ∃ P, foldP live (List.map (clG n) pre) = P := ⟨_, rfl⟩
    obtain ⟨V, hV⟩ : ∃ V : Nat, wayO live (P a) = V := ⟨_, rfl⟩
    obtain ⟨T, hT0⟩ : ∃ T, bits .and .i64 (V : Int) ((a : Int) - (b : Int)) = T := ⟨_, rfl⟩
    obtain ⟨t, ht0⟩ : ∃ t, (T != 0) = t := ⟨_, rfl⟩
    have HP : Hid (foldP live (List.map (clG n) (pre ++ [x])) = if t = true then swP P a b else P) := by
      show foldP live (List.map (clG n) (pre ++ [x])) = if t = true then swP P a b else P
      rw [List.map_append, List.map_cons, List.map_nil, foldP_snoc, hP, hab]
      unfold hopG
      simp only [Int.toNat_natCast]
      rw [hV, hT0, ht0]
    rw [hab] at bX ⊢
    rw [hP] at hT1 hI1
    have cW : W.drew.cell? ⟨w2.heap.size, 0, none⟩ = _ := bW1.cell
    have c0 : W.drew.cell? ⟨Bx, 0, none⟩ = _ := bX.fst
    have c1 : W.drew.cell? ⟨Bx, 1, none⟩ = _ := bX.snd
    have d0 : W.drew.cell? ⟨gw, a, none⟩ = some (.int .i64 (V : Int)) := by
      have := hI1.cell a (by rw [wyP_length]; exact ha)
      rw [wyP_get live n P a ha, hV] at this
      exact this
    have ew : IntKind.i64.wrap ((a : Int) - (b : Int)) = (a : Int) - (b : Int) := by simp [IntKind.wrap, IntKind.signed, IntKind.bits]; omega
    have hT : bits .and .i64 (V : Int) ((a : Int) - (b : Int)) = T := hT0
    have ht : (T != 0) = t := ht0
    clear hab hP hV hlt hT0 ht0
    gi_wp2
    refine region_flatC [.slice (some ⟨gw, 0, none⟩) n n, .pointer (some ⟨Bx, 0, none⟩), .int .i64 (a : Int), .pointer (some ⟨gw, a, none⟩), .int .i64 (V : Int), .pointer (some ⟨Bx, 0, none⟩), .int .i64 (a : Int), .pointer (some ⟨Bx, 1, none⟩), .int .i64 (b : Int), .int .i64 ((a : Int) - (b : Int)), .int .i64 T, .bool t]
      { tmps := #[.slice (some ad) n c, .func (.func B) #[] caps, undef, undef, .slice none 0 0, .pointer (some ⟨w1.heap.size, 0, none⟩), .pointer (some ⟨w2.heap.size, 0, none⟩), .pointer (some ⟨Bx, 0, none⟩), .slice (some ad) n c, .int .i64 (n : Int), .bool false, .slice (some ad) n c, .slice (some ⟨g, 0, none⟩) n cp, .slice (some ⟨g, 0, none⟩) n cp, .func (.func B) #[] caps, .slice (some ⟨gw, 0, none⟩) n n, .slice (some ⟨g, 0, none⟩) n cp, .int .i64 (n : Int), .func (.func 48) #[] #[.pointer (some ⟨w2.heap.size + 1, 0, none⟩)], .agg #[.int .i64 (a : Int), .int .i64 (b : Int)], .slice (some ⟨gw, 0, none⟩) n n, .pointer (some ⟨Bx, 0, none⟩), .int .i64 (a : Int), .pointer (some ⟨gw, a, none⟩), .int .i64 (V : Int), .pointer (some ⟨Bx, 0, none⟩), .int .i64 (a : Int), .pointer (some ⟨Bx, 1, none⟩), .int .i64 (b : Int), .int .i64 ((a : Int) - (b : Int)), .int .i64 T, .bool t, undef, undef, undef, undef, undef, undef, undef, undef, undef, undef, undef, undef, undef], defers := [] } (fun _ => trivial) (by kernel_rfl) (by kernel_rfl) (by kernel_rfl) (by kernel_rfl) 
        (ValsC.cons (by kernel_rfl) (by simp [go_sem, cW]) 
        (ValsC.cons (by kernel_rfl) (by simp [go_sem]) 
        (ValsC.cons (by kernel_rfl) (by simp [go_sem, c0]) 
        (ValsC.cons (by kernel_rfl) (by simp [go_sem, ha]) 
        (ValsC.cons (by kernel_rfl) (by simp [go_sem, d0]) 
        (ValsC.cons (by kernel_rfl) (by simp [go_sem]) 
        (ValsC.cons (by kernel_rfl) (by simp [go_sem, c0]) 
        (ValsC.cons (by kernel_rfl) (by simp [go_sem]) 
        (ValsC.cons (by kernel_rfl) (by simp [go_sem, c1]) 
        (ValsC.cons (by kernel_rfl) (by simp [go_sem, ew]) 
        (ValsC.cons (by kernel_rfl) (by simp [go_sem, hT]) 
        (ValsC.cons (by kernel_rfl) (by simp [go_sem, ht]) ValsC.nil)))))))))))) ?_
    clear cW c0 c1 d0 ew hT ht
    have cS : W.drew.cell? ⟨w1.heap.size, 0, none⟩ = _ := bS1.cell
    have c0 : W.drew.cell? ⟨Bx, 0, none⟩ = _ := bX.fst
    have c1 : W.drew.cell? ⟨Bx, 1, none⟩ = _ := bX.snd
    have HW : Hid (W.heap.size = W.drew.heap.size ∧ g < W.heap.size ∧ gw < W.heap.size ∧ Bx < W.heap.size ∧ w2.heap.size + 1 < W.heap.size) := ⟨rfl, hT1.lt, hI1.lt, bX.lt, bN1.lt⟩
    cases t with
    | true =>
      gi_wp2_with (first | (refine ⟨trivial, ?_⟩; gi_at_call 24; refine (CallsIn.inRound l (callsIn_wide.2 (exchT_row g n cp a b (thP n P) W.drew hT1 (thP_length _ _) ha hb hne hn))).mono ?_; rintro e W3 ⟨⟨v, rfl⟩, rT3, g3⟩; have kb : ∀ k, k < W.drew.heap.size → k ≠ g → W3.heap[k]? = W.drew.heap[k]? := fun k hk hne => g3.block k hk (fun e => hne (Option.some.inj e)); have bW3 : Boxed W3 w2.heap.size 33 (.slice (some ⟨gw, 0, none⟩) n n) := (kb _ bW1.lt (by have := HS.out; omega)).trans bW1; have bX3 : TwoH W3 Bx ((a : Int), (b : Int)) := (kb _ bX.lt (by have := HS.out; omega)).trans bX; have cW3 := bW3.cell; have c03 := bX3.fst; have c13 := bX3.snd; have rI3 : RowI W3 gw n (wyP live n P) := RowI.block (w := W.drew) hI1 (kb _ hI1.lt (by have := HS.out; omega)); dsimp only at c03 c13) | (refine ⟨trivial, ?_⟩; gi_at_call 25; refine (CallsIn.inRound l (callsIn_wide.2 (exch_row gw n n a b (wyP live n P) W3 rI3 (wyP_length _ _ _) ha hb hne hn))).mono ?_; rintro e W4 ⟨⟨v, rfl⟩, rI4, g4⟩))
      have kc : ∀ k, k < W3.heap.size → k ≠ gw → W4.heap[k]? = W3.heap[k]? := fun k hk hne => g4.block k hk (fun e => hne (Option.some.inj e))
      have sz3 := g3.size
      have hbx : ∀ k t v, Boxed W k t v → k ≠ g → k ≠ gw → Boxed W4 k t v := fun k t v h1 h2 h3 => (kc k (by have := h1.lt; have : W.drew.heap.size = W.heap.size := rfl; omega) h3).trans ((kb k h1.lt h2).trans h1)
      have bS4 := hbx _ _ _ bS1 (by have := HS.out; omega) (by have := HS.out; omega)
      have bW4 := hbx _ _ _ bW1 (by have := HS.out; omega) (by have := HS.out; omega)
      have bN4 := hbx _ _ _ bN1 (by have := HS.out; omega) (by have := HS.out; omega)
      have hP2 : foldP live (List.map (clG n) (pre ++ [x])) = swP P a b := by rw [HP.out]; rfl
      refine ⟨?_, fun _ => bN4, ⟨?_, ?_, ?_⟩, ⟨bS4, bW4⟩, bN4⟩
      · exact ((⟨Nat.le_refl _, fun k o hk h0 _ => h0⟩ : KeepsFrom W0.heap.size W W.drew).trans (keepsG g3 (by have := HS.out; omega))).trans (keepsG g4 (by have := HS.out; omega))
      · rw [hP2, ← thP_trade n a b P ha hb]
        exact rT3.block (kc g (by have := rT3.lt; omega) (by have := HS.out; omega))
      · rw [hP2, ← wyP_trade live n a b P ha hb]
        exact rI4
      · have b5 : Below w.heap.size w W3 := hB1.drew.grown g3 hB1.size (fun j hj => by have := HS.out; have := Option.some.inj hj; omega)
        exact b5.grown g4 b5.size (fun j hj => by have := HS.out; have := Option.some.inj hj; omega)
    | false =>
      gi_wp2
      have hP2 : foldP live (List.map (clG n) (pre ++ [x])) = P := by rw [HP.out]; rfl
      refine ⟨⟨Nat.le_refl _, fun k o hk h0 _ => h0⟩, fun h => h, ⟨by rw [hP2]; exact hT1, by rw [hP2]; exact hI1, hB1.drew⟩, ⟨bS1, bW1⟩, bN1⟩
  case done =>
    rintro D xs W hD hxs ⟨⟨hT, hI, hB1⟩, ⟨bS1, bW1⟩, bN1⟩ hK
    subst hxs
    have cS := bS1.cell
    have hm : List.map (clG n) (hopsL n) = hopsL n := hops_clG n hn
    rw [hm] at hT
    clear hm hI
    gi_wp2
    refine ⟨by simp, .inl ⟨_, _, rfl, run_takeDeferred hK, ?_⟩⟩
    refine ⟨.slice (some ⟨g, 0, none⟩) n cp, by kernel_rfl, g, cp, rfl, by have := HS.out; omega, hT.block (World.putObj_heap_other (by have := HS.out; omega)), ?_⟩
    exact hB1.trans ⟨rfl, rfl, rfl, by simp [World.putObj], fun k hk => World.putObj_heap_other (by omega)⟩
  case stop => rintro D cc pre W hD hpre h; exact h.elim
end Go.Proofs.Ythjjkfelpdkfpab
