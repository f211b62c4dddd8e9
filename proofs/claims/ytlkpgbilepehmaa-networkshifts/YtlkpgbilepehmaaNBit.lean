/- Layer network: Bitonic: all gates, row by row. -/
import Derived.Test.YtlkpgbilepehmaaNStep
import Derived.Test.YtlkpgbilepehmaaNLaw
namespace Go.Proofs.Ytlkpgbilepehmaa
open Go.RowKit Go.Shelf
set_option linter.unusedVariables false
set_option linter.unusedSimpArgs false
attribute [local go_sem] Oper.semAt_some

def gts (N : Nat) (l : List Stp) : List (Int × Int) := l.flatMap fun x => rowN x.1.val x.2.val N
theorem gts_snoc (N : Nat) (l : List Stp) (x : Stp) : gts N (l ++ [x]) = gts N l ++ rowN x.1.val x.2.val N := by unfold gts; simp
theorem gts_pre (N : Nat) {a b : List Stp} (h : a <+: b) : gts N a <+: gts N b := by
  obtain ⟨r, rfl⟩ := h
  unfold gts
  rw [List.flatMap_append]
  exact List.prefix_append _ _
theorem rowN_len (f e m : Nat) : (rowN f e m).length ≤ m := by
  induction m with
  | zero => simp [rowN]
  | succ m ih =>
    rw [rowN]
    split
    · simp; omega
    · omega
theorem gts_len (N : Nat) (l : List Stp) : (gts N l).length ≤ l.length * N := by
  induction l with
  | nil => unfold gts; simp
  | cons a r ih =>
    have := rowN_len a.1.val a.2.val N
    have e : gts N (a :: r) = rowN a.1.val a.2.val N ++ gts N r := by unfold gts; simp
    rw [e, List.length_append, List.length_cons, Nat.succ_mul]; omega
theorem gts_half (L : Nat) (hL : 0 < L) (l : List Stp) : (gts (2 ^ L) (List.map (clS L) l)).length = l.length * 2 ^ (L - 1) := by
  induction l with
  | nil => unfold gts; simp
  | cons a r ih =>
    have e : gts (2 ^ L) (List.map (clS L) (a :: r)) = rowN (clS L a).1.val (clS L a).2.val (2 ^ L) ++ gts (2 ^ L) (List.map (clS L) r) := by unfold gts; simp
    rw [e, List.length_append, ih, rowN_half _ _ L (clS_low L hL a), List.length_cons, Nat.succ_mul]; omega
/-- All gates of 2^L places. -/
def gatesL (L : Nat) : List (Int × Int) := gts (2 ^ L) (stepsK L)
theorem gatesL_length (L : Nat) (hL : L ≤ 16) : (gatesL L).length = (stepsK L).length * 2 ^ (L - 1) := by
  rcases Nat.eq_zero_or_pos L with h | h
  · subst h; rfl
  · have := gts_half L h (stepsK L)
    rwa [clS_steps L hL] at this
def TwoG (W : World) (B : Nat) (x : Int × Int) : Prop := W.heap[B]? = some (.cells #[.int .i64 x.1, .int .i64 x.2] 29 (0, 0))
theorem TwoG.lt {W : World} {B : Nat} {x : Int × Int} (h : TwoG W B x) : B < W.heap.size := (Array.getElem?_eq_some_iff.1 h).1
theorem TwoG.fst {W : World} {B : Nat} {x : Int × Int} (h : TwoG W B x) : W.cell? ⟨B, 0, none⟩ = some (.int .i64 x.1) := by simp [World.cell?, show W.heap[B]? = _ from h]
theorem TwoG.snd {W : World} {B : Nat} {x : Int × Int} (h : TwoG W B x) : W.cell? ⟨B, 1, none⟩ = some (.int .i64 x.2) := by simp [World.cell?, show W.heap[B]? = _ from h]
theorem twoG_own (B : Nat) (x : Int × Int) : Own (fun (_ : Unit) W => TwoG W B x) := fun s X Y row hs hg hrow =>
  (hg.block B (TwoG.lt hs) (fun e' => by obtain ⟨o, ho, hc⟩ := hrow B e'.symm; rw [show X.heap[B]? = _ from hs] at ho; cases ho; cases hc)).trans hs
theorem ownFrom_up {β γ : Type} {B C : Nat} {J : β → World → Prop} (h : OwnFrom B J) (hBC : B ≤ C) (f : γ → β) : OwnFrom C (fun s W => J (f s) W) := fun s X Y row hs hg hr => h _ X Y row hs hg (fun r e => ⟨Nat.le_trans hBC (hr r e).1, (hr r e).2⟩)
theorem steps_stops (m : Nat) (hm : 1 ≤ m) (Bn L : Nat) (hL : L ≤ 16) (N : Nat) (hN : 2 ^ L = N) (w : World)
    (hS : ∀ w, Calls Try.prog 37 #[.int .i64 (N : Int)] w fun e w' => e = .returned (.bool true) ∧ w = w') (hB : Boxed w Bn 3 (.int .i64 (N : Int))) :
    SeqStopsK Fence.wide m Try.prog 49 #[.pointer (some ⟨Bn, 0, none⟩)] (fun x => stpV (clS L x)) (KpB Bn N) (fun ys => ys = stepsK L) (fun pre => pre <+: stepsK L) (stepsK L).length w := fun l J Jx W hW _ _ hY h0 =>
  steps1_in m hm l Bn L hL N hN (clS L) (fun f i hf hi => clS_stp L f i hL hf hi) J Jx hS hY W ((hW.block Bn hB.lt).trans hB) h0

set_option maxHeartbeats 1000000 in
theorem bit_in (F : Fence) (m : Nat) (hf : F.fn 10) (hro : F.round = none) (n : Int) (w : World) :
    CallsIn F m Try.prog 10 #[.int .i64 n] w fun e w' => e = .returned (.func (.func 33) #[] #[.pointer (some ⟨w.heap.size, 0, none⟩)]) ∧ w' = w.alloc (.cells #[.int .i64 n] 3) := by
  refine callsIn_of_wp Try.func10 rfl hf ?_ hro
  simp only [Try.ntmps10, List.size_toArray, List.length_cons, List.length_nil, Nat.reduceAdd, Nat.reduceSub, Array.replicate_succ, Array.replicate_zero, List.push_toArray, List.append_toArray, List.nil_append, List.cons_append]
  gi_wp2
  go_ret
  exact ⟨rfl, rfl⟩

set_option maxRecDepth 100000 in
set_option maxHeartbeats 4000000 in
theorem bit1_in (l Bn L N B : Nat) (hL : L ≤ 16) (hN : 2 ^ L = N) (vl : Int × Int → Int × Int) (hvl : ∀ f e i, e < L → i < N → i / 2 ^ e % 2 = 0 → vl (gateN f e i) = gateN f e i) (J Jx : List (Int × Int) → World → Prop)
    (hS : ∀ w, Calls Try.prog 37 #[.int .i64 (N : Int)] w fun e w' => e = .returned (.bool true) ∧ w = w')
    (W : World) (hJ : OwnFrom W.heap.size J) (hJx : OwnFrom W.heap.size Jx) (hBW : B ≤ W.heap.size)
    (hY : ∀ pre x V, J pre V → pre.length < (gatesL L).length → YieldAt Fence.wide 19 Try.prog l #[.agg #[.int .i64 (vl x).1, .int .i64 (vl x).2]] V fun e V' =>
      (e = .returned (.bool true) ∧ J (pre ++ [x]) V' ∧ KpB Bn N V V' ∧ Above B V V') ∨ (e = .returned (.bool false) ∧ Jx (pre ++ [x]) V' ∧ KeepsFrom B V V'))
    (hB : Boxed W Bn 3 (.int .i64 (N : Int))) (h0 : J [] W) :
    CallsIn Fence.wide 20 Try.prog 33 #[.func (.yield l) #[] #[], .pointer (some ⟨Bn, 0, none⟩)] W fun e V => (∃ v, e = .returned v) ∧
      ((∃ ys, ys = gatesL L ∧ J ys V) ∨ (∃ pre, pre <+: gatesL L ∧ Jx pre V)) := by
  have c0 := hB.cell
  have hN2 : N ≤ 65536 := by rw [← hN]; exact Nat.pow_le_pow_right (by decide) hL
  have HN : Hid (2 ^ L = N) := hN
  clear hN
  refine callsIn_of_wp_marks Try.func33 rfl trivial ?_ rfl
  simp only [Try.ntmps33, List.size_toArray, List.length_cons, List.length_nil, Nat.reduceAdd, Nat.reduceSub, Array.replicate_succ, Array.replicate_zero, List.push_toArray, List.append_toArray, List.nil_append, List.cons_append]
  gi_wp2
  refine wpIn_scope ?_
  gi_wp2
  refine wpIn_label ?_
  have c0' : ∀ o, (W.alloc o).cell? ⟨Bn, 0, none⟩ = some (.int .i64 (N : Int)) := fun o => (hB.alloc o).cell
  gi_wp2_with (refine ⟨trivial, ?_⟩; gi_at_call 34; refine (steps_in _ _ trivial rfl _ _).mono ?_; rintro e w' ⟨rfl, rfl⟩)
  have bY := (Boxed.new W 66 (.func (.yield l) #[] #[])).alloc (.cells #[.int .i64 (N : Int)] 3)
  have bS := Boxed.new (W.alloc (.cells #[.func (.yield l) #[] #[]] 66)) 3 (.int .i64 (N : Int))
  have bN := (hB.alloc (.cells #[.func (.yield l) #[] #[]] 66)).alloc (.cells #[.int .i64 (N : Int)] 3)
  have j0 := hJ.alloc (.cells #[.int .i64 (N : Int)] 3) (hJ.alloc (.cells #[.func (.yield l) #[] #[]] 66) h0)
  simp only [World.size_alloc] at bS
  have hsz : ((W.alloc (.cells #[.func (.yield l) #[] #[]] 66)).alloc (.cells #[.int .i64 (N : Int)] 3)).heap.size = W.heap.size + 2 := by simp
  obtain ⟨W0, hW0⟩ : ∃ W0, (W.alloc (.cells #[.func (.yield l) #[] #[]] 66)).alloc (.cells #[.int .i64 (N : Int)] 3) = W0 := ⟨_, rfl⟩
  rw [hW0] at bY bS bN j0 hsz ⊢
  have HZ : Hid (W0.heap.size = W.heap.size + 2 ∧ B ≤ W.heap.size) := ⟨hsz, hBW⟩
  have HSi : Hid (∀ w, Calls Try.prog 37 #[.int .i64 (N : Int)] w fun e w' => e = .returned (.bool true) ∧ w = w') := hS
  clear hW0 hsz hBW hS c0 c0' hB h0
  refine wpIn_rangeFunc_ownH rfl (by omega) (gf := 49) (lb := #[.pointer (some ⟨W.heap.size + 1, 0, none⟩)]) rfl trivial (enters_of Try.func49 (by kernel_rfl) rfl)
    (steps_stops 19 (by omega) (W.heap.size + 1) L hL N HN.out W0 HSi.out bS) kpB_t (kpB_b bS.lt) (Below.refl _ _) (fun _ => rfl)
    (fun pre V => (J (gts N (List.map (clS L) pre)) V ∧ Boxed V Bn 3 (.int .i64 (N : Int))) ∧ (Boxed V W.heap.size 66 (.func (.yield l) #[] #[]) ∧ Boxed V (W.heap.size + 1) 3 (.int .i64 (N : Int))))
    (fun cc pre V => cc = .exit 0 ∧ ∃ q, q <+: gts N (List.map (clS L) pre) ∧ Jx q V)
    (OwnFrom.and (OwnFrom.and (ownFrom_up hJ (by have := HZ.out; omega) (fun pre => gts N (List.map (clS L) pre))) (Own.from (boxed_own _ _ _) _)) (OwnFrom.and (Own.from (boxed_own _ _ _) _) (Own.from (boxed_own _ _ _) _)))
    (fun cc s X Y row hs hg hr => by obtain ⟨e, q, h1, h2⟩ := hs; exact ⟨e, q, h1, hJx _ X Y row h2 hg (fun r e => ⟨by have := (hr r e).1; have := HZ.out; omega, (hr r e).2⟩)⟩)
    ⟨⟨j0, bN⟩, bY, bS⟩
    (fun x0 a' _ => a' = { tmps := #[.func (.yield l) #[] #[], .pointer (some ⟨Bn, 0, none⟩), .pointer (some ⟨W.heap.size, 0, none⟩), .int .i64 ((2 ^ (clS L x0).1.val : Nat) : Int), .int .i64 ((2 ^ (clS L x0).2.val : Nat) : Int), undef, .int .i64 (N : Int), .func (.func 49) #[] #[.pointer (some ⟨W.heap.size + 1, 0, none⟩)], .int .i64 ((2 ^ (clS L x0).1.val : Nat) : Int), .int .i64 ((2 ^ (clS L x0).2.val : Nat) : Int), undef, undef, undef, undef, undef, undef, undef, undef, undef], defers := [] })
    (fun _ _ _ _ _ _ hs _ _ => hs)
    ?assign ?body ?done ?stop
  case assign =>
    rintro l1 pre x0 V K hi hK
    simp only [stpV]
    gi_wp2
    exact hK _ _ (KeepsFrom.refl _ _) (fun h => h) hi rfl
  case body =>
    rintro l1 pre0 x0 a' V hl1 ⟨r1, hr1⟩ ⟨⟨hj, bN1⟩, bY1, bS1⟩ rfl hlt
    have hL0 : 0 < L := by
      rcases Nat.eq_zero_or_pos L with h | h
      · subst h; simp [stepsK] at hlt
      · exact h
    have hxl := clS_low L hL0 x0
    obtain ⟨x, hx⟩ : ∃ x, clS L x0 = x := ⟨_, rfl⟩
    obtain ⟨pre, hpre⟩ : ∃ pre, List.map (clS L) pre0 = pre := ⟨_, rfl⟩
    rw [hpre] at hj
    rw [hx] at hxl ⊢
    have hlt : pre.length < (stepsK L).length := by rw [← hpre]; simpa using hlt
    have HXP : Hid (List.map (clS L) (pre0 ++ [x0]) = pre ++ [x] ∧ x.2.val < L ∧ (gts N pre).length = pre.length * 2 ^ (L - 1)) := ⟨by rw [List.map_append, hpre, List.map_cons, List.map_nil, hx], hxl, by rw [← hpre, ← HN.out, gts_half L hL0, List.length_map]⟩
    clear hpre hx hxl hL0
    have cN := bN1.cell
    have hx1 : x.1.val ≤ 16 := by have := x.1.isLt; omega
    have hx2 : x.2.val ≤ 15 := by have := x.2.isLt; omega
    obtain ⟨K, hK⟩ : ∃ K, 2 ^ x.1.val = K := ⟨_, rfl⟩
    obtain ⟨E, hE⟩ : ∃ E, 2 ^ x.2.val = E := ⟨_, rfl⟩
    rw [hK, hE]
    have HX : Hid (2 ^ x.1.val = K ∧ 2 ^ x.2.val = E ∧ x.1.val ≤ 16 ∧ x.2.val ≤ 15 ∧ pre.length < (stepsK L).length) := ⟨hK, hE, hx1, hx2, hlt⟩
    clear hK hE hx1 hx2 hlt
    gi_wp2_with (refine ⟨trivial, ?_⟩; gi_at_call 35; refine (CallsIn.inRound l1 (row_in _ _ trivial rfl _ _ _ _)).mono ?_; rintro e w' ⟨rfl, rfl⟩)
    have b1 := ((Boxed.new V 3 (.int .i64 (N : Int))).alloc (.cells #[.int .i64 (K : Int)] 3)).alloc (.cells #[.int .i64 (E : Int)] 3)
    have b3 := (Boxed.new (V.alloc (.cells #[.int .i64 (N : Int)] 3)) 3 (.int .i64 (K : Int))).alloc (.cells #[.int .i64 (E : Int)] 3)
    have b2 := Boxed.new ((V.alloc (.cells #[.int .i64 (N : Int)] 3)).alloc (.cells #[.int .i64 (K : Int)] 3)) 3 (.int .i64 (E : Int))
    have bNv := ((bN1.alloc (.cells #[.int .i64 (N : Int)] 3)).alloc (.cells #[.int .i64 (K : Int)] 3)).alloc (.cells #[.int .i64 (E : Int)] 3)
    have bYv := ((bY1.alloc (.cells #[.int .i64 (N : Int)] 3)).alloc (.cells #[.int .i64 (K : Int)] 3)).alloc (.cells #[.int .i64 (E : Int)] 3)
    have bSv := ((bS1.alloc (.cells #[.int .i64 (N : Int)] 3)).alloc (.cells #[.int .i64 (K : Int)] 3)).alloc (.cells #[.int .i64 (E : Int)] 3)
    have jv := hJ.alloc (.cells #[.int .i64 (E : Int)] 3) (hJ.alloc (.cells #[.int .i64 (K : Int)] 3) (hJ.alloc (.cells #[.int .i64 (N : Int)] 3) hj))
    have hr1v : (((V.alloc (.cells #[.int .i64 (N : Int)] 3)).alloc (.cells #[.int .i64 (K : Int)] 3)).alloc (.cells #[.int .i64 (E : Int)] 3)).heap[l1]? = some (.loop r1) := by
      have h1 := (Array.getElem?_eq_some_iff.1 hr1).1
      rw [Below.heap_alloc _ _ _ (by simp; omega), Below.heap_alloc _ _ _ (by simp; omega), Below.heap_alloc _ _ _ h1]
      exact hr1
    have kfv : KeepsFrom W0.heap.size V (((V.alloc (.cells #[.int .i64 (N : Int)] 3)).alloc (.cells #[.int .i64 (K : Int)] 3)).alloc (.cells #[.int .i64 (E : Int)] 3)) := ((((KeepsOthers.alloc V _).trans (KeepsOthers.alloc _ _)).trans (KeepsOthers.alloc _ _))).from _
    have hszv : (((V.alloc (.cells #[.int .i64 (N : Int)] 3)).alloc (.cells #[.int .i64 (K : Int)] 3)).alloc (.cells #[.int .i64 (E : Int)] 3)).heap.size = V.heap.size + 3 := by simp
    simp only [World.size_alloc] at b2 b3
    obtain ⟨U0, hU0⟩ : ∃ U0, ((V.alloc (.cells #[.int .i64 (N : Int)] 3)).alloc (.cells #[.int .i64 (K : Int)] 3)).alloc (.cells #[.int .i64 (E : Int)] 3) = U0 := ⟨_, rfl⟩
    rw [hU0] at b1 b2 b3 bNv bYv bSv jv hr1v kfv hszv ⊢
    have hVl := bS1.lt
    have HU : Hid (U0.heap.size = V.heap.size + 3 ∧ W.heap.size + 1 < V.heap.size) := ⟨hszv, hVl⟩
    clear hU0 hszv hVl cN
    have hst : SeqStopsK (Fence.wide.inRound l1) 17 Try.prog 50 #[.pointer (some ⟨V.heap.size, 0, none⟩), .pointer (some ⟨V.heap.size + 1 + 1, 0, none⟩), .pointer (some ⟨V.heap.size + 1, 0, none⟩)] (fun y => hopV (vl y)) (Kp2 (V.heap.size + 1 + 1) (E : Int) (V.heap.size + 1) (K : Int)) (fun ys => ys = rowN x.1.val x.2.val N) (fun pre => pre <+: rowN x.1.val x.2.val N) (rowN x.1.val x.2.val N).length U0 := by
      have := row_stops 17 (by omega) V.heap.size (V.heap.size + 1 + 1) (V.heap.size + 1) N x.1.val x.2.val hN2 HX.out.2.2.1 HX.out.2.2.2.1 vl (fun i hi hb => hvl x.1.val x.2.val i HXP.out.2.1 hi hb) U0 b1 (by rw [HX.out.2.1]; exact b2) (by rw [HX.out.1]; exact b3)
      rw [HX.out.1, HX.out.2.1] at this
      exact this.inRound l1
    refine wpIn_rangeFunc_ownN (l₀ := l1) (r₀ := r1) rfl hr1v (by omega) (gf := 50) (lb := #[.pointer (some ⟨V.heap.size, 0, none⟩), .pointer (some ⟨V.heap.size + 1 + 1, 0, none⟩), .pointer (some ⟨V.heap.size + 1, 0, none⟩)]) rfl trivial (enters_of Try.func50 (by kernel_rfl) rfl)
      hst kp2_t (kp2_b b2.lt b3.lt) (Below.refl _ _) (fun _ => rfl)
      (fun p2 U => (J (gts N pre ++ p2) U ∧ Boxed U Bn 3 (.int .i64 (N : Int))) ∧ ((Boxed U W.heap.size 66 (.func (.yield l) #[] #[]) ∧ Boxed U (W.heap.size + 1) 3 (.int .i64 (N : Int))) ∧ KeepsFrom W0.heap.size V U))
      (fun cc p2 U => (cc = .exit 0 ∧ Jx (gts N pre ++ p2) U) ∧ KeepsFrom W0.heap.size V U)
      (OwnFrom.and (OwnFrom.and (ownFrom_up hJ (by have := HU.out; omega) (fun p2 => gts N pre ++ p2)) (Own.from (boxed_own _ _ _) _)) (OwnFrom.and (OwnFrom.and (Own.from (boxed_own _ _ _) _) (Own.from (boxed_own _ _ _) _)) (ownFrom_keepsFrom (by have := HU.out; omega))))
      (fun cc => OwnFrom.and (OwnFrom.and (ownFrom_pure _ (fun _ => cc = .exit 0)) (ownFrom_up hJx (by have := HU.out; omega) (fun p2 => gts N pre ++ p2))) (ownFrom_keepsFrom (by have := HU.out; omega)))
      ⟨⟨by simpa using jv, bNv⟩, ⟨bYv, bSv⟩, kfv⟩
      (fun y a'' U => ∃ Bx, TwoG U Bx (vl y) ∧ a'' = { tmps := #[.func (.yield l) #[] #[], .pointer (some ⟨Bn, 0, none⟩), .pointer (some ⟨W.heap.size, 0, none⟩), .int .i64 (K : Int), .int .i64 (E : Int), .pointer (some ⟨Bx, 0, none⟩), .int .i64 (N : Int), .func (.func 49) #[] #[.pointer (some ⟨W.heap.size + 1, 0, none⟩)], .int .i64 (K : Int), .int .i64 (E : Int), .int .i64 (N : Int), .int .i64 (K : Int), .int .i64 (E : Int), .func (.func 50) #[] #[.pointer (some ⟨V.heap.size, 0, none⟩), .pointer (some ⟨V.heap.size + 1 + 1, 0, none⟩), .pointer (some ⟨V.heap.size + 1, 0, none⟩)], .agg #[.int .i64 (vl y).1, .int .i64 (vl y).2], undef, undef, undef, undef], defers := [] })
      (fun y a'' _ X Y row hs hg hr => by obtain ⟨Bx, h2, h3⟩ := hs; exact ⟨Bx, twoG_own Bx (vl y) () X Y row h2 hg (fun r e => (hr r e).2), h3⟩)
      ?assign2 ?body2 ?done2 ?stop2
    case assign2 =>
      rintro l2 p2 y U K2 ⟨⟨hj2, bN2⟩, ⟨bY2, bS2⟩, kf2⟩ hK2
      simp only [hopV]
      gi_wp2
      refine hK2 _ _ ((KeepsOthers.alloc _ _).from _) ⟨fun h => h.alloc _, fun h => h.alloc _⟩ ⟨⟨hJ.alloc _ hj2, bN2.alloc _⟩, ⟨bY2.alloc _, bS2.alloc _⟩, kf2.trans ((KeepsOthers.alloc _ _).from _)⟩ ⟨U.heap.size, ?_, rfl⟩
      exact World.alloc_heap_new U _
    case body2 =>
      rintro l2 p2 y a'' U hl2 hr2 ⟨⟨hj2, bN2⟩, ⟨bY2, bS2⟩, kf2⟩ ⟨Bx, bX, rfl⟩ hlt2
      have cY := bY2.cell
      have c0 := bX.fst
      have c1 := bX.snd
      have hlen : (gts N pre ++ p2).length < (gatesL L).length := by
        have h1 : (gts N pre).length = pre.length * 2 ^ (L - 1) := HXP.out.2.2
        have h2 : (rowN x.1.val x.2.val N).length = 2 ^ (L - 1) := by rw [← HN.out]; exact rowN_half _ _ L HXP.out.2.1
        have h3 : (pre.length + 1) * 2 ^ (L - 1) ≤ (stepsK L).length * 2 ^ (L - 1) := Nat.mul_le_mul_right _ HX.out.2.2.2.2
        rw [Nat.succ_mul] at h3
        rw [gatesL_length L hL, List.length_append]; omega
      obtain ⟨fn, tmps, assign, body, hy, hR⟩ := hY _ y U hj2 hlen
      clear hlen
      gi_wp2
      have hR' : RoundIn ((Fence.wide.inRound l1).inRound l2) 15 Try.prog l fn tmps assign body U _ := ⟨trivial, fun c cs _ => hR.2 c cs (room_wide _)⟩
      refine hR'.mono ?_
      rintro e3 U3 (⟨rfl, hJ3, hk3, ha3⟩ | ⟨rfl, hJx3, ka3⟩)
      · gi_wp2
        have hBs : B ≤ W.heap.size := HZ.out.2
        have hWs := HZ.out.1
        refine ⟨ha3.keeps (by have := HU.out; omega), ⟨fun h => ha3.boxed h (by have := HU.out; omega), fun h => ha3.boxed h (by have := HU.out; omega)⟩, ⟨?_, hk3 bN2⟩, ⟨ha3.boxed bY2 hBs, ha3.boxed bS2 (by omega)⟩, kf2.trans (ha3.keeps (by omega))⟩
        rw [← List.append_assoc]; exact hJ3
      · gi_wp2
        refine ⟨keepsUp ka3 (by have := HU.out; have := HZ.out; omega), ⟨rfl, ?_⟩, kf2.trans (keepsUp ka3 (by have := HZ.out; omega))⟩
        rw [← List.append_assoc]; exact hJx3
    case done2 =>
      rintro p2 U hp2 ⟨⟨hj2, bN2⟩, ⟨bY2, bS2⟩, kf2⟩
      gi_wp2
      refine ⟨kf2, fun _ => bS2, ⟨?_, bN2⟩, bY2, bS2⟩
      rw [HXP.out.1, gts_snoc, ← hp2]; exact hj2
    case stop2 =>
      rintro cc p2 U hp2 ⟨⟨rfl, hx2⟩, kf2⟩
      gi_wp2
      exact ⟨kf2, rfl, _, by rw [HXP.out.1, gts_snoc]; exact (List.prefix_append_right_inj _).2 hp2, hx2⟩
  case done =>
    rintro D xs V hD hxs ⟨⟨hj, _⟩, _⟩ hK
    have hj2 : J (gts N (List.map (clS L) xs)) (V.putObj D (.deferred none)) := hJ.putObj _ hj (by have := HZ.out; omega) hK rfl
    try simp only [Exit.noGoto]
    gi_wp2
    refine ⟨by simp, .inl ⟨_, _, rfl, run_takeDeferred hK, ?_⟩⟩
    exact ⟨_, results_none rfl _ _ _, ⟨_, rfl⟩, .inl ⟨_, by rw [hxs, clS_steps L hL, gatesL, HN.out], hj2⟩⟩
  case stop =>
    rintro D cc pre V hD hpre ⟨rfl, q, hq, hx⟩ hK
    gi_wp2
    simp only [Exit.noGoto]
    have hx2 : Jx q (V.putObj D (.deferred none)) := hJx.putObj _ hx (by have := HZ.out; omega) hK rfl
    refine ⟨by simp, .inl ⟨_, _, rfl, run_takeDeferred hK, ?_⟩⟩
    exact ⟨_, results_none rfl _ _ _, ⟨_, rfl⟩, .inr ⟨q, hq.trans (by have := gts_pre N (List.IsPrefix.map (clS L) hpre); rw [clS_steps L hL] at this; rw [gatesL, HN.out]; exact this), hx2⟩⟩

/-- What Bitonic of 2^L gives: the gates, in their order; the box of n and every block behind the loop's own must stay. -/
theorem bit_stops (m : Nat) (Bn L N : Nat) (hL : L ≤ 16) (hN : 2 ^ L = N) (vl : Int × Int → Int × Int) (hvl : ∀ f e i, e < L → i < N → i / 2 ^ e % 2 = 0 → vl (gateN f e i) = gateN f e i) (w : World) (hS : ∀ w, Calls Try.prog 37 #[.int .i64 (N : Int)] w fun e w' => e = .returned (.bool true) ∧ w = w') (hB : Boxed w Bn 3 (.int .i64 (N : Int))) :
    SeqO Fence.wide m Try.prog 33 #[.pointer (some ⟨Bn, 0, none⟩)] (fun x => hopV (vl x)) (fun V V' => KpB Bn N V V' ∧ Above (w.heap.size + 2) V V') (fun ys => ys = gatesL L) (fun pre => pre <+: gatesL L) (gatesL L).length w := fun l J Jx W hW hsz hJ hJx hY h0 => by
  refine callsIn_wide.2 ((callsIn_wide (n := 20)).1 ?_)
  refine bit1_in l Bn L N (w.heap.size + 2) hL hN vl hvl J Jx hS W hJ hJx hsz (fun pre x V hj hl => ?_) ((hW.block Bn hB.lt).trans hB) h0
  obtain ⟨fn, tmps, assign, body, hy, hR⟩ := hY pre x V hj hl
  exact ⟨fn, tmps, assign, body, hy, trivial, fun c cs _ => hR.2 c cs (room_wide _)⟩
end Go.Proofs.Ytlkpgbilepehmaa
