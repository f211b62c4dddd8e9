/- Layer derive: the code of what was written; Sum. -/
import Derived.Test.YtiimjhahblmggaaDoorVBegun
namespace Go.Proofs.YtiimjhahblmggaaDoor
open Go.RowKit
set_option linter.unusedVariables false
set_option linter.unusedSimpArgs false

/-- Both hashes of a key, and what was written. -/
structure Keyed (w : World) (g h : Nat) (key text : List Int) : Prop where
  ne : g ≠ h
  inn : Holds w g (turn 54 (frm key) ++ text)
  out : Holds w h (turn 92 (frm key))
theorem Keyed.later {w w' : World} {g h : Nat} {key text : List Int} (k : Keyed w g h key text) {B : Nat} (hb : Below B w w') (hg : g < B) (hh : h < B) : Keyed w' g h key text := ⟨k.ne, k.inn.later hb hg, k.out.later hb hh⟩
theorem Keyed.lts {w : World} {g h : Nat} {key text : List Int} (k : Keyed w g h key text) : g < w.heap.size ∧ h < w.heap.size := ⟨k.inn.lt, k.out.lt⟩
theorem Keyed.now {w w' : World} {g h : Nat} {key text : List Int} (k : Keyed w g h key text) (hb : Below w.heap.size w w') : Keyed w' g h key text := k.later hb k.lts.1 k.lts.2
theorem Keyed.kept {S : Nat → Prop} {w w' : World} {g h : Nat} {key text : List Int} (k : Keyed w g h key text) (hk : Kept S w w') (hg : ¬ S g) (hh : ¬ S h) : Keyed w' g h key text := ⟨k.ne, k.inn.kept hk hg, k.out.kept hk hh⟩
theorem copy_holds (g : Nat) (m : List Int) (w : World) (h : Holds w g m) : Calls Tryd.prog 49 #[.pointer (some ⟨g, 0, none⟩)] w fun e w' => ∃ g', e = .returned (.pointer (some ⟨g', 0, none⟩)) ∧ w.heap.size ≤ g' ∧ Holds w' g' m ∧ Below w.heap.size w w' :=
  (copy_any g _ _ _ w h.hash).mono fun _ _ ⟨g', e, h1, h2, h3⟩ => ⟨g', e, h1, ⟨h2⟩, h3⟩
/-- A new variable of zeros, made at a step of a region that draws. -/
theorem step_alloc_new {ops : Array Oper} {o : Oper} {a : Act} {w : World} {K : Act → World → Prop} {Q : Exit → Act → World → Prop} {E : Prop} (hgd : o.guard = none) (t : TypeId) (ho : o.op = .alloc t) (n : Nat) (vs : List Value)
    (hz : (Tryd.prog.info? t).map (fun i => (i.zero, i.size)) = some (some (.agg vs.toArray), n)) (dst : Option Tmp) (hdst : o.dst = dst)
    (h : ∀ w', Blk w' w.heap.size t vs → w'.heap.size = w.heap.size + 1 → Below w.heap.size w w' → K (a.put dst (.pointer (some ⟨w.heap.size, 0, none⟩))) w') :
    if Region.wanted o (yielded ops a.tmps) = true then Oper.wp Tryd.prog o a w K Q else E := by
  subst hdst
  have hw : Region.wanted o (yielded ops a.tmps) = true := by simp [Region.wanted, hgd]
  rw [if_pos hw]
  unfold Oper.wp execOp
  simp only [ho, Sem.run_bind, Instr.alloc, (zero_of_info hz).1, newVar, newRow, run_newObj_alloc, Sem.run_pure, Result.andThen_ok]
  exact h _ (heap_alloc_new w _) (by simp) ((Below.refl _ _).alloc (Nat.le_refl _) _)
set_option maxRecDepth 20000 in
set_option maxHeartbeats 1000000 in
theorem code_any (g h : Nat) (key text : List Int) (w : World) (hk : Keyed w g h key text) (hK : KTab w) :
    Calls Tryd.prog 36 #[.agg #[.pointer (some ⟨g, 0, none⟩), .pointer (some ⟨h, 0, none⟩)]] w fun e w' => e = .returned (.agg (u8s (mac key text)).toArray) ∧ Below w.heap.size w w' := by
  have HX : Hid (Keyed w g h key text ∧ KTab w) := ⟨hk, hK⟩
  obtain ⟨I, hI⟩ : ∃ I, turn 54 (frm key) ++ text = I := ⟨_, rfl⟩
  have HI : Hid (Holds w g I ∧ mac key text = sha (turn 92 (frm key) ++ sha I)) := ⟨by rw [← hI]; exact hk.inn, by rw [mac, hI]⟩
  clear hk hK hI
  go_enter Tryd.func36, Tryd.ntmps36
  go_wp2_with (first | (refine wpList_box_new rfl 70 _ rfl [.pointer (some ⟨g, 0, none⟩), .pointer (some ⟨h, 0, none⟩)] rfl ?_; intro w1 b1 s1 l1; have Z1 : Hid (w1.heap.size = w.heap.size + 1) := s1; clear s1) | (refine wpList_alloc_new rfl 28 rfl 32 _ zeroAH ?_; intro w2 b2 s2 l2; have Z2 : Hid (w2.heap.size = w1.heap.size + 1) := s2; clear s2))
  have HB : Hid (Below w.heap.size w w2 ∧ Blk w2 w.heap.size 70 [.pointer (some ⟨g, 0, none⟩), .pointer (some ⟨h, 0, none⟩)] ∧ Blk w2 w1.heap.size 28 (u8s (zer 32)) ∧ w1.heap.size = w.heap.size + 1 ∧ w2.heap.size = w.heap.size + 2) := by
    have := Z1.out; have := Z2.out
    exact ⟨below_chain l1 l2 (by omega), b1.later l2 (by omega), b2, Z1.out, by omega⟩
  have HG : Hid (∀ W, Below w2.heap.size w2 W → Holds W g I ∧ Holds W h (turn 92 (frm key)) ∧ KTab W ∧ Blk W w1.heap.size 28 (u8s (zer 32)) ∧ W.cell? ⟨w.heap.size, 0, none⟩ = some (.pointer (some ⟨g, 0, none⟩)) ∧ W.cell? ⟨w.heap.size, 1, none⟩ = some (.pointer (some ⟨h, 0, none⟩)) ∧ Below w.heap.size w W) := fun W hW => by
    obtain ⟨x1, x2, x3, x4, x5⟩ := HB.out
    have bW := below_chain x1 hW (by omega)
    have c0 := (x2.later hW (by omega)).cell 0
    have c1 := (x2.later hW (by omega)).cell 1
    exact ⟨HI.out.1.later bW HI.out.1.lt, HX.out.1.out.later bW HX.out.1.out.lt, HX.out.2.below bW HX.out.2.lt, x3.later hW (by omega), c0, c1, bW⟩
  clear b1 l1 b2 l2
  have hS0 := HG.out w2.drew (below_dn (Below.refl _ _) 1)
  simp only [Act.put, List.setIfInBounds_toArray, List.set_cons_zero, List.set_cons_succ]
  refine wp_region_noPanic (wp_region_held_drew (S := fun W => W.cell? ⟨w.heap.size, 0, none⟩ = some (.pointer (some ⟨g, 0, none⟩)) ∧ W.cell? ⟨w.heap.size, 1, none⟩ = some (.pointer (some ⟨h, 0, none⟩))) (by kernel_rfl) ⟨hS0.2.2.2.2.1, hS0.2.2.2.2.2.1⟩ (fun hH => ?_))
  clear hS0
  refine hTake 0 (some 5) (.pointer (some ⟨w.heap.size, 0, none⟩)) rfl rfl (by kernel_rfl) (by kernel_rfl) (by kernel_rfl) (fun _ _ _ h => h) (by rfl) (fun _ _ => by rfl) hH ?_
  simp only [Act.put, List.setIfInBounds_toArray, List.set_cons_zero, List.set_cons_succ]
  refine hTake 1 (some 6) (.pointer (some ⟨g, 0, none⟩)) rfl rfl (by kernel_rfl) (by kernel_rfl) (by kernel_rfl) (fun _ _ _ h => h) (by rfl) (fun W hS => by have c := hS.1; go_simp) hH ?_
  simp only [Act.put, List.setIfInBounds_toArray, List.set_cons_zero, List.set_cons_succ]
  refine hTake 3 (some 8) (.pointer (some ⟨w.heap.size, 1, none⟩)) rfl rfl (by kernel_rfl) (by kernel_rfl) (by kernel_rfl) (fun _ _ _ h => h) (by rfl) (fun _ _ => by rfl) hH ?_
  simp only [Act.put, List.setIfInBounds_toArray, List.set_cons_zero, List.set_cons_succ]
  refine hTake 4 (some 9) (.pointer (some ⟨h, 0, none⟩)) rfl rfl (by kernel_rfl) (by kernel_rfl) (by kernel_rfl) (fun _ _ _ h => h) (by rfl) (fun W hS => by have c := hS.2; go_simp) hH ?_
  simp only [Act.put, List.setIfInBounds_toArray, List.set_cons_zero, List.set_cons_succ]
  have L0 : Hid (Below w2.heap.size w2 w2.drew) := below_dn (Below.refl _ _) 1
  clear hH
  refine wpAnyH_ready (rs := [2, 6]) (by kernel_rfl) (by simp) (AllReadyH.cons rfl (fun K hK => ?_) (AllReadyH.cons rfl (fun K hK => ?_) AllReadyH.nil))
  · go_simp
    go_wp2_with (go_at_call 48; refine (sum_holds g I w2.drew (HG.out _ L0.out).1 (HG.out _ L0.out).2.2.1).mono ?_; rintro e v1 ⟨rfl, l1⟩)
    have L1 : Hid (Below w2.heap.size w2 v1) := below_chain L0.out l1 L0.out.size
    clear l1
    refine hK.out _ _ ⟨(HG.out _ L1.out).2.2.2.2.1, (HG.out _ L1.out).2.2.2.2.2.1⟩ (fun hH => ?_)
    clear hK K hH
    refine wpAnyH_ready (rs := [5, 6]) (by kernel_rfl) (by simp) (AllReadyH.cons rfl (fun K hK => ?_) (AllReadyH.cons rfl (fun K hK => ?_) AllReadyH.nil))
    · go_simp
      go_wp2_with (go_at_call 49; refine (copy_holds h (turn 92 (frm key)) v1 (HG.out _ L1.out).2.1).mono ?_; rintro e v2 ⟨G', rfl, hG', hC', l2⟩)
      have L2 : Hid (Below w2.heap.size w2 v2) := below_chain L1.out l2 L1.out.size
      have C2 : Hid (Holds v2 G' (turn 92 (frm key)) ∧ v1.heap.size ≤ G') := ⟨hC', hG'⟩
      clear hC' hG'
      clear l2
      refine hK.out _ _ ⟨(HG.out _ L2.out).2.2.2.2.1, (HG.out _ L2.out).2.2.2.2.2.1⟩ (fun hH => ?_)
      clear hK K hH
      refine wpAnyH_ready (rs := [6]) (by kernel_rfl) (by simp) (AllReadyH.cons rfl (fun K hK => ?_) AllReadyH.nil)
      refine step_alloc_new rfl 28 rfl 32 (u8s (zer 32)) zeroAH (some 3) rfl ?_
      intro v3 bA sA l3
      have L3 : Hid (Below w2.heap.size w2 v3) := below_chain L2.out l3 L2.out.size
      have C3 : Hid (Holds v3 G' (turn 92 (frm key)) ∧ w2.heap.size ≤ G' ∧ G' < v2.heap.size) := ⟨C2.out.1.later l3 C2.out.1.lt, by have := C2.out.2; have := L1.out.size; omega, C2.out.1.lt⟩
      have A3 : Hid (Blk v3 v2.heap.size 28 (u8s (zer 32)) ∧ v2.heap.size < v3.heap.size) := ⟨bA, by change _ = v2.heap.size + 1 at sA; omega⟩
      clear bA sA
      clear l3
      refine hK.out _ _ ⟨(HG.out _ L3.out).2.2.2.2.1, (HG.out _ L3.out).2.2.2.2.2.1⟩ (fun hH => ?_)
      clear hK K hH
      obtain ⟨A, hA, X6⟩ : ∃ A, v2.heap.size = A ∧ Hid (Below w2.heap.size w2 v3 ∧ Blk v3 A 28 (u8s (zer 32)) ∧ Holds v3 G' (turn 92 (frm key)) ∧ w2.heap.size ≤ A ∧ w2.heap.size ≤ G' ∧ A ≠ G') := by
        have q0 := L0.out.size; have q1 := L1.out.size; have q2 := L2.out.size; have q3 := C3.out.2; have q4 := A3.out.2; have d1 := A3.out.1.lt; have d2 := C3.out.1.lt
        exact ⟨_, rfl, L3.out, A3.out.1, C3.out.1, by omega, by omega, by omega⟩
      rw [hA]
      clear hA A3 C3
      refine wpAnyH_ready (rs := [7]) (by kernel_rfl) (by simp) (AllReadyH.cons rfl (fun K hK => ?_) AllReadyH.nil)
      refine step_store rfl (by rfl) 28 (.tmp 3) (.tmp 7) rfl A 0 rfl (u8s (sha I)) rfl (X6.out.2.1.there (by rw [u8s_length, u8s_length, sha_length, zer_length]; decide)) (by rw [u8s_length, sha_length]; exact sizeAH) (u8s_one _) ?_
      have K7 := (Kept.refl (fun b => b = A) v3).setCells (S := fun b => b = A) rfl 0 (u8s (sha I))
      have B7 := Blk.setCells (w := v3) (g := A) (t := 28) (xs := []) (zs := []) (u8s (sha I)) (u8s (zer 32)) (by rw [u8s_length, u8s_length, sha_length, zer_length]) (by simpa using X6.out.2.1)
      simp only [List.nil_append, List.append_nil, List.length_nil] at B7
      obtain ⟨v4, hv4⟩ : ∃ v4, v3.setCells A 0 (u8s (sha I)) = v4 := ⟨_, rfl⟩
      rw [hv4] at K7 B7 ⊢
      have X7 : Hid (Blk v4 A 28 (u8s (sha I)) ∧ Holds v4 G' (turn 92 (frm key)) ∧ Blk v4 w1.heap.size 28 (u8s (zer 32)) ∧ KTab v4 ∧ Below w.heap.size w v4 ∧ v4.cell? ⟨w.heap.size, 0, none⟩ = some (.pointer (some ⟨g, 0, none⟩)) ∧ v4.cell? ⟨w.heap.size, 1, none⟩ = some (.pointer (some ⟨h, 0, none⟩)) ∧ A ≠ G' ∧ w.heap.size + 2 ≤ A ∧ w.heap.size + 2 ≤ G') := by
        obtain ⟨x1, x2, x3, x4, x5, x6⟩ := X6.out
        obtain ⟨y1, y2, y3, y4, y5, y6, y7⟩ := HG.out _ x1
        have z1 := HB.out.2.2.2.1
        have z2 := HB.out.2.2.2.2
        exact ⟨B7, x3.kept K7 (fun e => x6 e.symm), y4.kept K7 (by omega), y3.kept K7 (by omega), below_kept y7 K7 y7.size (fun j hj => by omega), (K7.cell (p := ⟨w.heap.size, 0, none⟩) (by have := x2.lt; show w.heap.size < _; omega) (by show ¬ w.heap.size = A; omega)).trans y5, (K7.cell (p := ⟨w.heap.size, 1, none⟩) (by have := x2.lt; show w.heap.size < _; omega) (by show ¬ w.heap.size = A; omega)).trans y6, x6, by omega, by omega⟩
      clear K7 B7 hv4 X6
      refine hK.out _ _ ⟨X7.out.2.2.2.2.2.1, X7.out.2.2.2.2.2.2.1⟩ (fun hH => ?_)
      clear hK K
      refine hTake 8 (some 4) (.pointer (some ⟨G', 0, none⟩)) rfl rfl (by kernel_rfl) (by kernel_rfl) (by kernel_rfl) (fun _ _ _ h => h) (by rfl) (fun _ _ => by rfl) hH ?_
      simp only [Act.put, List.setIfInBounds_toArray, List.set_cons_zero, List.set_cons_succ]
      refine wpAnyH_done (by kernel_rfl) (NoPanic.normal ?_) _
      clear hH
      go_wp2_with (first | (go_at_call 35; refine (write_any G' (turn 92 (frm key)) (some ⟨A, 0, none⟩) 32 32 (sha I) _ X7.out.2.1 (by have q := seen_blk X7.out.1 (sha_bytes I) (by rw [sha_length]; decide); rw [sha_length] at q; exact q) (Nat.le_refl _) (fun b o _ e => by simp at e; have := X7.out.2.2.2.2.2.2.2.1; omega) X7.out.2.2.2.1 (by have := X7.out.2.2.2.2.2.2.2.2.2; omega) (by rw [turn_frm]; decide)).mono ?_; rintro e v5 ⟨rfl, h5, k5⟩; have X8 : Hid (Holds v5 G' (turn 92 (frm key) ++ sha I) ∧ Blk v5 w1.heap.size 28 (u8s (zer 32)) ∧ KTab v5 ∧ Below w.heap.size w v5) := (by obtain ⟨x1, x2, x3, x4, x5, x6, x7, x8, x9, x10⟩ := X7.out; have z1 := HB.out.2.2.2.1; exact ⟨h5, x3.kept k5 (by omega), x4.kept k5 (by omega), below_kept x5 k5 x5.size (fun j hj => by omega)⟩); clear h5 k5) | (go_at_call 48; refine (sum_holds G' _ _ X8.out.1 X8.out.2.2.1).mono ?_; rintro e v6 ⟨rfl, l6⟩; rw [← HI.out.2]; have X9 : Hid (Blk v6 w1.heap.size 28 (u8s (zer 32)) ∧ Below w.heap.size w v6) := ⟨X8.out.2.1.later l6 X8.out.2.1.lt, below_chain X8.out.2.2.2 l6 X8.out.2.2.2.size⟩; clear l6) | (refine wpList_store_blk rfl 28 28 _ _ rfl _ rfl _ (u8s (mac key text)) rfl X9.out.1 (by rw [u8s_length, mac_length, u8s_length, zer_length]) (by rw [u8s_length, mac_length]; exact sizeAH) (u8s_one _) ?_; intro v7 b7 s7 k7))
      exact ret_blk rfl w1.heap.size (u8s (mac key text)) _ rfl b7 Tryd.underlying28 rfl (by rw [u8s_length, mac_length]; exact sizeAH) rfl ⟨rfl, below_kept X9.out.2 k7 X9.out.2.size (fun j hj => by have := HB.out.2.2.2.1; omega)⟩
    · refine step_alloc_new rfl 28 rfl 32 (u8s (zer 32)) zeroAH (some 3) rfl ?_
      intro v2 bA sA l2
      have L2 : Hid (Below w2.heap.size w2 v2) := below_chain L1.out l2 L1.out.size
      have A2 : Hid (Blk v2 v1.heap.size 28 (u8s (zer 32)) ∧ v1.heap.size < v2.heap.size) := ⟨bA, by change _ = v1.heap.size + 1 at sA; omega⟩
      clear bA sA
      clear l2
      refine hK.out _ _ ⟨(HG.out _ L2.out).2.2.2.2.1, (HG.out _ L2.out).2.2.2.2.2.1⟩ (fun hH => ?_)
      clear hK K hH
      refine wpAnyH_ready (rs := [5]) (by kernel_rfl) (by simp) (AllReadyH.cons rfl (fun K hK => ?_) AllReadyH.nil)
      go_simp
      go_wp2_with (go_at_call 49; refine (copy_holds h (turn 92 (frm key)) v2 (HG.out _ L2.out).2.1).mono ?_; rintro e v3 ⟨G', rfl, hG', hC', l3⟩)
      have L3 : Hid (Below w2.heap.size w2 v3) := below_chain L2.out l3 L2.out.size
      have C3 : Hid (Holds v3 G' (turn 92 (frm key)) ∧ v2.heap.size ≤ G') := ⟨hC', hG'⟩
      clear hC' hG'
      have A3 : Hid (Blk v3 v1.heap.size 28 (u8s (zer 32)) ∧ v1.heap.size < v2.heap.size) := ⟨A2.out.1.later l3 A2.out.1.lt, A2.out.1.lt⟩
      clear l3
      refine hK.out _ _ ⟨(HG.out _ L3.out).2.2.2.2.1, (HG.out _ L3.out).2.2.2.2.2.1⟩ (fun hH => ?_)
      clear hK K hH
      obtain ⟨A, hA, X6⟩ : ∃ A, v1.heap.size = A ∧ Hid (Below w2.heap.size w2 v3 ∧ Blk v3 A 28 (u8s (zer 32)) ∧ Holds v3 G' (turn 92 (frm key)) ∧ w2.heap.size ≤ A ∧ w2.heap.size ≤ G' ∧ A ≠ G') := by
        have q0 := L0.out.size; have q1 := L1.out.size; have q2 := L2.out.size; have q3 := C3.out.2; have q4 := A3.out.2; have d1 := A3.out.1.lt; have d2 := C3.out.1.lt
        exact ⟨_, rfl, L3.out, A3.out.1, C3.out.1, by omega, by omega, by omega⟩
      rw [hA]
      clear hA A3 C3
      refine wpAnyH_ready (rs := [7]) (by kernel_rfl) (by simp) (AllReadyH.cons rfl (fun K hK => ?_) AllReadyH.nil)
      refine step_store rfl (by rfl) 28 (.tmp 3) (.tmp 7) rfl A 0 rfl (u8s (sha I)) rfl (X6.out.2.1.there (by rw [u8s_length, u8s_length, sha_length, zer_length]; decide)) (by rw [u8s_length, sha_length]; exact sizeAH) (u8s_one _) ?_
      have K7 := (Kept.refl (fun b => b = A) v3).setCells (S := fun b => b = A) rfl 0 (u8s (sha I))
      have B7 := Blk.setCells (w := v3) (g := A) (t := 28) (xs := []) (zs := []) (u8s (sha I)) (u8s (zer 32)) (by rw [u8s_length, u8s_length, sha_length, zer_length]) (by simpa using X6.out.2.1)
      simp only [List.nil_append, List.append_nil, List.length_nil] at B7
      obtain ⟨v4, hv4⟩ : ∃ v4, v3.setCells A 0 (u8s (sha I)) = v4 := ⟨_, rfl⟩
      rw [hv4] at K7 B7 ⊢
      have X7 : Hid (Blk v4 A 28 (u8s (sha I)) ∧ Holds v4 G' (turn 92 (frm key)) ∧ Blk v4 w1.heap.size 28 (u8s (zer 32)) ∧ KTab v4 ∧ Below w.heap.size w v4 ∧ v4.cell? ⟨w.heap.size, 0, none⟩ = some (.pointer (some ⟨g, 0, none⟩)) ∧ v4.cell? ⟨w.heap.size, 1, none⟩ = some (.pointer (some ⟨h, 0, none⟩)) ∧ A ≠ G' ∧ w.heap.size + 2 ≤ A ∧ w.heap.size + 2 ≤ G') := by
        obtain ⟨x1, x2, x3, x4, x5, x6⟩ := X6.out
        obtain ⟨y1, y2, y3, y4, y5, y6, y7⟩ := HG.out _ x1
        have z1 := HB.out.2.2.2.1
        have z2 := HB.out.2.2.2.2
        exact ⟨B7, x3.kept K7 (fun e => x6 e.symm), y4.kept K7 (by omega), y3.kept K7 (by omega), below_kept y7 K7 y7.size (fun j hj => by omega), (K7.cell (p := ⟨w.heap.size, 0, none⟩) (by have := x2.lt; show w.heap.size < _; omega) (by show ¬ w.heap.size = A; omega)).trans y5, (K7.cell (p := ⟨w.heap.size, 1, none⟩) (by have := x2.lt; show w.heap.size < _; omega) (by show ¬ w.heap.size = A; omega)).trans y6, x6, by omega, by omega⟩
      clear K7 B7 hv4 X6
      refine hK.out _ _ ⟨X7.out.2.2.2.2.2.1, X7.out.2.2.2.2.2.2.1⟩ (fun hH => ?_)
      clear hK K
      refine hTake 8 (some 4) (.pointer (some ⟨G', 0, none⟩)) rfl rfl (by kernel_rfl) (by kernel_rfl) (by kernel_rfl) (fun _ _ _ h => h) (by rfl) (fun _ _ => by rfl) hH ?_
      simp only [Act.put, List.setIfInBounds_toArray, List.set_cons_zero, List.set_cons_succ]
      refine wpAnyH_done (by kernel_rfl) (NoPanic.normal ?_) _
      clear hH
      go_wp2_with (first | (go_at_call 35; refine (write_any G' (turn 92 (frm key)) (some ⟨A, 0, none⟩) 32 32 (sha I) _ X7.out.2.1 (by have q := seen_blk X7.out.1 (sha_bytes I) (by rw [sha_length]; decide); rw [sha_length] at q; exact q) (Nat.le_refl _) (fun b o _ e => by simp at e; have := X7.out.2.2.2.2.2.2.2.1; omega) X7.out.2.2.2.1 (by have := X7.out.2.2.2.2.2.2.2.2.2; omega) (by rw [turn_frm]; decide)).mono ?_; rintro e v5 ⟨rfl, h5, k5⟩; have X8 : Hid (Holds v5 G' (turn 92 (frm key) ++ sha I) ∧ Blk v5 w1.heap.size 28 (u8s (zer 32)) ∧ KTab v5 ∧ Below w.heap.size w v5) := (by obtain ⟨x1, x2, x3, x4, x5, x6, x7, x8, x9, x10⟩ := X7.out; have z1 := HB.out.2.2.2.1; exact ⟨h5, x3.kept k5 (by omega), x4.kept k5 (by omega), below_kept x5 k5 x5.size (fun j hj => by omega)⟩); clear h5 k5) | (go_at_call 48; refine (sum_holds G' _ _ X8.out.1 X8.out.2.2.1).mono ?_; rintro e v6 ⟨rfl, l6⟩; rw [← HI.out.2]; have X9 : Hid (Blk v6 w1.heap.size 28 (u8s (zer 32)) ∧ Below w.heap.size w v6) := ⟨X8.out.2.1.later l6 X8.out.2.1.lt, below_chain X8.out.2.2.2 l6 X8.out.2.2.2.size⟩; clear l6) | (refine wpList_store_blk rfl 28 28 _ _ rfl _ rfl _ (u8s (mac key text)) rfl X9.out.1 (by rw [u8s_length, mac_length, u8s_length, zer_length]) (by rw [u8s_length, mac_length]; exact sizeAH) (u8s_one _) ?_; intro v7 b7 s7 k7))
      exact ret_blk rfl w1.heap.size (u8s (mac key text)) _ rfl b7 Tryd.underlying28 rfl (by rw [u8s_length, mac_length]; exact sizeAH) rfl ⟨rfl, below_kept X9.out.2 k7 X9.out.2.size (fun j hj => by have := HB.out.2.2.2.1; omega)⟩
  · refine step_alloc_new rfl 28 rfl 32 (u8s (zer 32)) zeroAH (some 3) rfl ?_
    intro v1 bA sA l1
    have L1 : Hid (Below w2.heap.size w2 v1) := below_chain L0.out l1 L0.out.size
    have A1 : Hid (Blk v1 w2.heap.size 28 (u8s (zer 32)) ∧ w2.heap.size < v1.heap.size) := ⟨bA, by change _ = w2.heap.size + 1 at sA; omega⟩
    clear bA sA
    clear l1
    refine hK.out _ _ ⟨(HG.out _ L1.out).2.2.2.2.1, (HG.out _ L1.out).2.2.2.2.2.1⟩ (fun hH => ?_)
    clear hK K hH
    refine wpAnyH_ready (rs := [2]) (by kernel_rfl) (by simp) (AllReadyH.cons rfl (fun K hK => ?_) AllReadyH.nil)
    go_simp
    go_wp2_with (go_at_call 48; refine (sum_holds g I v1 (HG.out _ L1.out).1 (HG.out _ L1.out).2.2.1).mono ?_; rintro e v2 ⟨rfl, l2⟩)
    have L2 : Hid (Below w2.heap.size w2 v2) := below_chain L1.out l2 L1.out.size
    have A2 : Hid (Blk v2 w2.heap.size 28 (u8s (zer 32)) ∧ w2.heap.size < v1.heap.size) := ⟨A1.out.1.later l2 A1.out.1.lt, A1.out.1.lt⟩
    clear l2
    refine hK.out _ _ ⟨(HG.out _ L2.out).2.2.2.2.1, (HG.out _ L2.out).2.2.2.2.2.1⟩ (fun hH => ?_)
    clear hK K hH
    refine wpAnyH_ready (rs := [5]) (by kernel_rfl) (by simp) (AllReadyH.cons rfl (fun K hK => ?_) AllReadyH.nil)
    go_simp
    go_wp2_with (go_at_call 49; refine (copy_holds h (turn 92 (frm key)) v2 (HG.out _ L2.out).2.1).mono ?_; rintro e v3 ⟨G', rfl, hG', hC', l3⟩)
    have L3 : Hid (Below w2.heap.size w2 v3) := below_chain L2.out l3 L2.out.size
    have C3 : Hid (Holds v3 G' (turn 92 (frm key)) ∧ v2.heap.size ≤ G') := ⟨hC', hG'⟩
    clear hC' hG'
    have A3 : Hid (Blk v3 w2.heap.size 28 (u8s (zer 32)) ∧ w2.heap.size < v2.heap.size) := ⟨A2.out.1.later l3 A2.out.1.lt, A2.out.1.lt⟩
    clear l3
    refine hK.out _ _ ⟨(HG.out _ L3.out).2.2.2.2.1, (HG.out _ L3.out).2.2.2.2.2.1⟩ (fun hH => ?_)
    clear hK K hH
    obtain ⟨A, hA, X6⟩ : ∃ A, w2.heap.size = A ∧ Hid (Below w2.heap.size w2 v3 ∧ Blk v3 A 28 (u8s (zer 32)) ∧ Holds v3 G' (turn 92 (frm key)) ∧ w2.heap.size ≤ A ∧ w2.heap.size ≤ G' ∧ A ≠ G') := by
      have q0 := L0.out.size; have q1 := L1.out.size; have q2 := L2.out.size; have q3 := C3.out.2; have q4 := A3.out.2; have d1 := A3.out.1.lt; have d2 := C3.out.1.lt
      exact ⟨_, rfl, L3.out, A3.out.1, C3.out.1, by omega, by omega, by omega⟩
    rw [hA]
    clear hA A3 C3
    refine wpAnyH_ready (rs := [7]) (by kernel_rfl) (by simp) (AllReadyH.cons rfl (fun K hK => ?_) AllReadyH.nil)
    refine step_store rfl (by rfl) 28 (.tmp 3) (.tmp 7) rfl A 0 rfl (u8s (sha I)) rfl (X6.out.2.1.there (by rw [u8s_length, u8s_length, sha_length, zer_length]; decide)) (by rw [u8s_length, sha_length]; exact sizeAH) (u8s_one _) ?_
    have K7 := (Kept.refl (fun b => b = A) v3).setCells (S := fun b => b = A) rfl 0 (u8s (sha I))
    have B7 := Blk.setCells (w := v3) (g := A) (t := 28) (xs := []) (zs := []) (u8s (sha I)) (u8s (zer 32)) (by rw [u8s_length, u8s_length, sha_length, zer_length]) (by simpa using X6.out.2.1)
    simp only [List.nil_append, List.append_nil, List.length_nil] at B7
    obtain ⟨v4, hv4⟩ : ∃ v4, v3.setCells A 0 (u8s (sha I)) = v4 := ⟨_, rfl⟩
    rw [hv4] at K7 B7 ⊢
    have X7 : Hid (Blk v4 A 28 (u8s (sha I)) ∧ Holds v4 G' (turn 92 (frm key)) ∧ Blk v4 w1.heap.size 28 (u8s (zer 32)) ∧ KTab v4 ∧ Below w.heap.size w v4 ∧ v4.cell? ⟨w.heap.size, 0, none⟩ = some (.pointer (some ⟨g, 0, none⟩)) ∧ v4.cell? ⟨w.heap.size, 1, none⟩ = some (.pointer (some ⟨h, 0, none⟩)) ∧ A ≠ G' ∧ w.heap.size + 2 ≤ A ∧ w.heap.size + 2 ≤ G') := by
      obtain ⟨x1, x2, x3, x4, x5, x6⟩ := X6.out
      obtain ⟨y1, y2, y3, y4, y5, y6, y7⟩ := HG.out _ x1
      have z1 := HB.out.2.2.2.1
      have z2 := HB.out.2.2.2.2
      exact ⟨B7, x3.kept K7 (fun e => x6 e.symm), y4.kept K7 (by omega), y3.kept K7 (by omega), below_kept y7 K7 y7.size (fun j hj => by omega), (K7.cell (p := ⟨w.heap.size, 0, none⟩) (by have := x2.lt; show w.heap.size < _; omega) (by show ¬ w.heap.size = A; omega)).trans y5, (K7.cell (p := ⟨w.heap.size, 1, none⟩) (by have := x2.lt; show w.heap.size < _; omega) (by show ¬ w.heap.size = A; omega)).trans y6, x6, by omega, by omega⟩
    clear K7 B7 hv4 X6
    refine hK.out _ _ ⟨X7.out.2.2.2.2.2.1, X7.out.2.2.2.2.2.2.1⟩ (fun hH => ?_)
    clear hK K
    refine hTake 8 (some 4) (.pointer (some ⟨G', 0, none⟩)) rfl rfl (by kernel_rfl) (by kernel_rfl) (by kernel_rfl) (fun _ _ _ h => h) (by rfl) (fun _ _ => by rfl) hH ?_
    simp only [Act.put, List.setIfInBounds_toArray, List.set_cons_zero, List.set_cons_succ]
    refine wpAnyH_done (by kernel_rfl) (NoPanic.normal ?_) _
    clear hH
    go_wp2_with (first | (go_at_call 35; refine (write_any G' (turn 92 (frm key)) (some ⟨A, 0, none⟩) 32 32 (sha I) _ X7.out.2.1 (by have q := seen_blk X7.out.1 (sha_bytes I) (by rw [sha_length]; decide); rw [sha_length] at q; exact q) (Nat.le_refl _) (fun b o _ e => by simp at e; have := X7.out.2.2.2.2.2.2.2.1; omega) X7.out.2.2.2.1 (by have := X7.out.2.2.2.2.2.2.2.2.2; omega) (by rw [turn_frm]; decide)).mono ?_; rintro e v5 ⟨rfl, h5, k5⟩; have X8 : Hid (Holds v5 G' (turn 92 (frm key) ++ sha I) ∧ Blk v5 w1.heap.size 28 (u8s (zer 32)) ∧ KTab v5 ∧ Below w.heap.size w v5) := (by obtain ⟨x1, x2, x3, x4, x5, x6, x7, x8, x9, x10⟩ := X7.out; have z1 := HB.out.2.2.2.1; exact ⟨h5, x3.kept k5 (by omega), x4.kept k5 (by omega), below_kept x5 k5 x5.size (fun j hj => by omega)⟩); clear h5 k5) | (go_at_call 48; refine (sum_holds G' _ _ X8.out.1 X8.out.2.2.1).mono ?_; rintro e v6 ⟨rfl, l6⟩; rw [← HI.out.2]; have X9 : Hid (Blk v6 w1.heap.size 28 (u8s (zer 32)) ∧ Below w.heap.size w v6) := ⟨X8.out.2.1.later l6 X8.out.2.1.lt, below_chain X8.out.2.2.2 l6 X8.out.2.2.2.size⟩; clear l6) | (refine wpList_store_blk rfl 28 28 _ _ rfl _ rfl _ (u8s (mac key text)) rfl X9.out.1 (by rw [u8s_length, mac_length, u8s_length, zer_length]) (by rw [u8s_length, mac_length]; exact sizeAH) (u8s_one _) ?_; intro v7 b7 s7 k7))
    exact ret_blk rfl w1.heap.size (u8s (mac key text)) _ rfl b7 Tryd.underlying28 rfl (by rw [u8s_length, mac_length]; exact sizeAH) rfl ⟨rfl, below_kept X9.out.2 k7 X9.out.2.size (fun j hj => by have := HB.out.2.2.2.1; omega)⟩
end Go.Proofs.YtiimjhahblmggaaDoor
