/- Joined by program: what the theorem reaches. -/
import Derived.Laws.CopyOwn
import Derived.Test.YthlbjkfjkggdoaaGreatDoorJA
namespace Go.Proofs.YthlbjkfjkggdoaaGreatDoor
open Go.RowKit
set_option linter.unusedVariables false
set_option linter.unusedSimpArgs false
set_option maxRecDepth 20000
set_option maxHeartbeats 4000000
theorem zipK_all (f : Int → Int → Int) (l m : List Int) (hl : l.length = 5) (hm : m.length = 5) : zipK f 5 l m = List.zipWith f l m := by
 obtain ⟨a, b, c, d, e, rfl⟩ := five hl
 obtain ⟨a', b', c', d', e', rfl⟩ := five hm
 rfl
theorem zip_fst : ∀ (l m : List Int), l.length = m.length → List.zipWith (fun a _ => a) l m = l
 | [], [], _ => rfl
 | a :: l, b :: m, h => by simp [zip_fst l m (by simpa using h)]
theorem zip_snd : ∀ (l m : List Int), l.length = m.length → List.zipWith (fun _ b => b) l m = m
 | [], [], _ => rfl
 | a :: l, b :: m, h => by simp [zip_snd l m (by simpa using h)]
theorem pick_limbs (c : Bool) (l m : List Int) (hl : l.length = 5) (hm : m.length = 5) : zipK (fun a b => bif c then a else b) 5 l m = bif c then l else m := by
 rw [zipK_all _ _ _ hl hm]
 cases c
 ·exact zip_snd l m (by omega)
 ·exact zip_fst l m (by omega)
theorem pk_mk (c : Bool) (x y : Int) (hx : Word x) (hy : Word y) : pk (mk c) x y = bif c then x else y := by
 cases c
 ·exact pk_zero x y hy.1
 ·exact pk_ones x y hx hy
theorem fpick_any (n : Int) (hn : Word n) (l m : List Int) (x y : Int) (hl : Fe l x) (hm : Fe m y) (w : World) :
  Calls Tryz.prog 204 #[.int .u64 n, .agg (u64s l).toArray, .agg (u64s m).toArray] w fun e w' => ∃ r, e = .returned (.agg (u64s r).toArray) ∧ Fe r (bif n % 2 == 1 then x else y) ∧ Below w.heap.size w w' := by
 have HL : Hid (Fe l x ∧ Fe m y) := ⟨hl, hm⟩
 have hbit := bit_any n hn
 obtain ⟨c, hc⟩ : ∃ c, (n % 2 == 1) = c := ⟨_, rfl⟩
 rw [hc] at hbit ⊢
 clear hl hm hc
 have HM : Hid (Word (mk c)) := mk_bd c
 obtain ⟨M, hMM⟩ : ∃ z, mk c = z := ⟨_, rfl⟩
 have HP : Hid (∀ a b, Word a → Word b → ∀ w, Calls Tryz.prog 229 #[.int .u64 M, .int .u64 a, .int .u64 b] w fun e w' => e = .returned (.int .u64 (bif c then a else b)) ∧ w = w') := fun a b ha hb w => by
  have h := pick_any (mk c) a b HM.out ha hb w
  rwa [pk_mk c a b ha hb, hMM] at h
 rw [hMM] at hbit
 clear hMM HM
 go_enter Tryz.func204, Tryz.ntmps204
 go_wp2_with (first | (refine wpList_box_new rfl 116 (.tmp 1) rfl (u64s l) rfl ?_; intro x1 z1 s1 l1) | (refine wpList_box_new rfl 116 (.tmp 2) rfl (u64s m) rfl ?_; intro x2 z2 s2 l2) | (refine wpList_alloc_new rfl 116 rfl 5 _ zeroElem ?_; intro x3 z3 s3 l3) | (go_at_call 165; refine (hbit _).mono ?_; rintro e w' ⟨rfl, rfl⟩))
 have e2 : x1.heap.size = w.heap.size + 1 := s1
 have e3 : x2.heap.size = w.heap.size + 1 + 1 := by omega
 rw [e2] at z2
 rw [e3] at z3
 have WW : Hid (Below w.heap.size w x3 ∧ Blk x3 w.heap.size 116 (u64s l) ∧ Blk x3 (w.heap.size + 1) 116 (u64s m) ∧ Blk x3 (w.heap.size + 1 + 1) 116 (u64s [0, 0, 0, 0, 0])) := ⟨below_chain (below_chain l1 l2 (by omega)) l3 (by omega), (z1.later l2 (by omega)).later l3 (by omega), z2.later l3 (by omega), z3⟩
 clear z1 s1 l1 z2 s2 l2 z3 s3 l3 e2 e3
 go_loopw [11] (fun i wr => ∃ (k : Nat), k ≤ 5 ∧ i = .int .i64 k ∧ Blk wr w.heap.size 116 (u64s (zipK (fun a b => bif c then a else b) k l m)) ∧ Kept (fun x => x = w.heap.size) x3 wr) (fun i _ => 5 - (intOf i).toNat)
 case atStart => exact ⟨0, by omega, rfl, by have := WW.out.2.1; cases l <;> exact this, Kept.refl _ _⟩
 case round =>
  obtain ⟨k, hk, rfl, hblk, hkp⟩ := hrel
  by_cases hlt : k < 5
  ·have h1 : k < l.length := by rw [HL.out.1.len]; exact hlt
   have h2 : k < m.length := by rw [HL.out.2.len]; exact hlt
   obtain ⟨X, hX⟩ : ∃ X, l[k] = X := ⟨_, rfl⟩
   obtain ⟨Y, hY⟩ : ∃ Y, m[k] = Y := ⟨_, rfl⟩
   have lX : Lim X := hX ▸ lim_at HL.out.1.lim k h1
   have lY : Lim Y := hY ▸ lim_at HL.out.2.lim k h2
   have ck : wr.cell? ⟨w.heap.size, k, none⟩ = some (.int .u64 X) := by
    rw [hblk.cell, u64s, List.getElem?_map, zipK_at, List.getElem?_eq_getElem h1, hX]; rfl
   have dk : wr.cell? ⟨w.heap.size + 1, k, none⟩ = some (.int .u64 Y) := by
    rw [(WW.out.2.2.1.kept hkp (by omega)).cell, u64s_getD h2, hY]
   have fg := hblk.frozen k
   have i1 : (k : Int) < 5 := by omega
   have i3 : (0 : Int) ≤ (k : Int) := by omega
   have hC := HP.out X Y ⟨lX.1, by have := lX.2; omega⟩ ⟨lY.1, by have := lY.2; omega⟩
   obtain ⟨Z, hZ⟩ : ∃ z, (bif c then X else Y) = z := ⟨_, rfl⟩
   rw [hZ] at hC
   have HQ : Hid (Blk wr w.heap.size 116 (u64s (zipK (fun a b => bif c then a else b) k l m)) ∧ Kept (fun x => x = w.heap.size) x3 wr ∧ l[k] = X ∧ m[k] = Y ∧ (bif c then X else Y) = Z) := ⟨hblk, hkp, hX, hY, hZ⟩
   clear hblk hkp hX hY lX lY hZ
   go_wp2_with fail
   go_region_with (go_at_call 229; refine (hC _).mono ?_; rintro e w' ⟨rfl, rfl⟩)
   go_wp2_with fail
   all_goals (
   go_roundw
   case rel =>
    have R := (HQ.out.1.set k (.int .u64 Z)).drew
    have e := zipK_set (fun a b => bif c then a else b) k l m h1 h2
    simp only [HQ.out.2.2.1, HQ.out.2.2.2.1, HQ.out.2.2.2.2] at e
    rw [u64s_set, e] at R
    exact ⟨k + 1, by omega, by go_num, R, (HQ.out.2.1.setCell rfl _).drewN 1⟩
   case measure => simp [intOf]; omega)
  ·have hk5 : k = 5 := by omega
   have i1 : ¬ ((k : Int) < 5) := by omega
   obtain ⟨lr, hlr⟩ : ∃ z, (bif c then l else m) = z := ⟨_, rfl⟩
   have HF : Hid (Fe lr (bif c then x else y) ∧ lr.length = 5) := by
    rw [← hlr]
    cases c
    ·exact ⟨HL.out.2, HL.out.2.len⟩
    ·exact ⟨HL.out.1, HL.out.1.len⟩
   have HQ : Hid (Blk wr w.heap.size 116 (u64s lr) ∧ Blk wr (w.heap.size + 1 + 1) 116 (u64s [0, 0, 0, 0, 0]) ∧ Below w.heap.size w wr) := ⟨by rw [hk5, pick_limbs c l m HL.out.1.len HL.out.2.len, hlr] at hblk; exact hblk, WW.out.2.2.2.kept hkp (by omega), below_kept WW.out.1 hkp WW.out.1.size (fun j hj => by omega)⟩
   clear hblk hkp hlr hk5 hlt hk
   go_wp2_with (first | (refine wpList_load_blk rfl 116 (.tmp 4) rfl w.heap.size rfl (u64s lr) _ HQ.out.1 Tryz.underlying116 rfl (by rw [u64s_length, HF.out.2]; exact sizeElem) ?_) | (refine wpList_store_blk rfl 116 116 _ _ rfl _ rfl _ (u64s lr) rfl HQ.out.2.1 (by rw [u64s_length, HF.out.2]; rfl) (by rw [u64s_length, HF.out.2]; exact sizeElem) (u64s_one _) ?_; intro y7 b7 s7 k7))
   exact ret_blk rfl (w.heap.size + 1 + 1) (u64s lr) _ rfl b7 Tryz.underlying116 rfl (by rw [u64s_length, HF.out.2]; exact sizeElem) rfl ⟨lr, rfl, HF.out.1, below_kept HQ.out.2.2 k7 HQ.out.2.2.size (fun j hj => by omega)⟩
def leansOn (ops : Array Oper) : Nat → Nat → Nat → Bool
 | 0, _, _ => false
 | n + 1, j, k => ((ops[j]?).map fun o => o.after.any fun e => Region.binds .any e && (e.on == k || leansOn ops n e.on k)).getD false
theorem behind_done {ops : Array Oper} {l : Array Bool} (hcl : ∀ j o, ops[j]? = some o → l.getD j true = true → ∀ x ∈ o.after, Region.binds .any x = true → l.getD x.on true = true) :
  ∀ {n j k : Nat} {o : Oper}, (∀ x ∈ o.after, Region.binds .any x = true → l.getD x.on true = true) → ops[j]? = some o → leansOn ops n j k = true → l.getD k true = true
 | 0, _, _, _, _, _, h => by cases h
 | n + 1, j, k, o, hd, ho, h => by
  simp only [leansOn, ho, Option.map_some, Option.getD_some, Array.any_eq_true, Bool.and_eq_true, Bool.or_eq_true, beq_iff_eq] at h
  obtain ⟨x, hx, hbd, h⟩ := h
  have h1 := hd _ (Array.getElem_mem hx) hbd
  rcases h with h | h
  ·rwa [h] at h1
  ·cases ho' : ops[o.after[x].on]? with
   | none => cases n <;> simp [leansOn, ho'] at h
   | some o' => exact behind_done hcl (hcl _ o' ho' h1) ho' h
def chainOps (ops : Array Oper) : Bool :=
 (List.range (ops.size - 1)).all (fun j => ((ops[j]?).map (fun o => o.guard.isNone && o.dst.isSome)).getD false) &&
 (List.range (ops.size - 1)).all (fun j => (List.range (ops.size - 1)).all fun k => j == k || ((ops[j]?).bind (·.dst)) != ((ops[k]?).bind (·.dst))) &&
 ((ops[ops.size - 1]?).map (fun o => o.guard.isNone && (List.range (ops.size - 1)).all (fun k => leansOn ops ops.size (ops.size - 1) k))).getD false &&
 (List.range ops.size).all (fun j => ((ops[j]?).map (fun o => o.after.all fun e => !Region.binds .any e || decide (e.on < j))).getD false)
theorem region_invT {id : Nat} {ops : Array Oper} {Q : Exit → Act → World → Prop} {a0 : Act} {w0 : World} (E : List Exp) (hm : Tryz.prog.follows .mixedOrders = true) (hp : chainOps ops = true)
  (hin : (List.range (ops.size - 1)).all (fun j => ((ops[j]?).map (fun o => (o.dst.map (fun t => decide (t < a0.tmps.size))).getD false)).getD false) = true)
  (hs : Steps' w0.heap.size ops E a0 w0 0 ops.toList) (he : ∀ w, Below w0.heap.size w0 w → Ends w0.heap.size E Q w 0 ops.toList a0) : (Code.region id ops true).wp Tryz.prog Q a0 w0 := by
 simp only [chainOps, Bool.and_eq_true] at hp
 obtain ⟨⟨⟨hp1, hp2⟩, hp3⟩, hp4⟩ := hp
 have hne : ops.size - 1 < ops.size := by
  rcases Nat.eq_zero_or_pos ops.size with h | h
  ·rw [Array.getElem?_eq_none (by omega)] at hp3; simp at hp3
  ·omega
 have own : ∀ j o, ops[j]? = some o → j + 1 < ops.size → o.guard.isNone = true ∧ ∃ t, o.dst = some t ∧ t < a0.tmps.size := by
  intro j o ho hj
  have h1 := range_all hp1 j (by omega)
  have h2 := range_all hin j (by omega)
  simp only [ho, Option.map_some, Option.getD_some, Bool.and_eq_true] at h1 h2
  obtain ⟨t, ht⟩ := Option.isSome_iff_exists.1 h1.2
  rw [ht] at h2
  exact ⟨h1.1, t, ht, by simpa using h2⟩
 have apart : ∀ j k o o' t, ops[j]? = some o → ops[k]? = some o' → j + 1 < ops.size → k + 1 < ops.size → o.dst = some t → o'.dst = some t → j = k := by
  intro j k o o' t ho ho' hj hk ht ht'
  have h1 := range_all (range_all hp2 j (by omega)) k (by omega)
  simp only [ho, ho', Option.bind_some, ht, ht', Bool.or_eq_true, beq_iff_eq] at h1
  rcases h1 with h1 | h1
  ·exact h1
  ·simp at h1
 refine wp_region_noPanic (wp_region_any hm ?_)
 have main : ∀ (n : Nat) (l : Array Bool) (a : Act) (w : World), l.size = ops.size → Below w0.heap.size w0 w → a.tmps.size = a0.tmps.size → a.defers = a0.defers →
   l.getD (ops.size - 1) true = false →
   (∀ t, (∀ j o, ops[j]? = some o → j + 1 < ops.size → o.dst = some t → l.getD j true = false) → a.tmps.getD t undef = a0.tmps.getD t undef) →
   (∀ j o t, ops[j]? = some o → j + 1 < ops.size → o.dst = some t → l.getD j true = true → (E.getD j (.val undef)).ok w0.heap.size (a.tmps.getD t undef) w) →
   (∀ j o, ops[j]? = some o → l.getD j true = true → ∀ x ∈ o.after, Region.binds .any x = true → l.getD x.on true = true) →
   ((List.range ops.size).filter fun i => !l.getD i true).length ≤ n →
   wpAny Tryz.prog .any ops (NoPanic Q) n l a w := by
  intro n
  induction n with
  | zero =>
   intro l a w hl hb hsz hdf hlast hold hnew hcl hc
   have : ops.size - 1 ∈ (List.range ops.size).filter fun i => !l.getD i true := List.mem_filter.2 ⟨List.mem_range.2 hne, by rw [hlast]; rfl⟩
   have := List.length_pos_of_mem this
   omega
  | succ n ih =>
   intro l a w hl hb hsz hdf hlast hold hnew hcl hc
   have hcount : ∀ i, i < ops.size → l.getD i true = false → ((List.range ops.size).filter fun k => !(l.setIfInBounds i true).getD k true).length ≤ n := by
    intro i hi hli
    have hlt : ((List.range ops.size).filter fun k => !(l.setIfInBounds i true).getD k true).length < ((List.range ops.size).filter fun k => !l.getD k true).length := by
     have e : ((List.range ops.size).filter fun k => !(l.setIfInBounds i true).getD k true) = ((List.range ops.size).filter fun k => !l.getD k true).filter (fun k => k != i) := by
      rw [List.filter_filter]
      refine List.filter_congr fun k hk => ?_
      by_cases hki : k = i
      ·subst hki; simp [Array.getD, hl, hi]
      ·rw [getD_set_ne true (Ne.symm hki)]; simp [hki]
     rw [e]
     refine List.length_filter_lt_length_iff_exists.2 ⟨i, List.mem_filter.2 ⟨List.mem_range.2 hi, by rw [hli]; rfl⟩, by simp⟩
    omega
   refine ⟨fun h0 => ?_, fun i hi => ?_⟩
   ·exfalso
    obtain ⟨i, h1, h2, h3⟩ := least_false (fun k => l.getD k true) (ops.size - 1) hlast
    have hi : i < ops.size := by omega
    have : i ∈ Region.ready .any ops l := by
     refine mem_ready.2 ⟨h2, ops[i], by simp [hi], fun e he hbd => ?_⟩
     have h4 := range_all hp4 i hi
     simp only [Array.getElem?_eq_getElem hi, Option.map_some, Option.getD_some] at h4
     have h5 := Array.all_eq_true_iff_forall_mem.1 h4 e he
     simp only [hbd, Bool.not_true, Bool.false_or, decide_eq_true_eq] at h5
     have h6 := h3 e.on h5
     simp only [Array.getD] at h6 ⊢
     rw [dif_pos (by omega)] at h6 ⊢
     exact h6
    rw [h0] at this
    cases this
   ·obtain ⟨hun, o, ho, hall⟩ := mem_ready.1 hi
    have hilt : i < ops.size := (Array.getElem?_eq_some_iff.1 ho).1
    by_cases hil : i + 1 < ops.size
    ·obtain ⟨hgd, t, hdt, htl⟩ := own i o ho hil
     have hdo := Steps'.at hs i o (by simpa using ho) (by simpa using hil) a w hb (fun t' ht' => hold t' fun j oj hoj hj hdj => by
       have := range_all ht' j (by omega)
       simp only [hoj, Option.bind_some, hdj] at this
       simp at this) (fun k t' hk hdep hkl => by
       obtain ⟨ok, hok⟩ : ∃ ok, ops[k]? = some ok := ⟨ops[k]'(by omega), by simp⟩
       rw [hok] at hk
       refine hnew k ok t' hok hkl hk ?_
       rw [Nat.zero_add, ho] at hdep
       simp only [Option.map_some, Option.getD_some, Array.any_eq_true, Bool.and_eq_true, beq_iff_eq] at hdep
       obtain ⟨x, hx, hbd, hon⟩ := hdep
       have := hall _ (Array.getElem_mem hx) hbd
       rw [hon] at this
       simp only [Array.getD] at this ⊢
       rw [dif_pos (by omega)] at this ⊢
       exact this)
     rw [Nat.zero_add] at hdo
     unfold wpOp
     rw [ho]
     simp only [wanted_plain hgd, if_true]
     refine .inl (hdo.wp fun v w' hv hbw => ?_)
     rw [hdt]
     refine ih _ _ _ (by simpa using hl) (below_chain hb hbw hb.size) (by simpa [Act.put] using hsz) (by simpa [Act.put] using hdf) ?_ ?_ ?_ ?_ (hcount i hilt hun)
     ·rw [getD_set_ne true (by omega)]; exact hlast
     ·intro t' ht'
      have htt : t ≠ t' := fun e => by
       have := ht' i o ho hil (by rw [hdt, e])
       simp [Array.getD, hl, hilt] at this
      simp only [Act.put, Array.getD_eq_getD_getElem?, Array.getElem?_setIfInBounds, if_neg htt]
      rw [← Array.getD_eq_getD_getElem?, ← Array.getD_eq_getD_getElem?]
      refine hold t' fun j oj hoj hj hdj => ?_
      have h1 := ht' j oj hoj hj hdj
      by_cases hji : i = j
      ·subst hji; exact hun
      ·rwa [getD_set_ne true hji] at h1
     ·intro j oj t' hoj hj hdj hlj
      by_cases hji : i = j
      ·subst hji
       rw [ho] at hoj
       cases hoj
       rw [hdt] at hdj
       cases hdj
       have : (a.put (some t) v).tmps.getD t undef = v := by simp [Act.put, Array.getD, hsz, htl]
       rw [this]; exact hv
      ·rw [getD_set_ne true hji] at hlj
       have htt : t ≠ t' := fun e => hji (apart i j o oj t ho hoj hil hj hdt (by rw [hdj, e]))
       have h1 := hnew j oj t' hoj hj hdj hlj
       have : (a.put (some t) v).tmps.getD t' undef = a.tmps.getD t' undef := by
        simp only [Act.put, Array.getD_eq_getD_getElem?, Array.getElem?_setIfInBounds, if_neg htt]
       rw [this]
       exact Exp.ok_later _ hbw h1
     ·intro j oj hoj hlj x hx hbx
      have hdone : l.getD x.on true = true := by
       by_cases hji : i = j
       ·subst hji
        rw [ho] at hoj
        cases hoj
        have := hall _ hx hbx
        by_cases hxl : x.on < l.size
        ·simp only [Array.getD] at this ⊢
         rw [dif_pos hxl] at this ⊢
         exact this
        ·simp [Array.getD, hxl]
       ·rw [getD_set_ne true hji] at hlj
        exact hcl j oj hoj hlj x hx hbx
      by_cases hxi : i = x.on
      ·rw [← hxi, hun] at hdone; cases hdone
      ·rw [getD_set_ne true hxi]; exact hdone
    ·obtain rfl : i = ops.size - 1 := by omega
     simp only [ho, Option.map_some, Option.getD_some, Bool.and_eq_true] at hp3
     have hlisted : ∀ k, k + 1 < ops.size → l.getD k true = true := by
      intro k hk
      have h1 := range_all hp3.2 k (by omega)
      refine behind_done hcl (fun x hx hbx => ?_) ho h1
      have := hall _ hx hbx
      by_cases hxl : x.on < l.size
      ·simp only [Array.getD] at this ⊢
       rw [dif_pos hxl] at this ⊢
       exact this
      ·simp [Array.getD, hxl]
     obtain ⟨o', ho', hw⟩ := Ends.at a (l := ops.toList) (j := 0) (a := a0) (fun h => by rw [Array.toList_eq_nil_iff] at h; subst h; simp at hne) (he w hb) (fun k ok hk hkl => by
      have hk' : ops[k]? = some ok := by simpa using hk
      have hkl' : k + 1 < ops.size := by simpa using hkl
      obtain ⟨_, t, hdt, htl⟩ := own k ok hk' hkl'
      refine ⟨t, hdt, ?_⟩
      rw [Nat.zero_add]
      exact hnew k ok t hk' hkl' hdt (hlisted k hkl'))
     have hoo : o' = o := by
      rw [List.getLast?_eq_getElem?] at ho'
      have h2 : ops[ops.size - 1]? = some o' := by simpa using ho'
      rw [ho] at h2
      exact (Option.some.inj h2).symm
     subst hoo
     have hfill : fills a ops.toList a0 = a := by
      have hz := fills_size a ops.toList a0
      refine act_ext (by rw [hz.1, hsz]) (fun t => ?_) (by rw [hz.2, hdf])
      refine fills_slot a t ops.toList a0 hsz ?_
      by_cases hx : ∃ k ok, ops[k]? = some ok ∧ k + 1 < ops.size ∧ ok.dst = some t
      ·obtain ⟨k, ok, h1, h2, h3⟩ := hx
       exact .inr ⟨k, ok, by simpa using h1, by simpa using h2, h3⟩
      ·exact .inl (hold t fun j oj hoj hj hdj => absurd ⟨j, oj, hoj, hj, hdj⟩ hx)
     rw [hfill] at hw
     unfold wpOp
     rw [ho]
     simp only [wanted_plain hp3.1, if_true]
     refine .inl (Oper.wp_mono (fun a' w' hq => wpAny_done ?_ (NoPanic.normal hq) _) hw)
     refine List.filter_eq_nil_iff.2 fun k hk => ?_
     have hk' : k < ops.size := List.mem_range.1 hk
     have : (l.setIfInBounds (ops.size - 1) true).getD k true = true := by
      by_cases hkl : k + 1 < ops.size
      ·rw [getD_set_ne true (by omega)]; exact hlisted k hkl
      ·obtain rfl : k = ops.size - 1 := by omega
       simp [Array.getD, hl, hne]
     rw [this]; simp
 refine main _ _ _ _ (by simp) ⟨rfl, rfl, rfl, Nat.le_refl _, fun _ _ => rfl⟩ rfl rfl (by simp [Array.getD, hne]) (fun t _ => rfl) (fun j o t ho hj hd hl => ?_) (fun j o ho hl => ?_) ?_
 ·exfalso
  have : j < ops.size := by omega
  simp [Array.getD, this] at hl
 ·exfalso
  have : j < ops.size := (Array.getElem?_eq_some_iff.1 ho).1
  simp [Array.getD, this] at hl
 ·have := List.length_filter_le (fun i => !(Array.replicate ops.size false).getD i true) (List.range ops.size)
  simpa using this
def preOps (c : Nat) (ops : Array Oper) : Bool :=
 (List.range c).all (fun j => ((ops[j]?).map (fun o => o.guard.isNone && o.dst.isSome)).getD false) &&
 (List.range c).all (fun j => (List.range c).all fun k => j == k || ((ops[j]?).bind (·.dst)) != ((ops[k]?).bind (·.dst))) &&
 (List.range ops.size).all (fun i => decide (i < c) || (List.range c).all (fun k => leansOn ops ops.size i k)) &&
 (List.range ops.size).all (fun j => ((ops[j]?).map (fun o => o.after.all fun e => !Region.binds .any e || decide (e.on < j))).getD false) && decide (c < ops.size)
def flags (c n : Nat) : Array Bool := ((List.range n).map fun i => decide (i < c)).toArray
def EndsP (base : Nat) (E : List Exp) (K : Act → Prop) (w : World) : Nat → List Oper → Act → Prop
 | _, [], a => K a
 | j, o :: rest, a => ∀ v, (E.getD j (.val undef)).ok base v w → EndsP base E K w (j + 1) rest (a.put o.dst v)
theorem EndsP.val {base : Nat} {E : List Exp} {K : Act → Prop} {w : World} {j : Nat} {o : Oper} {rest : List Oper} {a : Act} (V : Value) (hE : E.getD j (.val undef) = .val V)
  (h : EndsP base E K w (j + 1) rest (a.put o.dst V)) : EndsP base E K w j (o :: rest) a := fun v hv => by
 rw [hE] at hv
 have : v = V := hv
 rw [this]; exact h
theorem EndsP.blk {base : Nat} {E : List Exp} {K : Act → Prop} {w : World} {j : Nat} {o : Oper} {rest : List Oper} {a : Act} (t : TypeId) (vs : List Value) (hE : E.getD j (.val undef) = .blk t vs)
  (h : ∀ g, base ≤ g → Blk w g t vs → EndsP base E K w (j + 1) rest (a.put o.dst (.pointer (some ⟨g, 0, none⟩)))) : EndsP base E K w j (o :: rest) a := fun v hv => by
 rw [hE] at hv
 obtain ⟨g, rfl, h1, h2⟩ := hv
 exact h g h1 h2
theorem EndsP.any {base : Nat} {E : List Exp} {K : Act → Prop} {w : World} {j : Nat} {o : Oper} {rest : List Oper} {a : Act} (p : Value → World → Prop) (hp : ∀ v w w', Below w.heap.size w w' → p v w → p v w') (hE : E.getD j (.val undef) = .any p hp)
  (h : ∀ v, p v w → EndsP base E K w (j + 1) rest (a.put o.dst v)) : EndsP base E K w j (o :: rest) a := fun v hv => by
 rw [hE] at hv
 exact h v hv
def fillsP (b : Act) : List Oper → Act → Act
 | [], a => a
 | o :: rest, a => fillsP b rest (a.put o.dst ((o.dst.map (b.tmps.getD · undef)).getD undef))
theorem EndsP.at {base : Nat} {E : List Exp} {K : Act → Prop} {w : World} (b : Act) : ∀ {l : List Oper} {j : Nat} {a : Act}, EndsP base E K w j l a →
  (∀ i o, l[i]? = some o → ∃ t, o.dst = some t ∧ (E.getD (j + i) (.val undef)).ok base (b.tmps.getD t undef) w) → K (fillsP b l a)
 | [], _, _, h, _ => h
 | x :: rest, j, a, h, hv => by
  obtain ⟨t, h1, h2⟩ := hv 0 x rfl
  have := EndsP.at b (l := rest) (j := j + 1) (h _ h2) (fun i o hi => by
   have := hv (i + 1) o (by simpa using hi)
   rwa [show j + (i + 1) = j + 1 + i by omega] at this)
  simpa [fillsP, h1] using this
theorem fillsP_size (b : Act) : ∀ (l : List Oper) (a : Act), (fillsP b l a).tmps.size = a.tmps.size ∧ (fillsP b l a).defers = a.defers
 | [], a => ⟨rfl, rfl⟩
 | o :: rest, a => by
  have := fillsP_size b rest (a.put o.dst ((o.dst.map (b.tmps.getD · undef)).getD undef))
  rw [fillsP, this.1, this.2]
  cases h : o.dst <;> simp [Act.put]
theorem fillsP_slot (b : Act) (t : Nat) : ∀ (l : List Oper) (a : Act), b.tmps.size = a.tmps.size → (b.tmps.getD t undef = a.tmps.getD t undef ∨ ∃ (i : Nat) (o : Oper), l[i]? = some o ∧ o.dst = some t) → (fillsP b l a).tmps.getD t undef = b.tmps.getD t undef
 | [], a, hs, h => by
  rcases h with h | ⟨i, o, hi, _⟩
  ·exact h.symm
  ·simp at hi
 | o :: rest, a, hs, h => by
  rw [fillsP]
  refine fillsP_slot b t rest _ (by rw [hs]; cases o.dst <;> simp [Act.put]) ?_
  cases hd : o.dst with
  | none =>
   rcases h with h | ⟨i, o', hi, ho'⟩
   ·left; simpa [Act.put] using h
   ·cases i with
    | zero => simp at hi; subst hi; rw [hd] at ho'; cases ho'
    | succ i => exact .inr ⟨i, o', by simpa using hi, ho'⟩
  | some u =>
   by_cases hu : u = t
   ·left
    subst hu
    simp only [Act.put, Option.map_some, Option.getD_some]
    by_cases hlt : u < a.tmps.size
    ·simp [Array.getD, hlt, hs]
    ·simp [Array.getD, hlt, hs]
   ·rcases h with h | ⟨i, o', hi, ho'⟩
    ·left
     simp only [Act.put, Array.getD_eq_getD_getElem?, Array.getElem?_setIfInBounds, if_neg hu]
     rw [← Array.getD_eq_getD_getElem?, ← Array.getD_eq_getD_getElem?]
     exact h
    ·cases i with
     | zero => simp at hi; subst hi; rw [hd] at ho'; exact absurd (Option.some.inj ho') hu
     | succ i => exact .inr ⟨i, o', by simpa using hi, ho'⟩
def Als (E : List Exp) (ts : List Nat) : Nat → List Oper → Prop
 | _, [] => True
 | j, o :: rest => ((o.dst.map (fun t => ts.contains t)).getD false = false ∨ ∃ ty vs n, o.op = .alloc ty ∧ E.getD j (.val undef) = .blk ty vs ∧ (Tryz.prog.info? ty).map (fun i => (i.zero, i.size)) = some (some (.agg vs.toArray), n)) ∧ Als E ts (j + 1) rest
theorem Als.at {E : List Exp} {ts : List Nat} : ∀ {l : List Oper} {j : Nat}, Als E ts j l → ∀ (i : Nat) (o : Oper) (t : Nat), l[i]? = some o → o.dst = some t → t ∈ ts → ∃ ty vs n, o.op = .alloc ty ∧ E.getD (j + i) (.val undef) = .blk ty vs ∧ (Tryz.prog.info? ty).map (fun i => (i.zero, i.size)) = some (some (.agg vs.toArray), n)
 | [], _, _, i, o, t, hi, _, _ => by simp at hi
 | x :: rest, j, h, 0, o, t, hi, hd, ht => by
  simp at hi
  subst hi
  rcases h.1 with h1 | h1
  ·rw [hd] at h1
   simp [ht] at h1
  ·exact h1
 | x :: rest, j, h, i + 1, o, t, hi, hd, ht => by
  have := Als.at h.2 i o t (by simpa using hi) hd ht
  rwa [show j + 1 + i = j + (i + 1) by omega] at this
def Dist (ts : List Nat) (a : Act) : Prop := ∀ t ∈ ts, ∀ u ∈ ts, t ≠ u → a.tmps.getD t undef ≠ a.tmps.getD u undef
theorem region_invP {id : Nat} {ops : Array Oper} {Q : Exit → Act → World → Prop} {a0 : Act} {w0 : World} (c : Nat) (E : List Exp) (hm : Tryz.prog.follows .mixedOrders = true) (hp : preOps c ops = true)
  (hin : (List.range c).all (fun j => ((ops[j]?).map (fun o => (o.dst.map (fun t => decide (t < a0.tmps.size))).getD false)).getD false) = true)
  (ts : List Nat) (hts : Als E ts 0 (ops.toList.take c)) (hall' : ts.all (fun t => (List.range c).any fun j => ((ops[j]?).bind (·.dst)) == some t) = true)
  (hs : Steps' w0.heap.size ops E a0 w0 0 (ops.toList.take (c + 1))) (he : ∀ w, Below w0.heap.size w0 w → EndsP w0.heap.size E (fun a => Dist ts a → ∀ n, ops.size - c ≤ n → wpAny Tryz.prog .any ops (NoPanic Q) n (flags c ops.size) a w) w 0 (ops.toList.take c) a0) : (Code.region id ops true).wp Tryz.prog Q a0 w0 := by
 simp only [preOps, Bool.and_eq_true, decide_eq_true_eq] at hp
 obtain ⟨⟨⟨⟨hp1, hp2⟩, hp3⟩, hp4⟩, hcs⟩ := hp
 have own : ∀ j o, ops[j]? = some o → j < c → o.guard.isNone = true ∧ ∃ t, o.dst = some t ∧ t < a0.tmps.size := by
  intro j o ho hj
  have h1 := range_all hp1 j (by omega)
  have h2 := range_all hin j (by omega)
  simp only [ho, Option.map_some, Option.getD_some, Bool.and_eq_true] at h1 h2
  obtain ⟨t, ht⟩ := Option.isSome_iff_exists.1 h1.2
  rw [ht] at h2
  exact ⟨h1.1, t, ht, by simpa using h2⟩
 have apart : ∀ j k o o' t, ops[j]? = some o → ops[k]? = some o' → j < c → k < c → o.dst = some t → o'.dst = some t → j = k := by
  intro j k o o' t ho ho' hj hk ht ht'
  have h1 := range_all (range_all hp2 j (by omega)) k (by omega)
  simp only [ho, ho', Option.bind_some, ht, ht', Bool.or_eq_true, beq_iff_eq] at h1
  rcases h1 with h1 | h1
  ·exact h1
  ·simp at h1
 refine wp_region_noPanic (wp_region_any hm ?_)
 have main : ∀ (n : Nat) (l : Array Bool) (a : Act) (w : World), l.size = ops.size → Below w0.heap.size w0 w → a.tmps.size = a0.tmps.size → a.defers = a0.defers →
   (∀ i, c ≤ i → i < ops.size → l.getD i true = false) →
   (∀ t, (∀ j o, ops[j]? = some o → j < c → o.dst = some t → l.getD j true = false) → a.tmps.getD t undef = a0.tmps.getD t undef) →
   (∀ j o t, ops[j]? = some o → j < c → o.dst = some t → l.getD j true = true → (E.getD j (.val undef)).ok w0.heap.size (a.tmps.getD t undef) w) →
   (∀ j o, ops[j]? = some o → l.getD j true = true → ∀ x ∈ o.after, Region.binds .any x = true → l.getD x.on true = true) →
   (∀ (j k : Nat) (oj ok : Oper) (tj tk : Nat), ops[j]? = some oj → ops[k]? = some ok → j < c → k < c → oj.dst = some tj → ok.dst = some tk → tj ∈ ts → tk ∈ ts → j ≠ k → l.getD j true = true → l.getD k true = true → a.tmps.getD tj undef ≠ a.tmps.getD tk undef) →
   ((List.range ops.size).filter fun i => !l.getD i true).length ≤ n →
   wpAny Tryz.prog .any ops (NoPanic Q) n l a w := by
  intro n
  induction n with
  | zero =>
   intro l a w hl hb hsz hdf hlast hold hnew hcl hdi hc
   have : c ∈ (List.range ops.size).filter fun i => !l.getD i true := List.mem_filter.2 ⟨List.mem_range.2 hcs, by rw [hlast c (Nat.le_refl _) hcs]; rfl⟩
   have := List.length_pos_of_mem this
   omega
  | succ n ih =>
   intro l a w hl hb hsz hdf hlast hold hnew hcl hdi hc
   have hcount : ∀ i, i < ops.size → l.getD i true = false → ((List.range ops.size).filter fun k => !(l.setIfInBounds i true).getD k true).length ≤ n := by
    intro i hi hli
    have hlt : ((List.range ops.size).filter fun k => !(l.setIfInBounds i true).getD k true).length < ((List.range ops.size).filter fun k => !l.getD k true).length := by
     have e : ((List.range ops.size).filter fun k => !(l.setIfInBounds i true).getD k true) = ((List.range ops.size).filter fun k => !l.getD k true).filter (fun k => k != i) := by
      rw [List.filter_filter]
      refine List.filter_congr fun k hk => ?_
      by_cases hki : k = i
      ·subst hki; simp [Array.getD, hl, hi]
      ·rw [getD_set_ne true (Ne.symm hki)]; simp [hki]
     rw [e]
     refine List.length_filter_lt_length_iff_exists.2 ⟨i, List.mem_filter.2 ⟨List.mem_range.2 hi, by rw [hli]; rfl⟩, by simp⟩
    omega
   by_cases hdone : ∀ k, k < c → l.getD k true = true
   ·have hw := EndsP.at a (l := ops.toList.take c) (j := 0) (a := a0) (he w hb) (fun k ok hk => by
     have hkc : k < c := by
      have := (List.getElem?_eq_some_iff.1 hk).1
      rw [List.length_take] at this
      omega
     have hk' : ops[k]? = some ok := by
      rw [List.getElem?_take_of_lt hkc] at hk
      simpa using hk
     obtain ⟨_, t, hdt, htl⟩ := own k ok hk' hkc
     refine ⟨t, hdt, ?_⟩
     rw [Nat.zero_add]
     exact hnew k ok t hk' hkc hdt (hdone k hkc))
    have hfill : fillsP a (ops.toList.take c) a0 = a := by
     have hz := fillsP_size a (ops.toList.take c) a0
     refine act_ext (by rw [hz.1, hsz]) (fun t => ?_) (by rw [hz.2, hdf])
     refine fillsP_slot a t (ops.toList.take c) a0 hsz ?_
     by_cases hx : ∃ k ok, ops[k]? = some ok ∧ k < c ∧ ok.dst = some t
     ·obtain ⟨k, ok, h1, h2, h3⟩ := hx
      exact .inr ⟨k, ok, by rw [List.getElem?_take_of_lt h2]; simpa using h1, h3⟩
     ·exact .inl (hold t fun j oj hoj hj hdj => absurd ⟨j, oj, hoj, hj, hdj⟩ hx)
    rw [hfill] at hw
    have hlf : l = flags c ops.size := by
     refine Array.ext (by simp [flags, hl]) fun k h1 h2 => ?_
     have hg : l.getD k true = l[k] := by simp [Array.getD, h1]
     rw [← hg]
     by_cases hkc : k < c
     ·rw [hdone k hkc]; simp [flags, hkc]
     ·rw [hlast k (by omega) (by omega)]; simp [flags, hkc]
    have hD : Dist ts a := by
     intro t ht u hu htu
     have h1 := List.all_eq_true.1 hall' t ht
     have h2 := List.all_eq_true.1 hall' u hu
     simp only [List.any_eq_true, List.mem_range, beq_iff_eq] at h1 h2
     obtain ⟨j, hj, ej⟩ := h1
     obtain ⟨k, hk, ek⟩ := h2
     obtain ⟨oj, hoj⟩ : ∃ oj, ops[j]? = some oj := ⟨ops[j]'(by omega), by simp⟩
     obtain ⟨ok, hok⟩ : ∃ ok, ops[k]? = some ok := ⟨ops[k]'(by omega), by simp⟩
     rw [hoj] at ej
     rw [hok] at ek
     refine hdi j k oj ok t u hoj hok hj hk ej ek ht hu (fun e => ?_) (hdone j hj) (hdone k hk)
     subst e
     rw [hoj] at hok
     cases hok
     have : some t = some u := by rw [← ej, ← ek]
     exact htu (Option.some.inj this)
    rw [hlf]
    refine hw hD _ ?_
    have hlow : ops.size - c ≤ ((List.range ops.size).filter fun i => !l.getD i true).length := by
     have e : (List.range ops.size).filter (fun i => !l.getD i true) = (List.range ops.size).filter (fun i => decide (c ≤ i)) := by
      refine List.filter_congr fun k hk => ?_
      have hk' : k < ops.size := List.mem_range.1 hk
      by_cases hkc : k < c
      ·rw [hdone k hkc]; simp; omega
      ·rw [hlast k (by omega) hk']; simp; omega
     rw [e]
     have : ∀ n, c ≤ n → ((List.range n).filter (fun i => decide (c ≤ i))).length = n - c := by
      intro n hn
      induction n with
      | zero => simp
      | succ n ihn =>
       rw [List.range_succ, List.filter_append, List.length_append]
       by_cases h : c ≤ n
       ·rw [ihn h]; simp [h]; omega
       ·have : c = n + 1 := by omega
        have e2 : (List.range n).filter (fun i => decide (c ≤ i)) = [] := List.filter_eq_nil_iff.2 fun k hk => by
         have := List.mem_range.1 hk
         simp; omega
        rw [e2]; simp [h]; omega
     rw [this _ (by omega)]
     exact Nat.le_refl _
    omega
   refine ⟨fun h0 => ?_, fun i hi => ?_⟩
   ·exfalso
    obtain ⟨i, h1, h2, h3⟩ := least_false (fun k => l.getD k true) c (hlast c (Nat.le_refl _) hcs)
    have hi : i < ops.size := by omega
    have : i ∈ Region.ready .any ops l := by
     refine mem_ready.2 ⟨h2, ops[i], by simp [hi], fun e he hbd => ?_⟩
     have h4 := range_all hp4 i hi
     simp only [Array.getElem?_eq_getElem hi, Option.map_some, Option.getD_some] at h4
     have h5 := Array.all_eq_true_iff_forall_mem.1 h4 e he
     simp only [hbd, Bool.not_true, Bool.false_or, decide_eq_true_eq] at h5
     have h6 := h3 e.on h5
     simp only [Array.getD] at h6 ⊢
     rw [dif_pos (by omega)] at h6 ⊢
     exact h6
    rw [h0] at this
    cases this
   ·obtain ⟨hun, o, ho, hall⟩ := mem_ready.1 hi
    have hilt : i < ops.size := (Array.getElem?_eq_some_iff.1 ho).1
    by_cases hil : i < c
    ·obtain ⟨hgd, t, hdt, htl⟩ := own i o ho hil
     have hdo := Steps'.at hs i o (by rw [List.getElem?_take_of_lt (by omega)]; simpa using ho) (by rw [List.length_take]; simp; omega) a w hb (fun t' ht' => hold t' fun j oj hoj hj hdj => by
       have := range_all ht' j (by omega)
       simp only [hoj, Option.bind_some, hdj] at this
       simp at this) (fun k t' hk hdep hkl => by
       obtain ⟨ok, hok⟩ : ∃ ok, ops[k]? = some ok := ⟨ops[k]'(by omega), by simp⟩
       rw [hok] at hk
       rw [Nat.zero_add, ho] at hdep
       simp only [Option.map_some, Option.getD_some, Array.any_eq_true, Bool.and_eq_true, beq_iff_eq] at hdep
       obtain ⟨x, hx, hbd, hon⟩ := hdep
       have hki : k < i := by
        have h4 := range_all hp4 i hilt
        simp only [ho, Option.map_some, Option.getD_some] at h4
        have h5 := Array.all_eq_true_iff_forall_mem.1 h4 _ (Array.getElem_mem hx)
        simp only [hbd, Bool.not_true, Bool.false_or, decide_eq_true_eq] at h5
        omega
       refine hnew k ok t' hok (by omega) hk ?_
       have := hall _ (Array.getElem_mem hx) hbd
       rw [hon] at this
       simp only [Array.getD] at this ⊢
       rw [dif_pos (by omega)] at this ⊢
       exact this)
     rw [Nat.zero_add] at hdo
     unfold wpOp
     rw [ho]
     simp only [wanted_plain hgd, if_true]
     suffices cont : ∀ v w', (E.getD i (.val undef)).ok w0.heap.size v w' → Below w.heap.size w w' → (t ∈ ts → ∃ g, v = .pointer (some ⟨g, 0, none⟩) ∧ w.heap.size ≤ g) → wpAny Tryz.prog .any ops (NoPanic Q) n (l.setIfInBounds i true) (a.put o.dst v) w' by
      by_cases htt : t ∈ ts
      ·obtain ⟨ty, vs, m, a1, a2, a3⟩ := Als.at hts i o t (by rw [List.getElem?_take_of_lt hil]; simpa using ho) hdt htt
       rw [Nat.zero_add] at a2
       have hd2 : Does w.heap.size (.blk ty vs) a.eval o w := Does.alloc ty a1 m vs a3 (Nat.le_refl _)
       refine .inl (hd2.wp fun v w' hv hbw => ?_)
       obtain ⟨g, e1, e2, e3⟩ := hv
       exact cont v w' (by rw [a2]; exact ⟨g, e1, Nat.le_trans hb.size e2, e3⟩) hbw fun _ => ⟨g, e1, e2⟩
      ·exact .inl (hdo.wp fun v w' hv hbw => cont v w' hv hbw fun h => absurd h htt)
     intro v w' hv hbw hgv
     rw [hdt]
     refine ih _ _ _ (by simpa using hl) (below_chain hb hbw hb.size) (by simpa [Act.put] using hsz) (by simpa [Act.put] using hdf) ?_ ?_ ?_ ?_ ?_ (hcount i hilt hun)
     ·intro i' h1 h2; rw [getD_set_ne true (by omega)]; exact hlast i' h1 h2
     ·intro t' ht'
      have htt : t ≠ t' := fun e => by
       have := ht' i o ho hil (by rw [hdt, e])
       simp [Array.getD, hl, hilt] at this
      simp only [Act.put, Array.getD_eq_getD_getElem?, Array.getElem?_setIfInBounds, if_neg htt]
      rw [← Array.getD_eq_getD_getElem?, ← Array.getD_eq_getD_getElem?]
      refine hold t' fun j oj hoj hj hdj => ?_
      have h1 := ht' j oj hoj hj hdj
      by_cases hji : i = j
      ·subst hji; exact hun
      ·rwa [getD_set_ne true hji] at h1
     ·intro j oj t' hoj hj hdj hlj
      by_cases hji : i = j
      ·subst hji
       rw [ho] at hoj
       cases hoj
       rw [hdt] at hdj
       cases hdj
       have : (a.put (some t) v).tmps.getD t undef = v := by simp [Act.put, Array.getD, hsz, htl]
       rw [this]; exact hv
      ·rw [getD_set_ne true hji] at hlj
       have htt : t ≠ t' := fun e => hji (apart i j o oj t ho hoj hil hj hdt (by rw [hdj, e]))
       have h1 := hnew j oj t' hoj hj hdj hlj
       have : (a.put (some t) v).tmps.getD t' undef = a.tmps.getD t' undef := by
        simp only [Act.put, Array.getD_eq_getD_getElem?, Array.getElem?_setIfInBounds, if_neg htt]
       rw [this]
       exact Exp.ok_later _ hbw h1
     ·intro j oj hoj hlj x hx hbx
      have hdone : l.getD x.on true = true := by
       by_cases hji : i = j
       ·subst hji
        rw [ho] at hoj
        cases hoj
        have := hall _ hx hbx
        by_cases hxl : x.on < l.size
        ·simp only [Array.getD] at this ⊢
         rw [dif_pos hxl] at this ⊢
         exact this
        ·simp [Array.getD, hxl]
       ·rw [getD_set_ne true hji] at hlj
        exact hcl j oj hoj hlj x hx hbx
      by_cases hxi : i = x.on
      ·rw [← hxi, hun] at hdone; cases hdone
      ·rw [getD_set_ne true hxi]; exact hdone
     ·have same : ∀ (j : Nat) (oj : Oper) (tj : Nat), ops[j]? = some oj → j < c → oj.dst = some tj → i ≠ j → (a.put (some t) v).tmps.getD tj undef = a.tmps.getD tj undef := by
       intro j oj tj hoj hj hdj hij
       have htt : t ≠ tj := fun e => hij (apart i j o oj t ho hoj hil hj hdt (by rw [hdj, e]))
       simp only [Act.put, Array.getD_eq_getD_getElem?, Array.getElem?_setIfInBounds, if_neg htt]
      have mine : (a.put (some t) v).tmps.getD t undef = v := by simp [Act.put, Array.getD, hsz, htl]
      have old : ∀ (k : Nat) (ok : Oper) (tk : Nat), ops[k]? = some ok → k < c → ok.dst = some tk → tk ∈ ts → l.getD k true = true → ∀ g, w.heap.size ≤ g → a.tmps.getD tk undef ≠ .pointer (some ⟨g, 0, none⟩) := by
       intro k ok tk hok hk hdk htk hlk g hg e
       obtain ⟨ty, vs, m, a1, a2, a3⟩ := Als.at hts k ok tk (by rw [List.getElem?_take_of_lt hk]; simpa using hok) hdk htk
       rw [Nat.zero_add] at a2
       have h1 := hnew k ok tk hok hk hdk hlk
       rw [a2] at h1
       obtain ⟨g', e1, _, e3⟩ := h1
       rw [e1] at e
       have hg' : g' = g := by simpa using e
       have := e3.lt
       omega
      intro j k oj ok tj tk hoj hok hj hk hdj hdk htj htk hjk hlj hlk
      by_cases hij : i = j
      ·subst hij
       rw [ho] at hoj
       cases hoj
       rw [hdt] at hdj
       cases hdj
       rw [mine, same k ok tk hok hk hdk hjk]
       rw [getD_set_ne true hjk] at hlk
       obtain ⟨g, e1, e2⟩ := hgv htj
       rw [e1]
       exact (old k ok tk hok hk hdk htk hlk g e2).symm
      ·rw [getD_set_ne true hij] at hlj
       rw [same j oj tj hoj hj hdj hij]
       by_cases hik : i = k
       ·subst hik
        rw [ho] at hok
        cases hok
        rw [hdt] at hdk
        cases hdk
        rw [mine]
        obtain ⟨g, e1, e2⟩ := hgv htk
        rw [e1]
        exact old j oj tj hoj hj hdj htj hlj g e2
       ·rw [getD_set_ne true hik] at hlk
        rw [same k ok tk hok hk hdk hik]
        exact hdi j k oj ok tj tk hoj hok hj hk hdj hdk htj htk hjk hlj hlk
    ·exfalso
     refine hdone fun k hk => ?_
     have h1 := range_all hp3 i hilt
     simp only [hil, decide_false, Bool.false_or] at h1
     have h2 := range_all h1 k hk
     refine behind_done hcl (fun x hx hbx => ?_) ho h2
     have := hall _ hx hbx
     by_cases hxl : x.on < l.size
     ·simp only [Array.getD] at this ⊢
      rw [dif_pos hxl] at this ⊢
      exact this
     ·simp [Array.getD, hxl]
 refine main _ _ _ _ (by simp) ⟨rfl, rfl, rfl, Nat.le_refl _, fun _ _ => rfl⟩ rfl rfl (fun i h1 h2 => by simp [Array.getD, h2]) (fun t _ => rfl) (fun j o t ho hj hd hl => ?_) (fun j o ho hl => ?_) (fun j k oj ok tj tk hoj _ hj _ _ _ _ _ _ hl _ => ?_) ?_
 ·exfalso
  have : j < ops.size := by omega
  simp [Array.getD, this] at hl
 ·exfalso
  have : j < ops.size := (Array.getElem?_eq_some_iff.1 ho).1
  simp [Array.getD, this] at hl
 ·exfalso
  have : j < ops.size := by omega
  simp [Array.getD, this] at hl
 ·have := List.length_filter_le (fun i => !(Array.replicate ops.size false).getD i true) (List.range ops.size)
  simpa using this
def rotr (x : Int) (n : Int) : Int := bits .or .u32 (x * 2 ^ (32 - n.toNat) % 4294967296) (x / 2 ^ n.toNat)
def Turn (k : Int) : Prop := k = 2 ∨ k = 6 ∨ k = 7 ∨ k = 11 ∨ k = 13 ∨ k = 17 ∨ k = 18 ∨ k = 19 ∨ k = 22 ∨ k = 25
theorem rot_any (x k : Int) (hk : Turn k) (w : World) :
  Calls Tryz.prog 259 #[.int .u32 x, .int .i64 k] w fun e w' => e = .returned (.int .u32 (rotr x k)) ∧ w = w' := by
 have h1 : bits .and .u64 (IntKind.u64.wrap (-k)) 31 = 32 - k := by
  rcases hk with rfl | rfl | rfl | rfl | rfl | rfl | rfl | rfl | rfl | rfl <;> decide
 rcases hk with rfl | rfl | rfl | rfl | rfl | rfl | rfl | rfl | rfl | rfl
 all_goals
  simp at h1
  go_enter Tryz.func259, Tryz.ntmps259
  go_wp2
  go_ret
  exact ⟨rfl, rfl⟩
theorem rot_q (x k : Int) (hk : Turn k) (w : World) :
  Calls Tryz.prog 259 #[.int .u32 x, .int .i64 k] w fun e w' => e = .returned (.int .u32 (rotr x k)) ∧ w' = w := (rot_any x k hk w).mono fun _ _ ⟨a, b⟩ => ⟨a, b.symm⟩
theorem sizeByte : (Tryz.prog.info? 5).map (·.size) = some 1 := by kernel_rfl
theorem add_mid (b o j : Nat) : (⟨b, o, none⟩ : Addr).add j = ⟨b, o + j, none⟩ := Addr.add_mid b o j
def subA (ao : Option Addr) (lo c : Nat) : Option Addr := if c = lo then ao else ao.map (·.add lo)
theorem Seen.sub {w : World} {ao : Option Addr} {n : Nat} {zs : List Int} (h : Seen w ao n zs) (lo hi c : Nat) (h1 : lo ≤ hi) (h2 : hi ≤ n) (h3 : n ≤ c) : Seen w (subA ao lo c) (hi - lo) ((zs.drop lo).take (hi - lo)) := by
 have hl := h.len
 refine ⟨by simp; omega, by have := h.top; omega, bytes_take (bytes_drop h.bytes lo) _, fun h0 => ?_⟩
 obtain ⟨b, o, rfl, hb, hc⟩ := h.cells (by omega)
 refine ⟨b, o + lo, ?_, hb, fun i hi' => ?_⟩
 ·unfold subA
  rw [if_neg (by omega)]
  exact congrArg some (add_mid b o lo)
 ·rw [Nat.add_assoc, hc (lo + i) (by omega)]
  have e : lo + i < zs.length := by omega
  simp [List.getD, List.getElem?_take, List.getElem?_drop, hi']
theorem sl_h (ao : Option Addr) (n c h : Nat) (hh : h ≤ c) (w : World) : (Instr.sliceAt 32 (.slice ao n c) none (some (.int .i64 h)) none).run Tryz.prog w = .ok (.slice (subA ao 0 c) h c) w := by
 rw [run_sliceAt_slice w 32 _ _ _ _ Tryz.underlying32, run_slice_h w 32 ao n c Tryz.underlying32 .i64 h (by omega) (by omega)]
 rw [show Tryz.prog.elem 32 = 5 by kernel_rfl]
 have hs : (sizeOf 5).run Tryz.prog w = .ok 1 w := by
  have h := sizeByte
  cases hq : Tryz.prog.info? 5 with
  | none => simp [hq] at h
  | some i => simp [hq] at h; simp [sizeOf, typeInfo, hq, h]
 simp [hs, Result.andThen, sliced, subA]
theorem sl_l (ao : Option Addr) (n c l : Nat) (hl : l ≤ n) (w : World) : (Instr.sliceAt 32 (.slice ao n c) (some (.int .i64 l)) none none).run Tryz.prog w = .ok (.slice (subA ao l c) (n - l) (c - l)) w := by
 rw [run_sliceAt_slice w 32 _ _ _ _ Tryz.underlying32, run_slice_l w 32 ao n c Tryz.underlying32 .i64 l (by omega) (by omega)]
 rw [show Tryz.prog.elem 32 = 5 by kernel_rfl]
 have hs : (sizeOf 5).run Tryz.prog w = .ok 1 w := by
  have h := sizeByte
  cases hq : Tryz.prog.info? 5 with
  | none => simp [hq] at h
  | some i => simp [hq] at h; simp [sizeOf, typeInfo, hq, h]
 simp [hs, Result.andThen, sliced, subA]
theorem sl_lh (ao : Option Addr) (n c l h : Nat) (hl : l ≤ h) (hh : h ≤ c) (w : World) : (Instr.sliceAt 32 (.slice ao n c) (some (.int .i64 l)) (some (.int .i64 h)) none).run Tryz.prog w = .ok (.slice (subA ao l c) (h - l) (c - l)) w := by
 rw [run_sliceAt_slice w 32 _ _ _ _ Tryz.underlying32, run_slice_lh w 32 ao n c Tryz.underlying32 .i64 .i64 l h (by omega) (by omega) (by omega)]
 rw [show Tryz.prog.elem 32 = 5 by kernel_rfl]
 have hs : (sizeOf 5).run Tryz.prog w = .ok 1 w := by
  have h := sizeByte
  cases hq : Tryz.prog.info? 5 with
  | none => simp [hq] at h
  | some i => simp [hq] at h; simp [sizeOf, typeInfo, hq, h]
 simp [hs, Result.andThen, sliced, subA]
theorem run_copy_seen (w : World) (ty : TypeId) (g off dLen dCap : Nat) (dp so : Option Addr) (n c : Nat) (src : List Int) (hx : Seen w so n src) (t : TypeId) (xs ys zs : List Value) (hb : Blk w g t (xs ++ (ys ++ zs))) (hoff : xs.length = off) (k : Nat) (hk : Nat.min n dLen = k) (hy : ys.length = k)
  (hdp : 0 < k → dp = some ⟨g, off, none⟩) : ∃ w', (Builtin.copy_ #[32, 32] ty #[.slice dp dLen dCap, .slice so n c]).run Tryz.prog w = .ok (goInt k) w' ∧ Blk w' g t (xs ++ (u8s (src.take k) ++ zs)) ∧ w'.heap.size = w.heap.size ∧ Kept (fun b => b = g) w w' := by
 have hkn : k ≤ n := by rw [← hk]; exact Nat.min_le_left _ _
 have hl : (u8s (src.take k)).length = k := by rw [u8s_length, List.length_take, hx.len]; omega
 rcases Nat.eq_zero_or_pos k with h0 | h0
 ·subst h0
  obtain rfl : ys = [] := List.eq_nil_of_length_eq_zero hy
  exact ⟨w, run_copy_none w 32 32 ty 5 dp so dLen dCap n c Tryz.underlying32 sizeByte hk, by simpa [u8s] using hb, rfl, Kept.refl _ _⟩
 ·obtain rfl := hdp h0
  obtain ⟨b, o, rfl, hlt, hcs⟩ := hx.cells (by omega)
  have hsrc : ∀ j v, (u8s (src.take k))[j]? = some v → w.cell? ((⟨b, o, none⟩ : Addr).add j) = some v := by
   intro j v hv
   have hj : j < k := by have := (List.getElem?_eq_some_iff.1 hv).1; omega
   have h2 : j < src.length := by rw [hx.len]; omega
   rw [add_mid, hcs j (by omega), ← hv]
   simp [u8s, List.getElem?_take, List.getD, h2, hj]
  have hrun := run_copy_row (P := Tryz.prog) w 32 32 ty 5 g off dLen dCap ⟨b, o, none⟩ n c (xs ++ (ys ++ zs)).toArray t (u8s (src.take k)) Tryz.underlying32 sizeByte hb (by rw [hl, hk]) hsrc (by simp; omega) (u8s_one _)
  have e : ((xs ++ (ys ++ zs)).toArray.toList.take off ++ u8s (src.take k) ++ (xs ++ (ys ++ zs)).toArray.toList.drop (off + (u8s (src.take k)).length)) = xs ++ (u8s (src.take k) ++ zs) := by
   subst hoff
   simp [hl, hy, List.drop_append, List.take_append]
  rw [e] at hrun
  refine ⟨_, by rw [hrun, hl], setRow_heap w g _ _ t _ hb, by simp [World.setRow], ⟨rfl, rfl, rfl, by simp [World.setRow], fun k _ hk => setRow_other w g k _ hk⟩⟩
theorem wpList_copy_seen {ops : Array Oper} {rest : List Oper} {o : Oper} {a : Act} {Q : Exit → Act → World → Prop} {w : World} (hgd : o.guard = none) (d s : Operand) (ho : o.op = .call { callee := .builtin .copy, args := #[d, s], argTypes := #[32, 32] })
  (g off dLen dCap : Nat) (dp so : Option Addr) (n c : Nat) (hd : a.eval d = .slice dp dLen dCap) (hs : a.eval s = .slice so n c) (src : List Int) (hx : Seen w so n src) (t : TypeId) (xs ys zs : List Value) (hb : Blk w g t (xs ++ (ys ++ zs))) (hoff : xs.length = off) (k : Nat) (hk : Nat.min n dLen = k) (hy : ys.length = k) (hdp : 0 < k → dp = some ⟨g, off, none⟩)
  (h : ∀ w', Blk w' g t (xs ++ (u8s (src.take k) ++ zs)) → w'.heap.size = w.heap.size → Kept (fun b => b = g) w w' → wpList Tryz.prog ops Q rest (a.put o.dst (goInt k)) w') : wpList Tryz.prog ops Q (o :: rest) a w := by
 refine wpList_plain hgd fun K hK => ?_
 obtain ⟨w', hrun, h1, h2, h3⟩ := run_copy_seen w o.type g off dLen dCap dp so n c src hx t xs ys zs hb hoff k hk hy hdp
 unfold Oper.wp
 simp [execOp, ho, resolve, invoke, builtin, hd, hs, hrun, Result.andThen]
 exact hK _ _ (h w' h1 h2 h3)
theorem step_copy_seen {ops : Array Oper} {o : Oper} {a : Act} {w : World} {K : Act → World → Prop} {Q : Exit → Act → World → Prop} {E : Prop} (hgd : o.guard = none) (d s : Operand) (ho : o.op = .call { callee := .builtin .copy, args := #[d, s], argTypes := #[32, 32] })
  (g off dLen dCap : Nat) (dp so : Option Addr) (n c : Nat) (hd : a.eval d = .slice dp dLen dCap) (hs : a.eval s = .slice so n c) (src : List Int) (hx : Seen w so n src) (t : TypeId) (xs ys zs : List Value) (hb : Blk w g t (xs ++ (ys ++ zs))) (hoff : xs.length = off) (k : Nat) (hk : Nat.min n dLen = k) (hy : ys.length = k) (hdp : 0 < k → dp = some ⟨g, off, none⟩)
  (dst : Option Tmp) (hdst : o.dst = dst) (h : ∀ w', Blk w' g t (xs ++ (u8s (src.take k) ++ zs)) → w'.heap.size = w.heap.size → Kept (fun b => b = g) w w' → K (a.put dst (goInt k)) w') :
  if Region.wanted o (yielded ops a.tmps) = true then Oper.wp Tryz.prog o a w K Q else E := by
 subst hdst
 have hw : Region.wanted o (yielded ops a.tmps) = true := by simp [Region.wanted, hgd]
 rw [if_pos hw]
 obtain ⟨w', hrun, h1, h2, h3⟩ := run_copy_seen w o.type g off dLen dCap dp so n c src hx t xs ys zs hb hoff k hk hy hdp
 unfold Oper.wp
 simp [execOp, ho, resolve, invoke, builtin, hd, hs, hrun, Result.andThen]
 exact h w' h1 h2 h3
theorem seen_blk {w : World} {g : Nat} {t : TypeId} {zs : List Int} (h : Blk w g t (u8s zs)) (hb : Bytes zs) (ht : zs.length ≤ 140737488355328) : Seen w (some ⟨g, 0, none⟩) zs.length zs :=
 ⟨rfl, ht, hb, fun _ => ⟨g, 0, rfl, h.lt, fun i hi => by rw [Nat.zero_add]; exact u8s_cell h i hi⟩⟩
def wpTill (md : Region.Mode) (ops : Array Oper) (Q : Exit → Act → World → Prop) (c : Nat) (S : World → Prop) : Nat → Array Bool → Act → World → Prop
 | 0, l, a, w => Region.ready md ops l = [] ∧ Q .normal a w
 | n + 1, l, a, w =>
  (Region.ready md ops l = [] → Q .normal a w) ∧
  ∀ i ∈ Region.ready md ops l, wpOp Tryz.prog ops Q i (fun a' w' => (i ≠ c → l.getD c true = false → S w') ∧ wpTill md ops Q c S n (l.setIfInBounds i true) a' w') a w
theorem till_any {md : Region.Mode} {ops : Array Oper} {Q : Exit → Act → World → Prop} {c : Nat} {S : World → Prop} : ∀ (n : Nat) (l : Array Bool) (a : Act) (w : World), wpTill md ops Q c S n l a w → wpAny Tryz.prog md ops Q n l a w
 | 0, _, _, _, h => h
 | n + 1, _, _, _, h => ⟨h.1, fun i hi => wpOp_mono (fun a' w' h' => till_any n _ a' w' h'.2) (h.2 i hi)⟩
theorem any_till {md : Region.Mode} {ops : Array Oper} {Q : Exit → Act → World → Prop} {c : Nat} {S : World → Prop} : ∀ (n : Nat) (l : Array Bool) (a : Act) (w : World), l.getD c true = true → wpAny Tryz.prog md ops Q n l a w → wpTill md ops Q c S n l a w
 | 0, _, _, _, _, h => h
 | n + 1, l, _, _, hc, h => ⟨h.1, fun i hi => wpOp_mono (fun a' w' h' => ⟨fun _ h0 => absurd (hc.symm.trans h0) (by decide), any_till n _ a' w' (by
   by_cases e : i = c
   ·subst e; by_cases hs : i < l.size <;> simp [Array.getD, hs]
   ·rw [getD_set_ne true e]; exact hc) h'⟩) (h.2 i hi)⟩
theorem till_at {md : Region.Mode} {ops : Array Oper} {Q : Exit → Act → World → Prop} {c : Nat} {S : World → Prop} {n : Nat} {l : Array Bool} {a : Act} {w : World} (hr : Region.ready md ops l = [c])
  (h : wpAny Tryz.prog md ops Q (n + 1) l a w) : wpTill md ops Q c S (n + 1) l a w := by
 refine ⟨h.1, fun i hi => ?_⟩
 have h1 := h.2 i hi
 rw [hr] at hi
 obtain rfl : i = c := by simpa using hi
 exact wpOp_mono (fun a' w' h' => ⟨fun h0 => absurd rfl h0, any_till n _ a' w' (by by_cases hs : i < l.size <;> simp [Array.getD, hs]) h'⟩) h1
theorem till_region {ops : Array Oper} {Q : Exit → Act → World → Prop} {id : Nat} {a : Act} {w : World} (c : Nat) (S : World → Prop) (hm : Tryz.prog.follows .mixedOrders = true)
  (h : wpTill .any ops Q c S ops.size (Array.replicate ops.size false) a { w with drawn := w.drawn + 1 }) : (Code.region id ops true).wp Tryz.prog Q a w :=
 wp_region_any hm (till_any _ _ _ _ h)
def Leans (md : Region.Mode) (ops : Array Oper) (c : Nat) (S T : World → Prop) (i : Nat) (l : Array Bool) : Prop :=
 (∀ w, T w) ∨ ((∀ w, S w → T w) ∧ l.getD c true = false ∧ ∀ l' : Array Bool, l'.getD i true = false → c ∉ Region.ready md ops l')
theorem till_first {md : Region.Mode} {ops : Array Oper} {Q : Exit → Act → World → Prop} {c : Nat} {S T : World → Prop} {i : Nat} {oi : Oper} {v : Value} (hi : ops[i]? = some oi) (hsel : ∀ (j : Nat) (o : Oper) cs b, ops[j]? = some o → o.op ≠ .select cs b) (hic : i ≠ c)
  (hQ : ∀ c a w, Q (.panic c) (a.put oi.dst v) w → Q (.panic c) a w) :
  ∀ (n : Nat) (l : Array Bool) (a : Act) (w : World),
   (∀ j oj, ops[j]? = some oj → j ≠ i → l.getD j true = false → (∀ e ∈ oj.after, Region.binds md e = true → e.on ≠ i) → oi.apart ops oj = true) →
   i ∈ Region.ready md ops l → YieldsIf Tryz.prog ops T oi v a → T w → Leans md ops c S T i l → (l.getD c true = false → S w) →
   wpTill md ops Q c S n (l.setIfInBounds i true) (a.put oi.dst v) w → wpTill md ops Q c S (n + 1) l a w := by
 intro n
 induction n with
 | zero =>
  intro l a w _ hr hy hT _ hS H
  refine ⟨fun h => (by rw [h] at hr; cases hr), fun j hj => ?_⟩
  by_cases hji : j = i
  ·subst hji; exact hy.wpOp hi hT ⟨fun _ h0 => hS h0, H⟩
  ·have := ready_mono hj hji
   rw [H.1] at this
   cases this
 | succ n ih =>
  intro l a w hfree hr hy hT hL hS H
  refine ⟨fun h => (by rw [h] at hr; cases hr), fun j hj => ?_⟩
  by_cases hji : j = i
  ·subst hji; exact hy.wpOp hi hT ⟨fun _ h0 => hS h0, H⟩
  ·have h1 := H.2 j (ready_mono hj hji)
   obtain ⟨hjun, oj, hoj, hall⟩ := mem_ready.1 hj
   have hun := (mem_ready.1 hr).1
   have hnot : ∀ e ∈ oj.after, Region.binds md e = true → e.on ≠ i := fun e he hb heq => by
    have h1 := hall e he hb
    rw [heq] at h1
    rcases Nat.lt_or_ge i l.size with h' | h'
    ·simp [h'] at hun h1; rw [hun] at h1; cases h1
    ·simp [Array.getElem?_eq_none h'] at h1
   have h2 := wpOp_putIf hoj (hfree j oj hoj hji hjun hnot) (fun cs b => hsel i oi cs b hi) (fun cs b => hsel j oj cs b hoj) hQ hy h1
   have hfree' : ∀ k ok, ops[k]? = some ok → k ≠ i → (l.setIfInBounds j true).getD k true = false →
     (∀ e ∈ ok.after, Region.binds md e = true → e.on ≠ i) → oi.apart ops ok = true := fun k ok hk hki hkun hno => by
    refine hfree k ok hk hki ?_ hno
    by_cases hjk : j = k
    ·subst hjk; exact hjun
    ·rw [getD_set_ne true hjk] at hkun; exact hkun
   refine wpOp_mono (fun a' w' h3 => ?_) h2
   obtain ⟨h31, h32, h33⟩ := h3
   rw [getD_set_ne true hic] at h32
   have hS' : (l.setIfInBounds j true).getD c true = false → S w' := fun h0 => by
    by_cases hjc : j = c
    ·subst hjc
     exfalso
     by_cases hs : j < l.size <;> simp [Array.getD, hs] at h0
    ·rw [getD_set_ne true hjc] at h0; exact h32 hjc h0
   refine ⟨h32, ih (l.setIfInBounds j true) a' w' hfree' (ready_mono hr (Ne.symm hji)) h31 ?_ ?_ hS' ?_⟩
   ·rcases hL with hL | ⟨hL1, hL2, hL3⟩
    ·exact hL w'
    ·exact hL1 w' (h32 (fun e => hL3 l hun (e ▸ hj)) hL2)
   ·rcases hL with hL | ⟨hL1, hL2, hL3⟩
    ·exact .inl hL
    ·refine .inr ⟨hL1, ?_, hL3⟩
     have hjc : j ≠ c := fun e => hL3 l hun (by rw [← e]; exact hj)
     rw [getD_set_ne true hjc]; exact hL2
   ·rw [Array.setIfInBounds_comm _ _ hji]
    exact h33
theorem tTake {md : Region.Mode} {ops : Array Oper} {Q : Exit → Act → World → Prop} {c : Nat} {S : World → Prop} {oi : Oper} {n : Nat} {l : Array Bool} {a : Act} {w : World} (i : Nat) (d : Option Tmp) (v : Value) (hi : ops[i]? = some oi) (hd : oi.dst = d)
  (hs : Region.noSelect ops = true) (hf : Region.free md ops l i = true) (hr : (Region.ready md ops l).contains i = true) (hic : i ≠ c) (hQ : ∀ c a w, Q (.panic c) (a.put d v) w → Q (.panic c) a w)
  (hw : Region.wanted oi (yielded ops a.tmps) = true) (hy : ∀ w, (execOp a.eval oi).run Tryz.prog w = .ok (.value v) w) (hS : S w)
  (h : wpTill md ops Q c S n (l.setIfInBounds i true) (a.put d v) w) : wpTill md ops Q c S (n + 1) l a w := by
 subst hd
 exact till_first (T := fun _ => True) hi (Region.noSelect_spec hs) hic hQ n l a w (Region.free_spec hi hf) (by simpa using hr) (Or.inl ⟨hw, fun w _ => hy w⟩) trivial (.inl fun _ => trivial) (fun _ => hS) h
def waits (md : Region.Mode) (ops : Array Oper) (c i : Nat) : Bool := ((ops[c]?).map (fun o => o.after.any fun e => Region.binds md e && e.on == i)).getD false
theorem waits_spec {md : Region.Mode} {ops : Array Oper} {c i : Nat} (h : waits md ops c i = true) : ∀ l' : Array Bool, l'.getD i true = false → c ∉ Region.ready md ops l' := by
 intro l hl hc
 obtain ⟨_, oc, hoc, hall⟩ := mem_ready.1 hc
 simp only [waits, hoc, Option.map_some, Option.getD_some, Array.any_eq_true, Bool.and_eq_true, beq_iff_eq] at h
 obtain ⟨k, hk, hb, he⟩ := h
 have h1 := hall _ (Array.getElem_mem hk) hb
 rw [he] at h1
 rcases Nat.lt_or_ge i l.size with h' | h'
 ·simp [h'] at hl h1; rw [hl] at h1; cases h1
 ·simp [Array.getElem?_eq_none h'] at h1
theorem tLoad {md : Region.Mode} {ops : Array Oper} {Q : Exit → Act → World → Prop} {c : Nat} {S : World → Prop} {oi : Oper} {n : Nat} {l : Array Bool} {a : Act} {w : World} (i : Nat) (d : Option Tmp) (v : Value) (hi : ops[i]? = some oi) (hd : oi.dst = d)
  (hs : Region.noSelect ops = true) (hf : Region.free md ops l i = true) (hr : (Region.ready md ops l).contains i = true) (hic : i ≠ c) (hc : l.getD c true = false) (hwt : waits md ops c i = true) (hQ : ∀ c a w, Q (.panic c) (a.put d v) w → Q (.panic c) a w)
  (hw : Region.wanted oi (yielded ops a.tmps) = true) (hy : ∀ w, S w → (execOp a.eval oi).run Tryz.prog w = .ok (.value v) w) (hS : S w)
  (h : wpTill md ops Q c S n (l.setIfInBounds i true) (a.put d v) w) : wpTill md ops Q c S (n + 1) l a w := by
 subst hd
 exact till_first (T := S) hi (Region.noSelect_spec hs) hic hQ n l a w (Region.free_spec hi hf) (by simpa using hr) (Or.inl ⟨hw, hy⟩) hS (.inr ⟨fun _ h => h, hc, waits_spec hwt⟩) (fun _ => hS) h
theorem tLoadMid {md : Region.Mode} {ops : Array Oper} {Q : Exit → Act → World → Prop} {c : Nat} {S : World → Prop} {oi : Oper} {n : Nat} {l : Array Bool} {a : Act} {w : World} (i : Nat) (d : Option Tmp) (cs : List Value) (hi : ops[i]? = some oi) (hd : oi.dst = d)
  (hs : Region.noSelect ops = true) (hf : Region.free md ops l i = true) (hr : (Region.ready md ops l).contains i = true) (hic : i ≠ c) (hc : l.getD c true = false) (hwt : waits md ops c i = true) (hQ : ∀ c a w, Q (.panic c) (a.put d (.agg cs.toArray)) w → Q (.panic c) a w)
  (hw : Region.wanted oi (yielded ops a.tmps) = true) (ty : TypeId) (x : Operand) (ho : oi.op = .load ty x) (b off : Nat) (hx : a.eval x = .pointer (some ⟨b, off, none⟩)) (ds : TypeDesc) (hy : ∀ w, S w → w.rangeAt b off cs)
  (hu : Tryz.prog.underlying ty = some ds) (hdr : ds.isRow = true) (hz : (Tryz.prog.info? ty).map (·.size) = some cs.length) (hS : S w)
  (h : wpTill md ops Q c S n (l.setIfInBounds i true) (a.put d (.agg cs.toArray)) w) : wpTill md ops Q c S (n + 1) l a w := by
 subst hd
 exact till_first (T := S) hi (Region.noSelect_spec hs) hic hQ n l a w (Region.free_spec hi hf) (by simpa using hr) (yieldsIf_load_mid hw ty x ho b off hx cs ds hy hu hdr hz) hS (.inr ⟨fun _ h => h, hc, waits_spec hwt⟩) (fun _ => hS) h
theorem till_ready {md : Region.Mode} {ops : Array Oper} {Q : Exit → Act → World → Prop} {c : Nat} {S : World → Prop} {oi : Oper} {n : Nat} {l : Array Bool} {a : Act} {w : World} (i : Nat) (hr : Region.ready md ops l = [i]) (hi : ops[i]? = some oi)
  (h : ∀ K : Act → World → Prop, (∀ a' w', S w' ∧ wpTill md ops Q c S n (l.setIfInBounds i true) a' w' → K a' w') → if Region.wanted oi (yielded ops a.tmps) = true then Oper.wp Tryz.prog oi a w K Q else K (a.put oi.dst undef) w) : wpTill md ops Q c S (n + 1) l a w := by
 refine ⟨fun h0 => (by rw [h0] at hr; cases hr), fun j hj => ?_⟩
 rw [hr] at hj
 obtain rfl : j = i := by simpa using hj
 exact wpOp_step hi fun K hK => h K (fun a' w' h' => hK a' w' ⟨fun _ _ => h'.1, h'.2⟩)
theorem step_alloc_new {ops : Array Oper} {o : Oper} {a : Act} {w : World} {K : Act → World → Prop} {Q : Exit → Act → World → Prop} {E : Prop} (hgd : o.guard = none) (t : TypeId) (ho : o.op = .alloc t) (n : Nat) (vs : List Value)
  (hz : (Tryz.prog.info? t).map (fun i => (i.zero, i.size)) = some (some (.agg vs.toArray), n)) (dst : Option Tmp) (hdst : o.dst = dst)
  (h : ∀ w', Blk w' w.heap.size t vs → w'.heap.size = w.heap.size + 1 → Below w.heap.size w w' → K (a.put dst (.pointer (some ⟨w.heap.size, 0, none⟩))) w') :
  if Region.wanted o (yielded ops a.tmps) = true then Oper.wp Tryz.prog o a w K Q else E := by
 subst hdst
 have hw : Region.wanted o (yielded ops a.tmps) = true := by simp [Region.wanted, hgd]
 rw [if_pos hw]
 unfold Oper.wp execOp
 simp only [ho, Sem.run_bind, Instr.alloc, (zero_of_info hz).1, newVar, newRow, run_newObj_alloc, Sem.run_pure, Result.andThen_ok]
 exact h _ (heap_alloc_new w _) (by simp) ((Below.refl _ _).alloc (Nat.le_refl _) _)
theorem till_two {md : Region.Mode} {ops : Array Oper} {Q : Exit → Act → World → Prop} {c : Nat} {S : World → Prop} {oi oj : Oper} {n : Nat} {l : Array Bool} {a : Act} {w : World} (i j : Nat) (hi : ops[i]? = some oi) (hj : ops[j]? = some oj) (hij : i ≠ j)
  (hr : Region.ready md ops l = [i, j]) (hr1 : Region.ready md ops (l.setIfInBounds i true) = [j]) (hr2 : Region.ready md ops (l.setIfInBounds j true) = [i]) (G A B : Act → Act → World → Prop)
  (s1 : ∀ K : Act → World → Prop, (∀ a' w', A a a' w' → K a' w') → if Region.wanted oi (yielded ops a.tmps) = true then Oper.wp Tryz.prog oi a w K Q else K (a.put oi.dst undef) w) (sA : ∀ a' w', A a a' w' → S w')
  (s2 : ∀ a' w', A a a' w' → ∀ K : Act → World → Prop, (∀ a'' w'', G a a'' w'' → K a'' w'') → if Region.wanted oj (yielded ops a'.tmps) = true then Oper.wp Tryz.prog oj a' w' K Q else K (a'.put oj.dst undef) w')
  (t1 : ∀ K : Act → World → Prop, (∀ a' w', B a a' w' → K a' w') → if Region.wanted oj (yielded ops a.tmps) = true then Oper.wp Tryz.prog oj a w K Q else K (a.put oj.dst undef) w) (sB : ∀ a' w', B a a' w' → S w')
  (t2 : ∀ a' w', B a a' w' → ∀ K : Act → World → Prop, (∀ a'' w'', G a a'' w'' → K a'' w'') → if Region.wanted oi (yielded ops a'.tmps) = true then Oper.wp Tryz.prog oi a' w' K Q else K (a'.put oi.dst undef) w')
  (h : ∀ a' w', G a a' w' → S w' ∧ wpTill md ops Q c S n ((l.setIfInBounds i true).setIfInBounds j true) a' w') : wpTill md ops Q c S (n + 2) l a w := by
 have e : (l.setIfInBounds i true).setIfInBounds j true = (l.setIfInBounds j true).setIfInBounds i true := Array.setIfInBounds_comm _ _ hij
 refine ⟨fun h0 => (by rw [h0] at hr; cases hr), fun k hk => ?_⟩
 rw [hr] at hk
 rcases List.mem_cons.1 hk with rfl | hk
 ·refine wpOp_step hi fun K hK => s1 K fun a' w' hA => hK a' w' ⟨fun _ _ => sA _ _ hA, ?_⟩
  exact till_ready j hr1 hj fun K' hK' => s2 a' w' hA K' fun a'' w'' hG => hK' a'' w'' (h _ _ hG)
 ·obtain rfl : k = j := by simpa using hk
  refine wpOp_step hj fun K hK => t1 K fun a' w' hB => hK a' w' ⟨fun _ _ => sB _ _ hB, ?_⟩
  refine till_ready i hr2 hi fun K' hK' => t2 a' w' hB K' fun a'' w'' hG => hK' a'' w'' ?_
  rw [← e]
  exact h _ _ hG
structure SeenP (w : World) (ao : Option Addr) (n : Nat) (pss : List (List Int)) : Prop where
 len : pss.length = n
 cells : ∀ i, i < n → ∃ b o so c, ao = some ⟨b, o, none⟩ ∧ b < w.heap.size ∧ w.cell? ⟨b, o + i, none⟩ = some (.slice so (pss.getD i []).length c) ∧ Seen w so (pss.getD i []).length (pss.getD i []) ∧ (pss.getD i []).length ≤ c
theorem SeenP.later {w w' : World} {ao : Option Addr} {n : Nat} {pss : List (List Int)} (h : SeenP w ao n pss) {B : Nat} (hb : Below B w w') (hB : w.heap.size ≤ B) : SeenP w' ao n pss :=
 ⟨h.len, fun i hi => by
  obtain ⟨b, o, so, c, e, hlt, hc, hs, hl⟩ := h.cells i hi
  exact ⟨b, o, so, c, e, Nat.lt_of_lt_of_le hlt hb.size, (hb.cell (p := ⟨b, o + i, none⟩) (Nat.lt_of_lt_of_le hlt hB)).trans hc, hs.later hb hB, hl⟩⟩
theorem flat_succ (pss : List (List Int)) (k : Nat) (hk : k < pss.length) : (pss.take (k + 1)).flatten = (pss.take k).flatten ++ pss.getD k [] := by
 rw [List.take_succ_eq_append_getElem hk, List.flatten_append]
 simp [List.getD, hk]
theorem flat_le (pss : List (List Int)) (k : Nat) : (pss.take k).flatten.length ≤ pss.flatten.length := by
 conv => rhs; rw [← List.take_append_drop k pss, List.flatten_append, List.length_append]
 exact Nat.le_add_right _ _
theorem seenP3 (W : World) (s1 s2 s3 : Option Addr) (c1 c2 c3 : Nat) (z1 z2 z3 : List Int) (h1 : Seen W s1 z1.length z1) (h2 : Seen W s2 z2.length z2) (h3 : Seen W s3 z3.length z3) (l1 : z1.length ≤ c1) (l2 : z2.length ≤ c2) (l3 : z3.length ≤ c3) :
  SeenP (W.alloc (.cells #[.slice s1 z1.length c1, .slice s2 z2.length c2, .slice s3 z3.length c3] 32)) (some ⟨W.heap.size, 0, none⟩) 3 [z1, z2, z3] := by
 have hb : Below W.heap.size W (W.alloc (.cells #[.slice s1 z1.length c1, .slice s2 z2.length c2, .slice s3 z3.length c3] 32)) := (Below.refl _ _).alloc (Nat.le_refl _) _
 have hh : (W.alloc (.cells #[.slice s1 z1.length c1, .slice s2 z2.length c2, .slice s3 z3.length c3] 32)).heap[W.heap.size]? = some (.cells [.slice s1 z1.length c1, .slice s2 z2.length c2, .slice s3 z3.length c3].toArray 32 (0, 0)) := heap_alloc_new W _
 refine ⟨rfl, fun i hi => ?_⟩
 rcases (by omega : i = 0 ∨ i = 1 ∨ i = 2) with rfl | rfl | rfl
 ·exact ⟨_, 0, s1, c1, rfl, by simp, by rw [cell_of_row _ _ _ _ _ _ hh]; rfl, h1.later hb (Nat.le_refl _), l1⟩
 ·exact ⟨_, 0, s2, c2, rfl, by simp, by rw [cell_of_row _ _ _ _ _ _ hh]; rfl, h2.later hb (Nat.le_refl _), l2⟩
 ·exact ⟨_, 0, s3, c3, rfl, by simp, by rw [cell_of_row _ _ _ _ _ _ hh]; rfl, h3.later hb (Nat.le_refl _), l3⟩
theorem hTake {md : Region.Mode} {ops : Array Oper} {Q : Exit → Act → World → Prop} {S : World → Prop} {oi : Oper} {fuel : Nat} {listed : Array Bool} {a : Act} {w : World} (i : Nat) (d : Option Tmp) (v : Value) (hi : ops[i]? = some oi) (hd : oi.dst = d)
  (hs : Region.noSelect ops = true) (hf : Region.free md ops listed i = true) (hr : (Region.ready md ops listed).contains i = true) (hQ : ∀ c a w, Q (.panic c) (a.put d v) w → Q (.panic c) a w)
  (hw : Region.wanted oi (yielded ops a.tmps) = true) (hy : ∀ w, S w → (execOp a.eval oi).run Tryz.prog w = .ok (.value v) w) (hS : S w)
  (h : wpAnyH Tryz.prog md ops Q S fuel (listed.setIfInBounds i true) (a.put d v) w) : wpAnyH Tryz.prog md ops Q S (fuel + 1) listed a w := by
 subst hd
 exact wpAnyH_take hi hs hf hr hQ (Or.inl ⟨hw, hy⟩) hS h
theorem hLoad {md : Region.Mode} {ops : Array Oper} {Q : Exit → Act → World → Prop} {S : World → Prop} {oi : Oper} {fuel : Nat} {listed : Array Bool} {a : Act} {w : World} (i : Nat) (d : Option Tmp) (cs : List Value) (hi : ops[i]? = some oi) (hd : oi.dst = d)
  (hs : Region.noSelect ops = true) (hf : Region.free md ops listed i = true) (hr : (Region.ready md ops listed).contains i = true) (hQ : ∀ c a w, Q (.panic c) (a.put d (.agg cs.toArray)) w → Q (.panic c) a w)
  (hw : Region.wanted oi (yielded ops a.tmps) = true) (ty : TypeId) (x : Operand) (ho : oi.op = .load ty x) (b off : Nat) (hx : a.eval x = .pointer (some ⟨b, off, none⟩)) (ds : TypeDesc) (hc : ∀ w, S w → w.rangeAt b off cs)
  (hu : Tryz.prog.underlying ty = some ds) (hdr : ds.isRow = true) (hz : (Tryz.prog.info? ty).map (·.size) = some cs.length) (hS : S w)
  (h : wpAnyH Tryz.prog md ops Q S fuel (listed.setIfInBounds i true) (a.put d (.agg cs.toArray)) w) : wpAnyH Tryz.prog md ops Q S (fuel + 1) listed a w := by
 subst hd
 exact wpAnyH_take hi hs hf hr hQ (yieldsIf_load_mid hw ty x ho b off hx cs ds hc hu hdr hz) hS h
theorem ret_blk2 {fn : Func} {p q : Tmp} {ty tz : TypeId} (h : fn.results = #[.cell p ty, .cell q tz]) {R : Ending → World → Prop} {a : Act} {w : World} (g g2 : Nat) (vs us : List Value) (d d2 : TypeDesc) (hp : a.tmps.getD p undef = .pointer (some ⟨g, 0, none⟩)) (hq : a.tmps.getD q undef = .pointer (some ⟨g2, 0, none⟩))
    (hb : Blk w g ty vs) (hb2 : Blk w g2 tz us) (hu : Tryz.prog.underlying ty = some d) (hu2 : Tryz.prog.underlying tz = some d2) (hd : d.isRow = true) (hd2 : d2.isRow = true) (hi : (Tryz.prog.info? ty).map (·.size) = some vs.length) (hi2 : (Tryz.prog.info? tz).map (·.size) = some us.length) (hdef : a.defers = []) (hR : R (.returned (.tuple #[.agg vs.toArray, .agg us.toArray])) w) : bodyPost Tryz.prog fn R .ret a w := by
  refine bodyPost_ret (v := .tuple #[.agg vs.toArray, .agg us.toArray]) ?_ hdef hR
  have hp' : a.tmps[p]?.getD undef = .pointer (some ⟨g, 0, none⟩) := by simpa using hp
  have hq' : a.tmps[q]?.getD undef = .pointer (some ⟨g2, 0, none⟩) := by simpa using hq
  have hl := run_loadVar_row (P := Tryz.prog) w g ty ty vs.toArray (0, 0) d hb hu (by cases d <;> simp_all) (by simpa using hi)
  have hl2 := run_loadVar_row (P := Tryz.prog) w g2 tz tz us.toArray (0, 0) d2 hb2 hu2 (by cases d2 <;> simp_all) (by simpa using hi2)
  simp [results, h, hp', hq', asAddr, hl, hl2]
theorem ret_blkt {fn : Func} {p q : Tmp} {ty : TypeId} (h : fn.results = #[.cell p ty, .tmp q]) {R : Ending → World → Prop} {a : Act} {w : World} (g : Nat) (vs : List Value) (d : TypeDesc) (v : Value) (hp : a.tmps.getD p undef = .pointer (some ⟨g, 0, none⟩)) (hq : a.tmps.getD q undef = v)
    (hb : Blk w g ty vs) (hu : Tryz.prog.underlying ty = some d) (hd : d.isRow = true) (hi : (Tryz.prog.info? ty).map (·.size) = some vs.length) (hdef : a.defers = []) (hR : R (.returned (.tuple #[.agg vs.toArray, v])) w) : bodyPost Tryz.prog fn R .ret a w := by
  refine bodyPost_ret (v := .tuple #[.agg vs.toArray, v]) ?_ hdef hR
  have hp' : a.tmps[p]?.getD undef = .pointer (some ⟨g, 0, none⟩) := by simpa using hp
  have hq' : a.tmps[q]?.getD undef = v := by simpa using hq
  have hl := run_loadVar_row (P := Tryz.prog) w g ty ty vs.toArray (0, 0) d hb hu (by cases d <;> simp_all) (by simpa using hi)
  simp [results, h, hp', hq', asAddr, hl]
theorem mex_any (m x y : Int) (hm : Word m) (hx : Word x) (hy : Word y) (w : World) :
    Calls Tryz.prog 198 #[.int .u64 m, .int .u64 x, .int .u64 y] w fun e w' => e = .returned (.tuple #[.int .u64 (pk m y x), .int .u64 (pk m x y)]) ∧ w = w' := by
  go_enter Tryz.func198, Tryz.ntmps198
  go_wp2_with (go_at_call 227; refine (ch64_any _ _ _ hm (by assumption) (by assumption) _).mono ?_; rintro e w' ⟨rfl, rfl⟩)
  go_ret2
  exact ⟨rfl, rfl⟩
theorem mswap_any (m x y : Int) (hm : Word m) (hx : Word x) (hy : Word y) (w : World) :
    Calls Tryz.prog 166 #[.int .u64 m, .int .u64 x, .int .u64 y] w fun e w' => e = .returned (.tuple #[.int .u64 (pk m y x), .int .u64 (pk m x y)]) ∧ w = w' := by
  go_enter Tryz.func166, Tryz.ntmps166
  go_wp2_with (go_at_call 198; refine (mex_any _ _ _ hm hx hy _).mono ?_; rintro e w' ⟨rfl, rfl⟩)
  go_ret2
  exact ⟨rfl, rfl⟩
theorem fswap_any (n : Int) (hn : Word n) (l m : List Int) (x y : Int) (hl : Fe l x) (hm : Fe m y) (w : World) :
    Calls Tryz.prog 124 #[.int .u64 n, .agg (u64s l).toArray, .agg (u64s m).toArray] w fun e w' => e = .returned (.tuple #[.agg (u64s (bif n % 2 == 1 then m else l)).toArray, .agg (u64s (bif n % 2 == 1 then l else m)).toArray]) ∧ Below w.heap.size w w' := by
  have HL : Hid (Fe l x ∧ Fe m y) := ⟨hl, hm⟩
  have hbit := bit_any n hn
  obtain ⟨c, hc⟩ : ∃ c, (n % 2 == 1) = c := ⟨_, rfl⟩
  rw [hc] at hbit ⊢
  clear hl hm hc
  have HM : Hid (Word (mk c)) := mk_bd c
  obtain ⟨M, hMM⟩ : ∃ z, mk c = z := ⟨_, rfl⟩
  have HP : Hid (∀ a b, Word a → Word b → ∀ w, Calls Tryz.prog 166 #[.int .u64 M, .int .u64 a, .int .u64 b] w fun e w' => e = .returned (.tuple #[.int .u64 (bif c then b else a), .int .u64 (bif c then a else b)]) ∧ w = w') := fun a b ha hb w => by
    have h := mswap_any (mk c) a b HM.out ha hb w
    rwa [pk_mk c a b ha hb, pk_mk c b a hb ha, hMM] at h
  rw [hMM] at hbit
  clear hMM HM
  go_enter Tryz.func124, Tryz.ntmps124
  go_wp2_with (first | (refine wpList_box_new rfl 116 (.tmp 1) rfl (u64s l) rfl ?_; intro x1 z1 s1 l1) | (refine wpList_box_new rfl 116 (.tmp 2) rfl (u64s m) rfl ?_; intro x2 z2 s2 l2) | ((with_reducible show wpList _ _ _ (({ dst := some 6, op := _, type := _, pos := _, after := _, guard := _ } : Oper) :: _) _ _); refine wpList_alloc_new rfl 116 rfl 5 _ zeroElem ?_; intro x3 z3 s3 l3) | ((with_reducible show wpList _ _ _ (({ dst := some 7, op := _, type := _, pos := _, after := _, guard := _ } : Oper) :: _) _ _); refine wpList_alloc_new rfl 116 rfl 5 _ zeroElem ?_; intro x4 z4 s4 l4) | (go_at_call 165; refine (hbit _).mono ?_; rintro e w' ⟨rfl, rfl⟩))
  have e2 : x1.heap.size = w.heap.size + 1 := s1
  have e3 : x2.heap.size = w.heap.size + 1 + 1 := by omega
  have e4 : x3.heap.size = w.heap.size + 1 + 1 + 1 := by omega
  rw [e2] at z2
  rw [e3] at z3
  rw [e4] at z4
  have WW : Hid (Below w.heap.size w x4 ∧ Blk x4 w.heap.size 116 (u64s l) ∧ Blk x4 (w.heap.size + 1) 116 (u64s m) ∧ Blk x4 (w.heap.size + 1 + 1) 116 (u64s [0, 0, 0, 0, 0]) ∧ Blk x4 (w.heap.size + 1 + 1 + 1) 116 (u64s [0, 0, 0, 0, 0])) := ⟨below_chain (below_chain (below_chain l1 l2 (by omega)) l3 (by omega)) l4 (by omega), ((z1.later l2 (by omega)).later l3 (by omega)).later l4 (by omega), (z2.later l3 (by omega)).later l4 (by omega), z3.later l4 (by omega), z4⟩
  clear z1 s1 l1 z2 s2 l2 z3 s3 l3 z4 s4 l4 e2 e3 e4
  go_loopw [12] (fun i wr => ∃ (k : Nat), k ≤ 5 ∧ i = .int .i64 k ∧ Blk wr w.heap.size 116 (u64s (zipK (fun a b => bif c then b else a) k l m)) ∧ Blk wr (w.heap.size + 1) 116 (u64s (zipK (fun b a => bif c then a else b) k m l)) ∧ Kept (fun x => x = w.heap.size ∨ x = w.heap.size + 1) x4 wr) (fun i _ => 5 - (intOf i).toNat)
  case atStart => exact ⟨0, by omega, rfl, by have := WW.out.2.1; cases l <;> exact this, by have := WW.out.2.2.1; cases m <;> exact this, Kept.refl _ _⟩
  case round =>
    obtain ⟨k, hk, rfl, hblk, hblm, hkp⟩ := hrel
    by_cases hlt : k < 5
    · have h1 : k < l.length := by rw [HL.out.1.len]; exact hlt
      have h2 : k < m.length := by rw [HL.out.2.len]; exact hlt
      obtain ⟨X, hX⟩ : ∃ X, l[k] = X := ⟨_, rfl⟩
      obtain ⟨Y, hY⟩ : ∃ Y, m[k] = Y := ⟨_, rfl⟩
      have lX : Lim X := hX ▸ lim_at HL.out.1.lim k h1
      have lY : Lim Y := hY ▸ lim_at HL.out.2.lim k h2
      have ck : wr.cell? ⟨w.heap.size, k, none⟩ = some (.int .u64 X) := by
        rw [hblk.cell, u64s, List.getElem?_map, zipK_at, List.getElem?_eq_getElem h1, hX]; rfl
      have dk : wr.cell? ⟨w.heap.size + 1, k, none⟩ = some (.int .u64 Y) := by
        rw [hblm.cell, u64s, List.getElem?_map, zipK_at, List.getElem?_eq_getElem h2, hY]; rfl
      have fg := hblk.frozen k
      have fh := hblm.frozen k
      have i1 : (k : Int) < 5 := by omega
      have i3 : (0 : Int) ≤ (k : Int) := by omega
      have hC := HP.out X Y ⟨lX.1, by have := lX.2; omega⟩ ⟨lY.1, by have := lY.2; omega⟩
      obtain ⟨Z, hZ⟩ : ∃ z, (bif c then Y else X) = z := ⟨_, rfl⟩
      obtain ⟨V, hV⟩ : ∃ z, (bif c then X else Y) = z := ⟨_, rfl⟩
      rw [hZ, hV] at hC
      have HQ : Hid (Blk wr w.heap.size 116 (u64s (zipK (fun a b => bif c then b else a) k l m)) ∧ Blk wr (w.heap.size + 1) 116 (u64s (zipK (fun b a => bif c then a else b) k m l)) ∧ Kept (fun x => x = w.heap.size ∨ x = w.heap.size + 1) x4 wr ∧ l[k] = X ∧ m[k] = Y ∧ (bif c then Y else X) = Z ∧ (bif c then X else Y) = V) := ⟨hblk, hblm, hkp, hX, hY, hZ, hV⟩
      clear hblk hblm hkp hX hY lX lY hZ hV
      go_wp2_with fail
      go_region_with (go_at_call 166; refine (hC _).mono ?_; rintro e w' ⟨rfl, rfl⟩)
      go_wp2_with fail
      all_goals (
      go_roundw
      case rel =>
        have e := zipK_set (fun a b => bif c then b else a) k l m h1 h2
        have e' := zipK_set (fun b a => bif c then a else b) k m l h2 h1
        simp only [HQ.out.2.2.2.1, HQ.out.2.2.2.2.1, HQ.out.2.2.2.2.2.1, HQ.out.2.2.2.2.2.2] at e e'
        first
        | (have R1 := (HQ.out.1.set k (.int .u64 Z)).other (p := ⟨w.heap.size + 1, k, none⟩) (by simp) (.int .u64 V)
           have R2 := (HQ.out.2.1.other (p := ⟨w.heap.size, k, none⟩) (by simp) (.int .u64 Z)).set k (.int .u64 V)
           rw [u64s_set, e] at R1
           rw [u64s_set, e'] at R2
           exact ⟨k + 1, by omega, by go_num, R1.drew, R2.drew, ((HQ.out.2.2.1.setCell (.inl rfl) _).setCell (.inr rfl) _).drewN 1⟩)
        | (have R1 := (HQ.out.1.other (p := ⟨w.heap.size + 1, k, none⟩) (by simp) (.int .u64 V)).set k (.int .u64 Z)
           have R2 := (HQ.out.2.1.set k (.int .u64 V)).other (p := ⟨w.heap.size, k, none⟩) (by simp) (.int .u64 Z)
           rw [u64s_set, e] at R1
           rw [u64s_set, e'] at R2
           exact ⟨k + 1, by omega, by go_num, R1.drew, R2.drew, ((HQ.out.2.2.1.setCell (.inr rfl) _).setCell (.inl rfl) _).drewN 1⟩)
      case measure => simp [intOf]; omega)
    · have hk5 : k = 5 := by omega
      have i1 : ¬ ((k : Int) < 5) := by omega
      obtain ⟨lr, hlr⟩ : ∃ z, (bif c then m else l) = z := ⟨_, rfl⟩
      obtain ⟨mr, hmr⟩ : ∃ z, (bif c then l else m) = z := ⟨_, rfl⟩
      have HF : Hid (lr.length = 5 ∧ mr.length = 5 ∧ (bif c then m else l) = lr ∧ (bif c then l else m) = mr) := by
        refine ⟨?_, ?_, hlr, hmr⟩
        · rw [← hlr]; cases c; exact HL.out.1.len; exact HL.out.2.len
        · rw [← hmr]; cases c; exact HL.out.2.len; exact HL.out.1.len
      have p1 : zipK (fun a b => bif c then b else a) 5 l m = lr := by
        rw [← hlr, zipK_all _ _ _ HL.out.1.len HL.out.2.len]
        cases c
        · exact zip_fst l m (by rw [HL.out.1.len, HL.out.2.len])
        · exact zip_snd l m (by rw [HL.out.1.len, HL.out.2.len])
      have p2 : zipK (fun b a => bif c then a else b) 5 m l = mr := by
        rw [← hmr, zipK_all _ _ _ HL.out.2.len HL.out.1.len]
        cases c
        · exact zip_fst m l (by rw [HL.out.1.len, HL.out.2.len])
        · exact zip_snd m l (by rw [HL.out.1.len, HL.out.2.len])
      have HQ : Hid (Blk wr w.heap.size 116 (u64s lr) ∧ Blk wr (w.heap.size + 1) 116 (u64s mr) ∧ Blk wr (w.heap.size + 1 + 1) 116 (u64s [0, 0, 0, 0, 0]) ∧ Blk wr (w.heap.size + 1 + 1 + 1) 116 (u64s [0, 0, 0, 0, 0]) ∧ Below w.heap.size w wr) := ⟨by rw [hk5, p1] at hblk; exact hblk, by rw [hk5, p2] at hblm; exact hblm, WW.out.2.2.2.1.kept hkp (by omega), WW.out.2.2.2.2.kept hkp (by omega), below_kept WW.out.1 hkp WW.out.1.size (fun j hj => by omega)⟩
      clear hblk hblm hkp hlr hmr hk5 hlt hk p1 p2
      go_wp2_with fail
      refine wp_region_noPanic (wp_region_held_drew (S := fun W => Blk W w.heap.size 116 (u64s lr) ∧ Blk W (w.heap.size + 1) 116 (u64s mr)) (by kernel_rfl) ⟨(HQ.out.1).drew, (HQ.out.2.1).drew⟩ (fun hH => ?_))
      refine hLoad 0 (some 35) (u64s lr) rfl rfl (by kernel_rfl) (by kernel_rfl) (by kernel_rfl) (fun _ _ _ h => h) (by rfl) 116 (.tmp 4) rfl w.heap.size 0 rfl _ (fun _ h => (h.1).whole) Tryz.underlying116 rfl (by rw [u64s_length, HF.out.1]; exact sizeElem) hH ?_
      simp only [Act.put, sA, sB, sC]
      refine hLoad 1 (some 36) (u64s mr) rfl rfl (by kernel_rfl) (by kernel_rfl) (by kernel_rfl) (fun _ _ _ h => h) (by rfl) 116 (.tmp 5) rfl (w.heap.size + 1) 0 rfl _ (fun _ h => (h.2).whole) Tryz.underlying116 rfl (by rw [u64s_length, HF.out.2.1]; exact sizeElem) hH ?_
      simp only [Act.put, sA, sB, sC]
      refine wpAnyH_ready (rs := [2]) (by kernel_rfl) (by simp) (AllReadyH.cons rfl (fun K hK => ?_) AllReadyH.nil)
      rw [if_pos (by rfl)]
      refine last_store 116 (.tmp 6) (.tmp 35) rfl rfl (w.heap.size + 1 + 1) rfl 116 _ (u64s lr) rfl (HQ.out.2.2.1).drew (by rw [u64s_length, HF.out.1]; rfl) (by rw [u64s_length, HF.out.1]; exact sizeElem) (u64s_one _) ?_
      intro y0 b0 s0 k0
      refine hK.out _ _ ⟨(hH.1).kept k0 (by omega), (hH.2).kept k0 (by omega)⟩ (fun hH => ?_)
      clear hK K
      refine wpAnyH_ready (rs := [3]) (by kernel_rfl) (by simp) (AllReadyH.cons rfl (fun K hK => ?_) AllReadyH.nil)
      rw [if_pos (by rfl)]
      refine last_store 116 (.tmp 7) (.tmp 36) rfl rfl (w.heap.size + 1 + 1 + 1) rfl 116 _ (u64s mr) rfl ((HQ.out.2.2.2.1).drew.kept k0 (by omega)) (by rw [u64s_length, HF.out.2.1]; rfl) (by rw [u64s_length, HF.out.2.1]; exact sizeElem) (u64s_one _) ?_
      intro y1 b1 s1 k1
      refine hK.out _ _ ⟨(hH.1).kept k1 (by omega), (hH.2).kept k1 (by omega)⟩ (fun hH => ?_)
      clear hK K
      refine wpAnyH_done (by kernel_rfl) (NoPanic.normal ?_) _
      clear hH
      go_wp2_with fail
      have q1 := HQ.out.2.2.2.1.lt
      have q2 := HQ.out.2.2.2.2.size
      have q3 : wr.drew.heap.size = wr.heap.size := rfl
      exact ret_blk2 rfl (w.heap.size + 1 + 1) (w.heap.size + 1 + 1 + 1) (u64s lr) (u64s mr) _ _ rfl rfl (b0.kept k1 (by omega)) b1 Tryz.underlying116 Tryz.underlying116 rfl rfl (by rw [u64s_length, HF.out.1]; exact sizeElem) (by rw [u64s_length, HF.out.2.1]; exact sizeElem) rfl ⟨by rw [HF.out.2.2.1, HF.out.2.2.2], below_kept (below_kept (below_dn HQ.out.2.2.2.2 1) k0 q2 (fun j hj => by omega)) k1 (by rw [s0]; exact q2) (fun j hj => by omega)⟩
def digs (x : Int) : List Int := [x % 2251799813685248, x / 2251799813685248 % 2251799813685248, x / 5070602400912917605986812821504 % 2251799813685248, x / 11417981541647679048466287755595961091061972992 % 2251799813685248, x / 25711008708143844408671393477458601640355247900524685364822016 % 2251799813685248]
def rK (l : List Int) : Nat → Int
 | 0 => 19
 | k + 1 => (rK l k + l.getD k 0) / 2251799813685248
def oK (l : List Int) (o : Int) : Nat → Int
 | 0 => o
 | k + 1 => (l.getD k 0 + oK l o k) / 2251799813685248
def stK (l : List Int) (o : Int) : Nat → List Int
 | 0 => l
 | k + 1 => (stK l o k).set k ((l.getD k 0 + oK l o k) % 2251799813685248)
theorem stK_length (l : List Int) (o : Int) : ∀ k, (stK l o k).length = l.length
 | 0 => rfl
 | k + 1 => by rw [stK, List.length_set, stK_length l o k]
theorem stK_at (l : List Int) (o : Int) : ∀ (k j : Nat), k ≤ j → (stK l o k)[j]? = l[j]?
 | 0, j, _ => rfl
 | k + 1, j, h => by rw [stK, List.getElem?_set_ne (by omega), stK_at l o k j (by omega)]
theorem lim_getD {l : List Int} (h : ∀ z ∈ l, Lim z) (k : Nat) : 0 ≤ l.getD k 0 ∧ l.getD k 0 < 2251799813701632 := by
 rcases Nat.lt_or_ge k l.length with h1 | h1
 ·have := h _ (List.getElem_mem h1)
  simp only [List.getD, List.getElem?_eq_getElem h1, Option.getD_some]
  exact this
 ·simp only [List.getD, List.getElem?_eq_none h1, Option.getD_none]
  decide
theorem rK_bd {l : List Int} (h : ∀ z ∈ l, Lim z) : ∀ k, 0 ≤ rK l k ∧ rK l k ≤ 19
 | 0 => ⟨by simp [rK], by simp [rK]⟩
 | k + 1 => by
  have := rK_bd h k; have := lim_getD h k
  rw [rK]; omega
theorem oK_bd {l : List Int} (h : ∀ z ∈ l, Lim z) (o : Int) (ho : 0 ≤ o ∧ o ≤ 361) : ∀ k, 0 ≤ oK l o k ∧ oK l o k ≤ 361
 | 0 => ho
 | k + 1 => by
  have := oK_bd h o ho k; have := lim_getD h k
  rw [oK]; omega
theorem red_num (a b c d e x : Int) (ha : Lim a) (hb : Lim b) (hc : Lim c) (hd : Lim d) (he : Lim e) (hx : v5 a b c d e % PR = x) :
  stK [a, b, c, d, e] (rK [a, b, c, d, e] 5 * 19) 5 = digs x := by
 simp only [stK, rK, oK, List.getD_cons_zero, List.getD_cons_succ, List.set_cons_zero, List.set_cons_succ]
 obtain ⟨r1, h1⟩ : ∃ z, (19 + a) / 2251799813685248 = z := ⟨_, rfl⟩
 obtain ⟨r2, h2⟩ : ∃ z, (r1 + b) / 2251799813685248 = z := ⟨_, rfl⟩
 obtain ⟨r3, h3⟩ : ∃ z, (r2 + c) / 2251799813685248 = z := ⟨_, rfl⟩
 obtain ⟨r4, h4⟩ : ∃ z, (r3 + d) / 2251799813685248 = z := ⟨_, rfl⟩
 obtain ⟨r5, h5⟩ : ∃ z, (r4 + e) / 2251799813685248 = z := ⟨_, rfl⟩
 rw [h1, h2, h3, h4, h5]
 unfold Lim at *
 unfold v5 PR at hx
 have q5 : r5 = 0 ∨ r5 = 1 := by omega
 obtain ⟨o1, g1⟩ : ∃ z, (a + r5 * 19) / 2251799813685248 = z := ⟨_, rfl⟩
 obtain ⟨o2, g2⟩ : ∃ z, (b + o1) / 2251799813685248 = z := ⟨_, rfl⟩
 obtain ⟨o3, g3⟩ : ∃ z, (c + o2) / 2251799813685248 = z := ⟨_, rfl⟩
 obtain ⟨o4, g4⟩ : ∃ z, (d + o3) / 2251799813685248 = z := ⟨_, rfl⟩
 rw [g1, g2, g3, g4]
 have hx2 : x = a + 2251799813685248 * b + 5070602400912917605986812821504 * c + 11417981541647679048466287755595961091061972992 * d + 25711008708143844408671393477458601640355247900524685364822016 * e - 57896044618658097711785492504343953926634992332820282019728792003956564819949 * r5 := by
  rcases q5 with rfl | rfl <;> omega
 unfold digs
 obtain ⟨e1, k1⟩ : ∃ z, (a + r5 * 19) % 2251799813685248 = z := ⟨_, rfl⟩
 obtain ⟨e2, k2⟩ : ∃ z, (b + o1) % 2251799813685248 = z := ⟨_, rfl⟩
 obtain ⟨e3, k3⟩ : ∃ z, (c + o2) % 2251799813685248 = z := ⟨_, rfl⟩
 obtain ⟨e4, k4⟩ : ∃ z, (d + o3) % 2251799813685248 = z := ⟨_, rfl⟩
 obtain ⟨e5, k5⟩ : ∃ z, (e + o4) % 2251799813685248 = z := ⟨_, rfl⟩
 obtain ⟨o5, g5⟩ : ∃ z, (e + o4) / 2251799813685248 = z := ⟨_, rfl⟩
 rw [k1, k2, k3, k4, k5]
 have hx3 : x = e1 + 2251799813685248 * e2 + 5070602400912917605986812821504 * e3 + 11417981541647679048466287755595961091061972992 * e4 + 25711008708143844408671393477458601640355247900524685364822016 * e5 + 57896044618658097711785492504343953926634992332820282019728792003956564819968 * (o5 - r5) := by omega
 have b1 : 0 ≤ e1 ∧ e1 < 2251799813685248 := by omega
 have b2 : 0 ≤ e2 ∧ e2 < 2251799813685248 := by omega
 have b3 : 0 ≤ e3 ∧ e3 < 2251799813685248 := by omega
 have b4 : 0 ≤ e4 ∧ e4 < 2251799813685248 := by omega
 have b5 : 0 ≤ e5 ∧ e5 < 2251799813685248 := by omega
 have bx : 0 ≤ x ∧ x < 57896044618658097711785492504343953926634992332820282019728792003956564819949 := by omega
 clear hx hx2 h1 h2 h3 h4 h5 g1 g2 g3 g4 g5 k1 k2 k3 k4 k5 ha hb hc hd he
 have z5 : o5 - r5 = 0 := by omega
 rw [z5] at hx3
 refine List.cons_eq_cons.2 ⟨by omega, List.cons_eq_cons.2 ⟨by omega, List.cons_eq_cons.2 ⟨by omega, List.cons_eq_cons.2 ⟨by omega, List.cons_eq_cons.2 ⟨by omega, rfl⟩⟩⟩⟩⟩
theorem infoU64 : (Tryz.prog.info? 24).map (fun i => (i.zero, i.size)) = some (some (.int .u64 0), 1) := by kernel_rfl
theorem idx_A5 (zs : List Int) (hl : zs.length = 5) (k : Nat) (hk : k < 5) (w : World) : (Instr.index 114 (.agg (u64s zs).toArray) (.int .i64 k)).run Tryz.prog w = .ok (.int .u64 (zs.getD k 0)) w := by
 have hsz : ∀ w, (sizeOf 24).run Tryz.prog w = .ok 1 w := fun w => by
  have h := infoU64
  cases hq : Tryz.prog.info? 24 with
  | none => simp [hq] at h
  | some i => simp [hq] at h; simp [sizeOf, typeInfo, hq, h.2]
 have px : (Go.part 24 (u64s zs).toArray (k * 1)).run Tryz.prog w = .ok (.int .u64 (zs.getD k 0)) w := by
  simp [Go.part, isAgg, run_underlying Tryz.underlying24, u64s, List.getD, List.getElem?_eq_getElem (show k < zs.length by omega)]
 rw [Nat.mul_one] at px
 simp [Instr.index, run_underlying Tryz.underlying114, asIntOf, hsz, hk, px]
theorem reduce_any (g : Nat) (l : List Int) (x : Int) (w : World) (hB : Blk w g 116 (u64s l)) (hl : Fe l x) :
  Calls Tryz.prog 173 #[.pointer (some ⟨g, 0, none⟩)] w fun e w' => e = .returned (.tuple #[]) ∧ Blk w' g 116 (u64s (digs x)) ∧ Kept (fun k => k = g) w w' := by
 have HB : Hid (Blk w g 116 (u64s l) ∧ Fe l x ∧ l.length = 5 ∧ (u64s l).length = 5) := ⟨hB, hl, hl.len, by rw [u64s_length]; exact hl.len⟩
 have HN : Hid (stK l (rK l 5 * 19) 5 = digs x) := by
  obtain ⟨a, b, c, d, e, rfl, ha, hb, hc, hd, he, hx⟩ := hl.parts
  exact red_num a b c d e x ha hb hc hd he hx
 clear hB hl
 go_enter Tryz.func173, Tryz.ntmps173
 go_wp2_with (refine wpList_load_mid rfl 114 _ rfl g 0 rfl (u64s l) _ HB.out.1.whole Tryz.underlying114 rfl (by rw [HB.out.2.2.2]; exact sizeA5) ?_)
 go_loopw [2, 11] (fun r i wr => ∃ (k : Nat), k ≤ 5 ∧ i = .int .i64 k ∧ r = .int .u64 (rK l k) ∧ w = wr) (fun _ i _ => 5 - (intOf i).toNat)
 case atStart => exact ⟨0, by omega, rfl, rfl, rfl⟩
 case round =>
  obtain ⟨k, hk, rfl, rfl, rfl⟩ := hrel
  by_cases hlt : k < 5
  ·have hk2 : k < l.length := by rw [HB.out.2.2.1]; exact hlt
   have hb1 := rK_bd HB.out.2.1.lim k
   have hb2 := lim_getD HB.out.2.1.lim k
   have i1 : (k : Int) < 5 := by omega
   have i3 : (0 : Int) ≤ (k : Int) := by omega
   have HS : Hid (rK l (k + 1) = (rK l k + l.getD k 0) / 2251799813685248) := rfl
   obtain ⟨R, hR⟩ : ∃ z, rK l k = z := ⟨_, rfl⟩
   obtain ⟨X, hX⟩ : ∃ z, l.getD k 0 = z := ⟨_, rfl⟩
   have f1 := idx_A5 l HB.out.2.2.1 k hlt
   rw [hX] at f1
   rw [hR, hX] at HS
   rw [hR] at hb1 ⊢
   rw [hX] at hb2
   have e1 : IntKind.u64.wrap (R + X) = R + X := by rw [IntKind.wrap_u64]; omega
   clear hR hX
   go_wp2_with fail
   go_roundw
   case rel => exact ⟨k + 1, by omega, by go_num, by rw [HS.out], trivial⟩
   case measure => simp [intOf]; omega
  ·have hk5 : k = 5 := by omega
   have i1 : ¬ ((k : Int) < 5) := by omega
   obtain ⟨O, hO⟩ : ∃ z, rK l k = z := ⟨_, rfl⟩
   have hO2 := rK_bd HB.out.2.1.lim k
   have hO5 : rK l 5 = O := by rw [← hO, hk5]
   rw [hO5] at HN
   rw [hO] at hO2 ⊢
   clear hO5 hk5 hlt
   have e1 : IntKind.u64.wrap (O * 19) = O * 19 := by rw [IntKind.wrap_u64]; omega
   have HO : Hid (0 ≤ O * 19 ∧ O * 19 ≤ 361) := ⟨by omega, by omega⟩
   clear hO hO2
   go_wp2_with fail
   clear e1
   go_loopw [5, 22] (fun o i wr => ∃ (k : Nat), k ≤ 5 ∧ i = .int .i64 k ∧ o = .int .u64 (oK l (O * 19) k) ∧ Blk wr g 116 (u64s (stK l (O * 19) k)) ∧ Kept (fun x => x = g) w wr) (fun _ i _ => 5 - (intOf i).toNat)
   case atStart => exact ⟨0, by omega, rfl, rfl, HB.out.1, Kept.refl _ _⟩
   case round =>
    obtain ⟨k, hk, rfl, rfl, hblk, hkp⟩ := hrel
    by_cases hlt : k < 5
    ·have hk2 : k < l.length := by rw [HB.out.2.2.1]; exact hlt
     have hb1 := oK_bd HB.out.2.1.lim (O * 19) HO.out k
     have hb2 := lim_getD HB.out.2.1.lim k
     have i1 : (k : Int) < 5 := by omega
     have i3 : (0 : Int) ≤ (k : Int) := by omega
     have HS : Hid (oK l (O * 19) (k + 1) = (l.getD k 0 + oK l (O * 19) k) / 2251799813685248 ∧ stK l (O * 19) (k + 1) = (stK l (O * 19) k).set k ((l.getD k 0 + oK l (O * 19) k) % 2251799813685248)) := ⟨rfl, rfl⟩
     obtain ⟨R, hR⟩ : ∃ z, oK l (O * 19) k = z := ⟨_, rfl⟩
     obtain ⟨X, hX⟩ : ∃ z, l.getD k 0 = z := ⟨_, rfl⟩
     have ck : wr.cell? ⟨g, k, none⟩ = some (.int .u64 X) := by
      rw [hblk.cell, u64s, List.getElem?_map, stK_at l _ k k (Nat.le_refl _), ← hX]
      simp [List.getD, hk2]
     have fg := hblk.frozen k
     rw [hR, hX] at HS
     rw [hR] at hb1 ⊢
     rw [hX] at hb2
     have e1 : IntKind.u64.wrap (X + R) = X + R := by rw [IntKind.wrap_u64]; omega
     have e2 := and51 (X + R) (by omega) (by omega)
     have HQ : Hid (Blk wr g 116 (u64s (stK l (O * 19) k)) ∧ Kept (fun x => x = g) w wr) := ⟨hblk, hkp⟩
     clear hR hX hblk hkp hb1 hb2
     go_wp2_with fail
     go_region_with fail
     go_wp2_with fail
     go_region_with fail
     go_wp2_with fail
     all_goals (
     go_roundw
     case rel =>
      have RR := ((HQ.out.1.set k (.int .u64 (X + R))).set k (.int .u64 ((X + R) % 2251799813685248))).drew.drew
      rw [List.set_set, u64s_set, ← HS.out.2] at RR
      exact ⟨k + 1, by omega, by go_num, by rw [HS.out.1], RR, (((HQ.out.2.setCell rfl _).setCell rfl _).drewN 1).drewN 1⟩
     case measure => simp [intOf]; omega)
    ·obtain rfl : k = 5 := by omega
     rw [HN.out] at hblk
     go_wp2_with fail
     go_end0
     exact ⟨rfl, hblk, hkp⟩
theorem zero32 : (Tryz.prog.info? 22).map (fun i => (i.zero, i.size)) = some (some (.agg (u8s (List.replicate 32 0)).toArray), 32) := by kernel_rfl
theorem infoB8 : (Tryz.prog.info? 5).map (fun i => (i.zero, i.size)) = some (some (.int .u8 0), 1) := by kernel_rfl
theorem size32 : (Tryz.prog.info? 22).map (·.size) = some 32 := by kernel_rfl
def byK (L : List Int) (k : Nat) : List Int := L.take k ++ List.replicate (32 - k) 0
theorem byK_length (L : List Int) (hL : L.length = 32) (k : Nat) (hk : k ≤ 32) : (byK L k).length = 32 := by
 rw [byK, List.length_append, List.length_take, List.length_replicate, hL]; omega
theorem byK_set (L : List Int) (hL : L.length = 32) (k : Nat) (hk : k < 32) : (byK L k).set k (L.getD k 0) = byK L (k + 1) := by
 have e : List.replicate (32 - k) (0 : Int) = 0 :: List.replicate (32 - (k + 1)) 0 := by
  rw [show 32 - k = 32 - (k + 1) + 1 by omega, List.replicate_succ]
 have hl : (L.take k).length = k := by rw [List.length_take, hL]; omega
 rw [byK, e, List.set_append_right _ _ (by omega), hl, Nat.sub_self, List.set_cons_zero, byK, List.take_succ_eq_append_getElem (show k < L.length by omega)]
 simp only [List.getD, List.getElem?_eq_getElem (show k < L.length by omega), Option.getD_some, List.append_assoc, List.singleton_append]
theorem byK_all (L : List Int) (hL : L.length = 32) : byK L 32 = L := by
 rw [byK, List.take_of_length_le (by omega)]; simp
theorem byte_one (x : Int) (hx : 0 ≤ x ∧ x < 57896044618658097711785492504343953926634992332820282019728792003956564819968) (k q f : Nat) (hk : k < 32) (hq : 8 * k / 51 = q) (hf : 8 * k % 51 = f) (hA : f ≤ 43 ∨ q = 4) : (digs x).getD q 0 / 2 ^ f % 256 = (leB 32 x).getD k 0 := by
 rw [leB_at 32 x k hk]
 match k, hk with
 | 0, _ =>
  obtain rfl : q = 0 := by omega
  obtain rfl : f = 0 := by omega
  simp only [digs, List.getD_cons_zero, List.getD_cons_succ, Int.reducePow]
  clear hA hq hf
  omega
 | 1, _ =>
  obtain rfl : q = 0 := by omega
  obtain rfl : f = 8 := by omega
  simp only [digs, List.getD_cons_zero, List.getD_cons_succ, Int.reducePow]
  clear hA hq hf
  omega
 | 2, _ =>
  obtain rfl : q = 0 := by omega
  obtain rfl : f = 16 := by omega
  simp only [digs, List.getD_cons_zero, List.getD_cons_succ, Int.reducePow]
  clear hA hq hf
  omega
 | 3, _ =>
  obtain rfl : q = 0 := by omega
  obtain rfl : f = 24 := by omega
  simp only [digs, List.getD_cons_zero, List.getD_cons_succ, Int.reducePow]
  clear hA hq hf
  omega
 | 4, _ =>
  obtain rfl : q = 0 := by omega
  obtain rfl : f = 32 := by omega
  simp only [digs, List.getD_cons_zero, List.getD_cons_succ, Int.reducePow]
  clear hA hq hf
  omega
 | 5, _ =>
  obtain rfl : q = 0 := by omega
  obtain rfl : f = 40 := by omega
  simp only [digs, List.getD_cons_zero, List.getD_cons_succ, Int.reducePow]
  clear hA hq hf
  omega
 | 6, _ => omega
 | 7, _ =>
  obtain rfl : q = 1 := by omega
  obtain rfl : f = 5 := by omega
  simp only [digs, List.getD_cons_zero, List.getD_cons_succ, Int.reducePow]
  clear hA hq hf
  omega
 | 8, _ =>
  obtain rfl : q = 1 := by omega
  obtain rfl : f = 13 := by omega
  simp only [digs, List.getD_cons_zero, List.getD_cons_succ, Int.reducePow]
  clear hA hq hf
  omega
 | 9, _ =>
  obtain rfl : q = 1 := by omega
  obtain rfl : f = 21 := by omega
  simp only [digs, List.getD_cons_zero, List.getD_cons_succ, Int.reducePow]
  clear hA hq hf
  omega
 | 10, _ =>
  obtain rfl : q = 1 := by omega
  obtain rfl : f = 29 := by omega
  simp only [digs, List.getD_cons_zero, List.getD_cons_succ, Int.reducePow]
  clear hA hq hf
  omega
 | 11, _ =>
  obtain rfl : q = 1 := by omega
  obtain rfl : f = 37 := by omega
  simp only [digs, List.getD_cons_zero, List.getD_cons_succ, Int.reducePow]
  clear hA hq hf
  omega
 | 12, _ => omega
 | 13, _ =>
  obtain rfl : q = 2 := by omega
  obtain rfl : f = 2 := by omega
  simp only [digs, List.getD_cons_zero, List.getD_cons_succ, Int.reducePow]
  clear hA hq hf
  omega
 | 14, _ =>
  obtain rfl : q = 2 := by omega
  obtain rfl : f = 10 := by omega
  simp only [digs, List.getD_cons_zero, List.getD_cons_succ, Int.reducePow]
  clear hA hq hf
  omega
 | 15, _ =>
  obtain rfl : q = 2 := by omega
  obtain rfl : f = 18 := by omega
  simp only [digs, List.getD_cons_zero, List.getD_cons_succ, Int.reducePow]
  clear hA hq hf
  omega
 | 16, _ =>
  obtain rfl : q = 2 := by omega
  obtain rfl : f = 26 := by omega
  simp only [digs, List.getD_cons_zero, List.getD_cons_succ, Int.reducePow]
  clear hA hq hf
  omega
 | 17, _ =>
  obtain rfl : q = 2 := by omega
  obtain rfl : f = 34 := by omega
  simp only [digs, List.getD_cons_zero, List.getD_cons_succ, Int.reducePow]
  clear hA hq hf
  omega
 | 18, _ =>
  obtain rfl : q = 2 := by omega
  obtain rfl : f = 42 := by omega
  simp only [digs, List.getD_cons_zero, List.getD_cons_succ, Int.reducePow]
  clear hA hq hf
  omega
 | 19, _ => omega
 | 20, _ =>
  obtain rfl : q = 3 := by omega
  obtain rfl : f = 7 := by omega
  simp only [digs, List.getD_cons_zero, List.getD_cons_succ, Int.reducePow]
  clear hA hq hf
  omega
 | 21, _ =>
  obtain rfl : q = 3 := by omega
  obtain rfl : f = 15 := by omega
  simp only [digs, List.getD_cons_zero, List.getD_cons_succ, Int.reducePow]
  clear hA hq hf
  omega
 | 22, _ =>
  obtain rfl : q = 3 := by omega
  obtain rfl : f = 23 := by omega
  simp only [digs, List.getD_cons_zero, List.getD_cons_succ, Int.reducePow]
  clear hA hq hf
  omega
 | 23, _ =>
  obtain rfl : q = 3 := by omega
  obtain rfl : f = 31 := by omega
  simp only [digs, List.getD_cons_zero, List.getD_cons_succ, Int.reducePow]
  clear hA hq hf
  omega
 | 24, _ =>
  obtain rfl : q = 3 := by omega
  obtain rfl : f = 39 := by omega
  simp only [digs, List.getD_cons_zero, List.getD_cons_succ, Int.reducePow]
  clear hA hq hf
  omega
 | 25, _ => omega
 | 26, _ =>
  obtain rfl : q = 4 := by omega
  obtain rfl : f = 4 := by omega
  simp only [digs, List.getD_cons_zero, List.getD_cons_succ, Int.reducePow]
  clear hA hq hf
  omega
 | 27, _ =>
  obtain rfl : q = 4 := by omega
  obtain rfl : f = 12 := by omega
  simp only [digs, List.getD_cons_zero, List.getD_cons_succ, Int.reducePow]
  clear hA hq hf
  omega
 | 28, _ =>
  obtain rfl : q = 4 := by omega
  obtain rfl : f = 20 := by omega
  simp only [digs, List.getD_cons_zero, List.getD_cons_succ, Int.reducePow]
  clear hA hq hf
  omega
 | 29, _ =>
  obtain rfl : q = 4 := by omega
  obtain rfl : f = 28 := by omega
  simp only [digs, List.getD_cons_zero, List.getD_cons_succ, Int.reducePow]
  clear hA hq hf
  omega
 | 30, _ =>
  obtain rfl : q = 4 := by omega
  obtain rfl : f = 36 := by omega
  simp only [digs, List.getD_cons_zero, List.getD_cons_succ, Int.reducePow]
  clear hA hq hf
  omega
 | 31, _ =>
  obtain rfl : q = 4 := by omega
  obtain rfl : f = 44 := by omega
  simp only [digs, List.getD_cons_zero, List.getD_cons_succ, Int.reducePow]
  clear hA hq hf
  omega
 | k + 32, h => exact absurd h (by omega)
theorem or8 (s : Nat) (a b : Int) (hs : s ≤ 7) (ha : 0 ≤ a ∧ a < (2 ^ s : Nat)) (hb : 0 ≤ b ∧ b < 256) (hm : b % (2 ^ s : Nat) = 0) : bits .or .u8 a b = a + b := by
 obtain ⟨a, rfl⟩ := Int.eq_ofNat_of_zero_le ha.1
 obtain ⟨b, rfl⟩ := Int.eq_ofNat_of_zero_le hb.1
 have h2 : (2 : Nat) ^ s ≤ 2 ^ 7 := Nat.pow_le_pow_right (by decide) hs
 have h3 := ha.2
 rw [u8_or _ _ (by omega) (by omega) (by omega) (by omega)]
 have h4 : b % 2 ^ s = 0 := by omega
 obtain ⟨c, rfl⟩ := Nat.dvd_of_mod_eq_zero h4
 have h := Nat.shiftLeft_add_eq_or_of_lt (i := s) (b := a) (by omega) c
 rw [Int.toNat_natCast, Int.toNat_natCast, Nat.or_comm, Nat.mul_comm, ← Nat.shiftLeft_eq, ← h]
 simp [Nat.shiftLeft_eq, Int.add_comm]
theorem byte_two (x : Int) (hx : 0 ≤ x ∧ x < 57896044618658097711785492504343953926634992332820282019728792003956564819968) (k q f s : Nat) (hk : k < 32) (hq : 8 * k / 51 = q) (hf : 8 * k % 51 = f) (hs : 51 - f = s) (hA : 43 < f) (hB : q < 4) : bits .or .u8 ((digs x).getD q 0 / 2 ^ f % 256) (IntKind.u64.wrap ((digs x).getD (q + 1) 0 * 2 ^ s) % 256) = (leB 32 x).getD k 0 := by
 rw [leB_at 32 x k hk]
 have : k = 6 ∨ k = 12 ∨ k = 19 ∨ k = 25 := by omega
 rcases this with rfl | rfl | rfl | rfl
 ·obtain rfl : q = 0 := by omega
  obtain rfl : f = 48 := by omega
  obtain rfl : s = 3 := by omega
  clear hA hB hq hf hs hk
  simp only [digs, List.getD_cons_zero, List.getD_cons_succ, Int.reducePow, IntKind.wrap_u64, Nat.reduceAdd]
  rw [or8 3 _ _ (by omega) (by simp only [Nat.reducePow]; omega) (by omega) (by simp only [Nat.reducePow]; omega)]
  omega
 ·obtain rfl : q = 1 := by omega
  obtain rfl : f = 45 := by omega
  obtain rfl : s = 6 := by omega
  clear hA hB hq hf hs hk
  simp only [digs, List.getD_cons_zero, List.getD_cons_succ, Int.reducePow, IntKind.wrap_u64, Nat.reduceAdd]
  rw [or8 6 _ _ (by omega) (by simp only [Nat.reducePow]; omega) (by omega) (by simp only [Nat.reducePow]; omega)]
  omega
 ·obtain rfl : q = 2 := by omega
  obtain rfl : f = 50 := by omega
  obtain rfl : s = 1 := by omega
  clear hA hB hq hf hs hk
  simp only [digs, List.getD_cons_zero, List.getD_cons_succ, Int.reducePow, IntKind.wrap_u64, Nat.reduceAdd]
  rw [or8 1 _ _ (by omega) (by simp only [Nat.reducePow]; omega) (by omega) (by simp only [Nat.reducePow]; omega)]
  omega
 ·obtain rfl : q = 3 := by omega
  obtain rfl : f = 47 := by omega
  obtain rfl : s = 4 := by omega
  clear hA hB hq hf hs hk
  simp only [digs, List.getD_cons_zero, List.getD_cons_succ, Int.reducePow, IntKind.wrap_u64, Nat.reduceAdd]
  rw [or8 4 _ _ (by omega) (by simp only [Nat.reducePow]; omega) (by omega) (by simp only [Nat.reducePow]; omega)]
  omega
theorem fbytes_any (l : List Int) (x : Int) (hl : Fe l x) (w : World) :
  Calls Tryz.prog 131 #[.agg (u64s l).toArray] w fun e w' => e = .returned (.agg (u8s (leB 32 x)).toArray) ∧ Below w.heap.size w w' := by
 have HL : Hid (Fe l x ∧ l.length = 5) := ⟨hl, hl.len⟩
 clear hl
 go_enter Tryz.func131, Tryz.ntmps131
 go_wp2_with (first | (refine wpList_box_new rfl 116 (.tmp 0) rfl (u64s l) rfl ?_; intro x1 z1 s1 l1) | ((with_reducible show wpList _ _ _ _ _ x1); refine wpList_alloc_new rfl 22 rfl 32 _ zero32 ?_; intro x2 z2 s2 l2; rw [s1] at z2; have b1 := z1.later l2 (by omega)) | (go_at_call 173; refine (reduce_any _ _ _ _ b1 HL.out.1).mono ?_; rintro e x3 ⟨rfl, b3, k3⟩; have G3 : w.heap.size + 2 ≤ x3.heap.size := by have := k3.size; omega) | (refine wpList_alloc_new rfl 22 rfl 32 _ zero32 ?_; intro x4 z4 s4 l4))
 obtain ⟨G, hG⟩ : ∃ z, x3.heap.size = z := ⟨_, rfl⟩
 rw [hG] at z4 G3 ⊢
 have WW : Hid (Below w.heap.size w x4 ∧ Blk x4 w.heap.size 116 (u64s (digs x)) ∧ Blk x4 (w.heap.size + 1) 22 (u8s (List.replicate 32 0)) ∧ Blk x4 G 22 (u8s (List.replicate 32 0)) ∧ w.heap.size + 2 ≤ G) := ⟨below_chain (below_kept (below_chain l1 l2 (by omega)) k3 (by omega) (fun j hj => by omega)) l4 (by omega), b3.later l4 (by omega), (z2.kept k3 (by omega)).later l4 (by omega), z4, G3⟩
 clear z1 s1 l1 z2 s2 l2 b1 b3 k3 hG z4 s4 l4
 go_loopw [8] (fun i wr => ∃ (k : Nat), k ≤ 32 ∧ i = .int .i64 k ∧ Blk wr G 22 (u8s (byK (leB 32 x) k)) ∧ Kept (fun x => x = G) x4 wr) (fun i _ => 32 - (intOf i).toNat)
 case atStart => exact ⟨0, by omega, rfl, by simpa [byK] using WW.out.2.2.2.1, Kept.refl _ _⟩
 case round =>
  obtain ⟨k, hk, rfl, hblk, hkp⟩ := hrel
  by_cases hlt : k < 32
  ·have i1 : (k : Int) < 32 := by omega
   have i3 : (0 : Int) ≤ (k : Int) := by omega
   obtain ⟨q, hq⟩ : ∃ q : Nat, 8 * k / 51 = q := ⟨_, rfl⟩
   obtain ⟨f, hf⟩ : ∃ f : Nat, 8 * k % 51 = f := ⟨_, rfl⟩
   have j1 : IntKind.i64.wrap (8 * (k : Int)) = 8 * (k : Int) := by simp only [IntKind.wrap, IntKind.bits, IntKind.signed]; simp; omega
   have j2 : Int.tdiv (8 * (k : Int)) 51 = (q : Int) := by rw [Int.tdiv_eq_ediv_of_nonneg (by omega)]; omega
   have j3 : Int.tmod (8 * (k : Int)) 51 = (f : Int) := by rw [Int.tmod_eq_emod_of_nonneg (by omega)]; omega
   have hq5 : q < 5 := by omega
   have hf5 : f < 51 := by omega
   obtain ⟨X, hX⟩ : ∃ z, (digs x).getD q 0 = z := ⟨_, rfl⟩
   have ck : wr.cell? ⟨w.heap.size, q, none⟩ = some (.int .u64 X) := by
    rw [(WW.out.2.1.kept hkp (by omega)).cell, u64s_getD (l := digs x) (show q < (digs x).length from hq5), ← hX]
    simp [List.getD, show q < (digs x).length from hq5]
   have fg := hblk.frozen k
   have j4 : (q : Int) < 5 := by omega
   have j5 : (0 : Int) ≤ (q : Int) := by omega
   have j6 : (f : Int) < 51 := by omega
   have j7 : (0 : Int) ≤ (f : Int) := by omega
   have c2 : wr.cell? ⟨G, k, none⟩ = some (.int .u8 ((byK (leB 32 x) k).getD k 0)) := u8s_cell hblk k (by rw [byK_length _ (leB_length _ _) k hk]; exact hlt)
   have HX : Hid (0 ≤ x ∧ x < 57896044618658097711785492504343953926634992332820282019728792003956564819968) := by have h := HL.out.1.bd; unfold PR at h; exact ⟨by omega, by omega⟩
   have HQ : Hid (Blk wr G 22 (u8s (byK (leB 32 x) k)) ∧ Kept (fun x => x = G) x4 wr ∧ 8 * k / 51 = q ∧ 8 * k % 51 = f ∧ (digs x).getD q 0 = X) := ⟨hblk, hkp, hq, hf, hX⟩
   obtain ⟨Z, hZ⟩ : ∃ z, (byK (leB 32 x) k).getD k 0 = z := ⟨_, rfl⟩
   rw [hZ] at c2
   by_cases hA : (43 : Int) < (f : Int)
   ·by_cases hC : (q : Int) + 1 < 5
    ·obtain ⟨q1, hq1⟩ : ∃ q1 : Nat, q + 1 = q1 := ⟨_, rfl⟩
     obtain ⟨s, hs⟩ : ∃ s : Nat, 51 - f = s := ⟨_, rfl⟩
     have hq15 : q1 < 5 := by omega
     obtain ⟨Y, hY⟩ : ∃ z, (digs x).getD q1 0 = z := ⟨_, rfl⟩
     have dk : wr.cell? ⟨w.heap.size, q1, none⟩ = some (.int .u64 Y) := by
      rw [(WW.out.2.1.kept hkp (by omega)).cell, u64s_getD (l := digs x) (show q1 < (digs x).length from hq15), ← hY]
      simp [List.getD, show q1 < (digs x).length from hq15]
     have hne : w.heap.size ≠ G := by have := WW.out.2.2.2.2; omega
     have g1 : IntKind.i64.wrap ((q : Int) + 1) = (q1 : Int) := by simp only [IntKind.wrap, IntKind.bits, IntKind.signed]; simp; omega
     have g2 : (q : Int) + 1 = (q1 : Int) := by omega
     have g3 : IntKind.i64.wrap (51 - (f : Int)) = (s : Int) := by simp only [IntKind.wrap, IntKind.bits, IntKind.signed]; simp; omega
     have g4 : (51 - (f : Int)) = (s : Int) := by omega
     have g5 : (q1 : Int) < 5 := by omega
     have g6 : (0 : Int) ≤ (q1 : Int) := by omega
     have g7 : (0 : Int) ≤ (s : Int) := by omega
     have g8 : IntKind.i64.wrap (q1 : Int) = (q1 : Int) := by simp only [IntKind.wrap, IntKind.bits, IntKind.signed]; simp; omega
     have g9 : IntKind.i64.wrap (s : Int) = (s : Int) := by simp only [IntKind.wrap, IntKind.bits, IntKind.signed]; simp; omega
     rw [g2] at hC
     have HY : Hid (q + 1 = q1 ∧ 51 - f = s ∧ (digs x).getD q1 0 = Y ∧ 43 < f ∧ q < 4) := ⟨hq1, hs, hY, by omega, by omega⟩
     clear hq1 hs hY hq hf hX hZ hblk hkp
     go_wp2_with fail
     go_region_with fail
     go_wp2_with fail
     all_goals (
     go_roundw
     case rel =>
      have e := byte_two x HX.out k q f s hlt HQ.out.2.2.1 HQ.out.2.2.2.1 HY.out.2.1 HY.out.2.2.2.1 HY.out.2.2.2.2
      rw [HQ.out.2.2.2.2, HY.out.1, HY.out.2.2.1] at e
      have R := ((HQ.out.1.set k (.int .u8 (X / 2 ^ f % 256))).set k (.int .u8 (bits BinOp.or IntKind.u8 (X / 2 ^ f % 256) (IntKind.u64.wrap (Y * 2 ^ s) % 256)))).drew
      rw [List.set_set, u8s_set, e, byK_set _ (leB_length _ _) k hlt] at R
      rw [e]
      exact ⟨k + 1, by omega, by go_num, R, ((HQ.out.2.1.setCell rfl _).setCell rfl _).drewN 1⟩
     case measure => simp [intOf]; omega)
    ·clear hq hf hX hZ hblk hkp
     go_wp2_with fail
     go_roundw
     case rel =>
      have e := byte_one x HX.out k q f hlt HQ.out.2.2.1 HQ.out.2.2.2.1 (by omega)
      rw [HQ.out.2.2.2.2] at e
      have R := HQ.out.1.set k (.int .u8 (X / 2 ^ f % 256))
      rw [u8s_set, e, byK_set _ (leB_length _ _) k hlt] at R
      rw [e]
      exact ⟨k + 1, by omega, by go_num, R, HQ.out.2.1.setCell rfl _⟩
     case measure => simp [intOf]; omega
   ·clear hq hf hX hZ hblk hkp
    go_wp2_with fail
    go_roundw
    case rel =>
     have e := byte_one x HX.out k q f hlt HQ.out.2.2.1 HQ.out.2.2.2.1 (by omega)
     rw [HQ.out.2.2.2.2] at e
     have R := HQ.out.1.set k (.int .u8 (X / 2 ^ f % 256))
     rw [u8s_set, e, byK_set _ (leB_length _ _) k hlt] at R
     rw [e]
     exact ⟨k + 1, by omega, by go_num, R, HQ.out.2.1.setCell rfl _⟩
    case measure => simp [intOf]; omega
  ·have hk5 : k = 32 := by omega
   have i1 : ¬ ((k : Int) < 32) := by omega
   have X1 : Hid (Blk wr G 22 (u8s (leB 32 x)) ∧ Blk wr (w.heap.size + 1) 22 (u8s (List.replicate 32 0)) ∧ Below w.heap.size w wr ∧ (u8s (leB 32 x)).length = 32) := ⟨by rw [hk5, byK_all _ (leB_length _ _)] at hblk; exact hblk, WW.out.2.2.1.kept hkp (by have := WW.out.2.2.2.2; omega), below_kept WW.out.1 hkp WW.out.1.size (fun j hj => by have := WW.out.2.2.2.2; omega), by rw [u8s_length, leB_length]⟩
   clear hblk hkp hk5 hlt hk
   go_wp2_with (first | (refine wpList_load_blk rfl 22 _ rfl G rfl (u8s (leB 32 x)) _ X1.out.1 Tryz.underlying22 rfl (by rw [X1.out.2.2.2]; exact size32) ?_) | (refine wpList_store_blk rfl 22 22 _ _ rfl _ rfl _ (u8s (leB 32 x)) rfl X1.out.2.1 (by rw [X1.out.2.2.2]; rfl) (by rw [X1.out.2.2.2]; exact size32) (u8s_one _) ?_; intro w6 b6 s6 k6))
   exact ret_blk rfl (w.heap.size + 1) (u8s (leB 32 x)) _ rfl b6 Tryz.underlying22 rfl (by rw [X1.out.2.2.2]; exact size32) rfl ⟨rfl, below_kept X1.out.2.2.1 k6 X1.out.2.2.1.size (fun j hj => by omega)⟩
end Go.Proofs.YthlbjkfjkggdoaaGreatDoor
