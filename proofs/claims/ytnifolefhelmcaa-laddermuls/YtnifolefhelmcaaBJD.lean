import Derived.Test.YtnifolefhelmcaaRInvT
import Derived.Test.YtnifolefhelmcaaBJA
import Derived.Test.YtnifolefhelmcaaRInv
import Derived.Test.YtnifolefhelmcaaBJC
namespace Go.Proofs.Ytnifolefhelmcaa
open Go.RowKit
set_option linter.unusedVariables false
set_option linter.unusedSimpArgs false
def chainGOps (ops : Array Oper) : Bool :=
  (List.range (ops.size - 1)).all (fun j => ((ops[j]?).map (fun o => (match o.guard with | none => true | some (k, _) => decide (k + 1 < ops.size) && o.after.any (fun e => Region.binds .any e && e.on == k)) && o.dst.isSome)).getD false) &&
  (List.range (ops.size - 1)).all (fun j => (List.range (ops.size - 1)).all fun k => j == k || ((ops[j]?).bind (·.dst)) != ((ops[k]?).bind (·.dst))) &&
  ((ops[ops.size - 1]?).map (fun o => o.guard.isNone && (List.range (ops.size - 1)).all (fun k => leansOn ops ops.size (ops.size - 1) k))).getD false &&
  (List.range ops.size).all (fun j => ((ops[j]?).map (fun o => o.after.all fun e => !Region.binds .any e || decide (e.on < j))).getD false)
theorem region_invGT {id : Nat} {ops : Array Oper} {Q : Exit → Act → World → Prop} {a0 : Act} {w0 : World} (E : List Exp) (hm : Try.prog.follows .mixedOrders = true) (hp : chainGOps ops = true) (hG : Gds E ops.toList)
    (hin : (List.range (ops.size - 1)).all (fun j => ((ops[j]?).map (fun o => (o.dst.map (fun t => decide (t < a0.tmps.size))).getD false)).getD false) = true)
    (hs : Steps' w0.heap.size ops E a0 w0 0 ops.toList) (he : ∀ w, Below w0.heap.size w0 w → Ends w0.heap.size E Q w 0 ops.toList a0) : (Code.region id ops true).wp Try.prog Q a0 w0 := by
  simp only [chainGOps, Bool.and_eq_true] at hp
  obtain ⟨⟨⟨hp1, hp2⟩, hp3⟩, hp4⟩ := hp
  have hne : ops.size - 1 < ops.size := by
    rcases Nat.eq_zero_or_pos ops.size with h | h
    · rw [Array.getElem?_eq_none (by omega)] at hp3; simp at hp3
    · omega
  have own : ∀ j o, ops[j]? = some o → j + 1 < ops.size → (∀ k b, o.guard = some (k, b) → k + 1 < ops.size ∧ o.after.any (fun e => Region.binds .any e && e.on == k) = true) ∧ ∃ t, o.dst = some t ∧ t < a0.tmps.size := by
    intro j o ho hj
    have h1 := range_all hp1 j (by omega)
    have h2 := range_all hin j (by omega)
    simp only [ho, Option.map_some, Option.getD_some, Bool.and_eq_true] at h1 h2
    obtain ⟨t, ht⟩ := Option.isSome_iff_exists.1 h1.2
    rw [ht] at h2
    refine ⟨fun k b hg => ?_, t, ht, by simpa using h2⟩
    have h3 := h1.1
    rw [hg] at h3
    simpa using h3
  have apart : ∀ j k o o' t, ops[j]? = some o → ops[k]? = some o' → j + 1 < ops.size → k + 1 < ops.size → o.dst = some t → o'.dst = some t → j = k := by
    intro j k o o' t ho ho' hj hk ht ht'
    have h1 := range_all (range_all hp2 j (by omega)) k (by omega)
    simp only [ho, ho', Option.bind_some, ht, ht', Bool.or_eq_true, beq_iff_eq] at h1
    rcases h1 with h1 | h1
    · exact h1
    · simp at h1
  refine wp_region_noPanic (wp_region_any hm ?_)
  have main : ∀ (n : Nat) (l : Array Bool) (a : Act) (w : World), l.size = ops.size → Below w0.heap.size w0 w → a.tmps.size = a0.tmps.size → a.defers = a0.defers →
      l.getD (ops.size - 1) true = false →
      (∀ t, (∀ j o, ops[j]? = some o → j + 1 < ops.size → o.dst = some t → l.getD j true = false) → a.tmps.getD t undef = a0.tmps.getD t undef) →
      (∀ j o t, ops[j]? = some o → j + 1 < ops.size → o.dst = some t → l.getD j true = true → (E.getD j (.val undef)).ok w0.heap.size (a.tmps.getD t undef) w) →
      (∀ j o, ops[j]? = some o → l.getD j true = true → ∀ x ∈ o.after, Region.binds .any x = true → l.getD x.on true = true) →
      ((List.range ops.size).filter fun i => !l.getD i true).length ≤ n →
      wpAny Try.prog .any ops (NoPanic Q) n l a w := by
    intro n
    induction n with
    | zero =>
      intro l a w hl hb hsz hdf hlast hold hnew hcl hc
      have : ops.size - 1 ∈ (List.range ops.size).filter fun i => !l.getD i true := List.mem_filter.2 ⟨List.mem_range.2 hne, by rw [hlast]; rfl⟩
      have := List.length_pos_of_mem this
      omega
    | succ n ih =>
      intro l a w hl hb hsz hdf hlast hold hnew hcl hc
      have hcount : ∀ i, i < ops.size → l.getD i true = false → ((List.range ops.size).filter fun k => !(l.setIfInBounds i true).getD k true).length ≤ n := by
        intro i hi hli
        have hlt : ((List.range ops.size).filter fun k => !(l.setIfInBounds i true).getD k true).length < ((List.range ops.size).filter fun k => !l.getD k true).length := by
          have e : ((List.range ops.size).filter fun k => !(l.setIfInBounds i true).getD k true) = ((List.range ops.size).filter fun k => !l.getD k true).filter (fun k => k != i) := by
            rw [List.filter_filter]
            refine List.filter_congr fun k hk => ?_
            by_cases hki : k = i
            · subst hki; simp [Array.getD, hl, hi]
            · rw [getD_set_ne true (Ne.symm hki)]; simp [hki]
          rw [e]
          refine List.length_filter_lt_length_iff_exists.2 ⟨i, List.mem_filter.2 ⟨List.mem_range.2 hi, by rw [hli]; rfl⟩, by simp⟩
        omega
      refine ⟨fun h0 => ?_, fun i hi => ?_⟩
      · exfalso
        obtain ⟨i, h1, h2, h3⟩ := least_false (fun k => l.getD k true) (ops.size - 1) hlast
        have hi : i < ops.size := by omega
        have : i ∈ Region.ready .any ops l := by
          refine mem_ready.2 ⟨h2, ops[i], by simp [hi], fun e he hbd => ?_⟩
          have h4 := range_all hp4 i hi
          simp only [Array.getElem?_eq_getElem hi, Option.map_some, Option.getD_some] at h4
          have h5 := Array.all_eq_true_iff_forall_mem.1 h4 e he
          simp only [hbd, Bool.not_true, Bool.false_or, decide_eq_true_eq] at h5
          have h6 := h3 e.on h5
          simp only [Array.getD] at h6 ⊢
          rw [dif_pos (by omega)] at h6 ⊢
          exact h6
        rw [h0] at this
        cases this
      · obtain ⟨hun, o, ho, hall⟩ := mem_ready.1 hi
        have hilt : i < ops.size := (Array.getElem?_eq_some_iff.1 ho).1
        by_cases hil : i + 1 < ops.size
        · obtain ⟨hgd, t, hdt, htl⟩ := own i o ho hil
          have hdo := Steps'.at hs i o (by simpa using ho) (by simpa using hil) a w hb (fun t' ht' => hold t' fun j oj hoj hj hdj => by
              have := range_all ht' j (by omega)
              simp only [hoj, Option.bind_some, hdj] at this
              simp at this) (fun k t' hk hdep hkl => by
              obtain ⟨ok, hok⟩ : ∃ ok, ops[k]? = some ok := ⟨ops[k]'(by omega), by simp⟩
              rw [hok] at hk
              refine hnew k ok t' hok hkl hk ?_
              rw [Nat.zero_add, ho] at hdep
              simp only [Option.map_some, Option.getD_some, Array.any_eq_true, Bool.and_eq_true, beq_iff_eq] at hdep
              obtain ⟨x, hx, hbd, hon⟩ := hdep
              have := hall _ (Array.getElem_mem hx) hbd
              rw [hon] at this
              simp only [Array.getD] at this ⊢
              rw [dif_pos (by omega)] at this ⊢
              exact this)
          rw [Nat.zero_add] at hdo
          have hwant : Region.wanted o (yielded ops a.tmps) = true := by
            cases hg : o.guard with
            | none => simp [Region.wanted, hg]
            | some kb =>
              obtain ⟨k, b⟩ := kb
              obtain ⟨hk1, hk2⟩ := hgd k b hg
              obtain ⟨ok, hok⟩ : ∃ ok, ops[k]? = some ok := ⟨ops[k]'(by omega), by simp⟩
              obtain ⟨_, tk, htk, htl'⟩ := own k ok hok hk1
              simp only [Array.any_eq_true, Bool.and_eq_true, beq_iff_eq] at hk2
              obtain ⟨x, hx, hbd, hon⟩ := hk2
              have h1 := hall _ (Array.getElem_mem hx) hbd
              rw [hon] at h1
              have h2 : l.getD k true = true := by
                simp only [Array.getD] at h1 ⊢
                rw [dif_pos (by omega)] at h1 ⊢
                exact h1
              have h3 := hnew k ok tk hok hk1 htk h2
              rw [Gds.at hG i o (by simpa using ho) k b hg] at h3
              have h4 : a.tmps.getD tk undef = .bool b := h3
              have h5 : a.tmps[tk]? = some (.bool b) := by
                have hlt : tk < a.tmps.size := by omega
                simp only [Array.getD, hlt, dif_pos] at h4
                rw [Array.getElem?_eq_getElem hlt]
                exact congrArg some h4
              simp [Region.wanted, hg, yielded, hok, htk, h5]
          unfold wpOp
          rw [ho]
          simp only [hwant, if_true]
          refine .inl (hdo.wp fun v w' hv hbw => ?_)
          rw [hdt]
          refine ih _ _ _ (by simpa using hl) (below_chain hb hbw hb.size) (by simpa [Act.put] using hsz) (by simpa [Act.put] using hdf) ?_ ?_ ?_ ?_ (hcount i hilt hun)
          · rw [getD_set_ne true (by omega)]; exact hlast
          · intro t' ht'
            have htt : t ≠ t' := fun e => by
              have := ht' i o ho hil (by rw [hdt, e])
              simp [Array.getD, hl, hilt] at this
            simp only [Act.put, Array.getD_eq_getD_getElem?, Array.getElem?_setIfInBounds, if_neg htt]
            rw [← Array.getD_eq_getD_getElem?, ← Array.getD_eq_getD_getElem?]
            refine hold t' fun j oj hoj hj hdj => ?_
            have h1 := ht' j oj hoj hj hdj
            by_cases hji : i = j
            · subst hji; exact hun
            · rwa [getD_set_ne true hji] at h1
          · intro j oj t' hoj hj hdj hlj
            by_cases hji : i = j
            · subst hji
              rw [ho] at hoj
              cases hoj
              rw [hdt] at hdj
              cases hdj
              have : (a.put (some t) v).tmps.getD t undef = v := by simp [Act.put, Array.getD, hsz, htl]
              rw [this]; exact hv
            · rw [getD_set_ne true hji] at hlj
              have htt : t ≠ t' := fun e => hji (apart i j o oj t ho hoj hil hj hdt (by rw [hdj, e]))
              have h1 := hnew j oj t' hoj hj hdj hlj
              have : (a.put (some t) v).tmps.getD t' undef = a.tmps.getD t' undef := by
                simp only [Act.put, Array.getD_eq_getD_getElem?, Array.getElem?_setIfInBounds, if_neg htt]
              rw [this]
              exact Exp.ok_later _ hbw h1
          · intro j oj hoj hlj x hx hbx
            have hdone : l.getD x.on true = true := by
              by_cases hji : i = j
              · subst hji
                rw [ho] at hoj
                cases hoj
                have := hall _ hx hbx
                by_cases hxl : x.on < l.size
                · simp only [Array.getD] at this ⊢
                  rw [dif_pos hxl] at this ⊢
                  exact this
                · simp [Array.getD, hxl]
              · rw [getD_set_ne true hji] at hlj
                exact hcl j oj hoj hlj x hx hbx
            by_cases hxi : i = x.on
            · rw [← hxi, hun] at hdone; cases hdone
            · rw [getD_set_ne true hxi]; exact hdone
        · obtain rfl : i = ops.size - 1 := by omega
          simp only [ho, Option.map_some, Option.getD_some, Bool.and_eq_true] at hp3
          have hlisted : ∀ k, k + 1 < ops.size → l.getD k true = true := by
            intro k hk
            have h1 := range_all hp3.2 k (by omega)
            refine behind_done hcl (fun x hx hbx => ?_) ho h1
            have := hall _ hx hbx
            by_cases hxl : x.on < l.size
            · simp only [Array.getD] at this ⊢
              rw [dif_pos hxl] at this ⊢
              exact this
            · simp [Array.getD, hxl]
          obtain ⟨o', ho', hw⟩ := Ends.at a (l := ops.toList) (j := 0) (a := a0) (fun h => by rw [Array.toList_eq_nil_iff] at h; subst h; simp at hne) (he w hb) (fun k ok hk hkl => by
            have hk' : ops[k]? = some ok := by simpa using hk
            have hkl' : k + 1 < ops.size := by simpa using hkl
            obtain ⟨_, t, hdt, htl⟩ := own k ok hk' hkl'
            refine ⟨t, hdt, ?_⟩
            rw [Nat.zero_add]
            exact hnew k ok t hk' hkl' hdt (hlisted k hkl'))
          have hoo : o' = o := by
            rw [List.getLast?_eq_getElem?] at ho'
            have h2 : ops[ops.size - 1]? = some o' := by simpa using ho'
            rw [ho] at h2
            exact (Option.some.inj h2).symm
          subst hoo
          have hfill : fills a ops.toList a0 = a := by
            have hz := fills_size a ops.toList a0
            refine act_ext (by rw [hz.1, hsz]) (fun t => ?_) (by rw [hz.2, hdf])
            refine fills_slot a t ops.toList a0 hsz ?_
            by_cases hx : ∃ k ok, ops[k]? = some ok ∧ k + 1 < ops.size ∧ ok.dst = some t
            · obtain ⟨k, ok, h1, h2, h3⟩ := hx
              exact .inr ⟨k, ok, by simpa using h1, by simpa using h2, h3⟩
            · exact .inl (hold t fun j oj hoj hj hdj => absurd ⟨j, oj, hoj, hj, hdj⟩ hx)
          rw [hfill] at hw
          unfold wpOp
          rw [ho]
          simp only [wanted_plain hp3.1, if_true]
          refine .inl (Oper.wp_mono (fun a' w' hq => wpAny_done ?_ (NoPanic.normal hq) _) hw)
          refine List.filter_eq_nil_iff.2 fun k hk => ?_
          have hk' : k < ops.size := List.mem_range.1 hk
          have : (l.setIfInBounds (ops.size - 1) true).getD k true = true := by
            by_cases hkl : k + 1 < ops.size
            · rw [getD_set_ne true (by omega)]; exact hlisted k hkl
            · obtain rfl : k = ops.size - 1 := by omega
              simp [Array.getD, hl, hne]
          rw [this]; simp
  refine main _ _ _ _ (by simp) ⟨rfl, rfl, rfl, Nat.le_refl _, fun _ _ => rfl⟩ rfl rfl (by simp [Array.getD, hne]) (fun t _ => rfl) (fun j o t ho hj hd hl => ?_) (fun j o ho hl => ?_) ?_
  · exfalso
    have : j < ops.size := by omega
    simp [Array.getD, this] at hl
  · exfalso
    have : j < ops.size := (Array.getElem?_eq_some_iff.1 ho).1
    simp [Array.getD, this] at hl
  · have := List.length_filter_le (fun i => !(Array.replicate ops.size false).getD i true) (List.range ops.size)
    simpa using this
end Go.Proofs.Ytnifolefhelmcaa

namespace Go.Proofs.Ytnifolefhelmcaa
open Go.RowKit
theorem last_value {o : Oper} {a : Act} {w : World} {K : Act → World → Prop} {Q : Exit → Act → World → Prop} (d : Option Tmp) (hdst : o.dst = d) (v : Value) (hv : (execOp a.eval o).run Try.prog w = .ok (.value v) w) (h : K (a.put d v) w) : o.wp Try.prog a w K Q := by
  subst hdst
  unfold Oper.wp
  rw [hv]
  exact h
end Go.Proofs.Ytnifolefhelmcaa

namespace Go.Proofs.Ytnifolefhelmcaa
open Go.RowKit
set_option linter.unusedVariables false
set_option linter.unusedSimpArgs false

set_option maxRecDepth 20000 in
set_option maxHeartbeats 8000000 in
theorem muls_any (ks us : List Int) (lk : ks.length = 32) (bk : Bytes ks) (lu : us.length = 32) (bu : Bytes us) (w : World) :
    Calls Try.prog 7 #[.agg (u8s ks).toArray, .agg (u8s us).toArray] w fun e w' => e = .returned (.bool true) ∧ Below w.heap.size w w' := by
  have A1 := qagree_any ks us lk bk lu bu
  have A2 := agree_any ks us lk bk lu bu
  have C1 := clamp_any ks lk bk
  have C2 := qclamp_any ks lk bk
  have M1 := lmul_any ks us lk bk lu bu
  have B1 := base_any ks lk bk
  have B2 := qbase_any ks lk bk
  have NC : (clampL ks).length = 32 := by rw [clampL_length]; exact lk
  have NZ : (prodL ks us).length = 32 := prodL_length _ _
  have NB : (prodL ks nineL).length = 32 := prodL_length _ _
  obtain ⟨Z, hZ⟩ : ∃ z, prodL ks us = z := ⟨_, rfl⟩
  obtain ⟨C, hC⟩ : ∃ z, clampL ks = z := ⟨_, rfl⟩
  obtain ⟨B, hB⟩ : ∃ z, prodL ks nineL = z := ⟨_, rfl⟩
  obtain ⟨Y, hY⟩ : ∃ z, validN ks us = z := ⟨_, rfl⟩
  rw [hZ] at A1 A2 M1 NZ
  rw [hY] at A1 A2
  rw [hC] at C1 C2 NC
  rw [hB] at B1 B2 NB
  have qc : ∀ wx, (Op.equalIn 10000 58 (.agg (u8s C).toArray) (.agg (u8s C).toArray)).run Try.prog wx = .ok true wx := equal32A 58 32 Try.underlying58 9998 _ NC
  have qz : ∀ wx, (Op.equalIn 10000 58 (.agg (u8s Z).toArray) (.agg (u8s Z).toArray)).run Try.prog wx = .ok true wx := equal32A 58 32 Try.underlying58 9998 _ NZ
  have qb : ∀ wx, (Op.equalIn 10000 58 (.agg (u8s B).toArray) (.agg (u8s B).toArray)).run Try.prog wx = .ok true wx := equal32A 58 32 Try.underlying58 9998 _ NB
  have HL : Hid ((u8s ks).length = 32 ∧ (u8s us).length = 32 ∧ (u8s Z).length = 32) := ⟨by rw [u8s_length, lk], by rw [u8s_length, lu], by rw [u8s_length, NZ]⟩
  clear lk bk lu bu hZ hC hB hY NC NZ NB
  go_enter Try.func7, Try.ntmps7
  go_wp2_with (first | (refine wpList_box_new rfl 58 (.tmp 0) rfl (u8s ks) rfl ?_; intro x0 z0 s0 l0) | (refine wpList_box_new rfl 58 (.tmp 1) rfl (u8s us) rfl ?_; intro x1 z1 s1 l1; have z1q := z1; rw [s0] at z1; have a0 := z0.later l1 (by omega)) | ((with_reducible show wpList _ _ _ (({ dst := some 10, op := _, type := _, pos := _, after := _, guard := _ } : Oper) :: _) _ _); refine wpList_load_blk rfl 58 (.tmp 2) rfl w.heap.size rfl (u8s ks) _ a0 Try.underlying58 rfl (by rw [HL.out.1]; exact sizeKey) ?_) | ((with_reducible show wpList _ _ _ (({ dst := some 11, op := _, type := _, pos := _, after := _, guard := _ } : Oper) :: _) _ _); refine wpList_load_blk rfl 58 (.tmp 3) rfl (w.heap.size + 1) rfl (u8s us) _ z1 Try.underlying58 rfl (by rw [HL.out.2.1]; exact sizeKey) ?_) | ((with_reducible show wpList _ _ _ (({ dst := some 11, op := _, type := _, pos := _, after := _, guard := _ } : Oper) :: _) _ _); refine wpList_load_blk rfl 58 (.tmp 3) rfl x0.heap.size rfl (u8s us) _ z1q Try.underlying58 rfl (by rw [HL.out.2.1]; exact sizeKey) ?_) | (go_at_call 35; refine (A1 _).mono ?_; rintro e x2 ⟨rfl, l2⟩) | ((with_reducible show wpList _ _ _ (({ dst := some 5, op := _, type := _, pos := _, after := _, guard := _ } : Oper) :: _) _ _); refine wpList_alloc_new rfl 58 rfl 32 _ zeroKey ?_; intro x3 z3 s3 l3) | ((with_reducible show wpList _ _ _ (({ dst := none, op := .store _ (.tmp 5) (.tmp 13), type := _, pos := _, after := _, guard := _ } : Oper) :: _) _ _); refine wpList_store_blk rfl 58 58 _ _ rfl _ rfl _ (u8s Z) rfl z3 (by rw [HL.out.2.2]; rfl) (by rw [HL.out.2.2]; exact sizeKey) (u8s_one _) ?_; intro x4 z4 s4 k4; have q2 := l2.size; have a4 := ((a0.later l2 (by omega)).later l3 (by omega)).kept k4 (by omega); have c4 := ((z1.later l2 (by omega)).later l3 (by omega)).kept k4 (by omega)) | ((with_reducible show wpList _ _ _ (({ dst := some 16, op := _, type := _, pos := _, after := _, guard := _ } : Oper) :: _) _ _); refine wpList_load_blk rfl 58 (.tmp 2) rfl w.heap.size rfl (u8s ks) _ a4 Try.underlying58 rfl (by rw [HL.out.1]; exact sizeKey) ?_) | ((with_reducible show wpList _ _ _ (({ dst := some 17, op := _, type := _, pos := _, after := _, guard := _ } : Oper) :: _) _ _); refine wpList_load_blk rfl 58 (.tmp 3) rfl (w.heap.size + 1) rfl (u8s us) _ c4 Try.underlying58 rfl (by rw [HL.out.2.1]; exact sizeKey) ?_) | (go_at_call 36; refine (A2 _).mono ?_; rintro e x5 ⟨rfl, l5⟩) | ((with_reducible show wpList _ _ _ (({ dst := some 7, op := _, type := _, pos := _, after := _, guard := _ } : Oper) :: _) _ _); refine wpList_alloc_new rfl 58 rfl 32 _ zeroKey ?_; intro x6 z6 s6 l6) | ((with_reducible show wpList _ _ _ (({ dst := none, op := .store _ (.tmp 7) (.tmp 19), type := _, pos := _, after := _, guard := _ } : Oper) :: _) _ _); refine wpList_store_blk rfl 58 58 _ _ rfl _ rfl _ (u8s Z) rfl z6 (by rw [HL.out.2.2]; rfl) (by rw [HL.out.2.2]; exact sizeKey) (u8s_one _) ?_; intro x7 z7 s7 k7))
  obtain ⟨gz, hgz⟩ : ∃ q, x2.heap.size = q := ⟨_, rfl⟩
  obtain ⟨gy, hgy⟩ : ∃ q, x5.heap.size = q := ⟨_, rfl⟩
  have V0 : Hid (Below w.heap.size w x7 ∧ Blk x7 w.heap.size 58 (u8s ks) ∧ Blk x7 (w.heap.size + 1) 58 (u8s us) ∧ Blk x7 gz 58 (u8s Z) ∧ Blk x7 gy 58 (u8s Z)) := by
    have q5 := l5.size
    have q4 := z4.lt
    have e3 := s3
    have e4 := s4
    rw [hgz] at z4 k4 e3 q4
    rw [hgy] at z7 k7
    exact ⟨below_kept (below_chain (below_chain (below_kept (below_chain (below_chain (below_chain l0 l1 (by omega)) l2 (by omega)) l3 (by omega)) k4 (by omega) (fun j hj => by omega)) l5 (by omega)) l6 (by omega)) k7 (by omega) (fun j hj => by omega), ((a4.later l5 (by omega)).later l6 (by omega)).kept k7 (by omega), ((c4.later l5 (by omega)).later l6 (by omega)).kept k7 (by omega), ((z4.later l5 (by omega)).later l6 (by omega)).kept k7 (by omega), z7⟩
  try simp only [Act.put, List.setIfInBounds_toArray, List.set_cons_zero, List.set_cons_succ, s0, hgz, hgy]
  clear z0 s0 l0 z1 z1q s1 l1 a0 l2 z3 s3 l3 z4 s4 k4 q2 a4 c4 l5 z6 s6 l6 z7 s7 k7 hgz hgy A1 A2
  refine region_invG ((.val (.agg (u8s ks).toArray)) :: (.val (.agg (u8s C).toArray)) :: (.val (.agg (u8s ks).toArray)) :: (.val (.agg (u8s C).toArray)) :: (.val (.bool true)) :: (.val (.bool true)) :: (.val (.agg (u8s ks).toArray)) :: (.val (.agg (u8s us).toArray)) :: (.val (.agg (u8s Z).toArray)) :: (.val (.agg (u8s Z).toArray)) :: (.val (.bool true)) :: (.val (.bool true)) :: (.val (.bool true)) :: (.val (.agg (u8s Z).toArray)) :: (.val (.agg (u8s Z).toArray)) :: (.val (.bool true)) :: (.val (.bool true)) :: (.val (.bool true)) :: (.val (.int .u64 Y)) :: (.val (.int .u64 Y)) :: (.val (.bool true)) :: (.val (.bool true)) :: (.val (.bool true)) :: (.val (.agg (u8s ks).toArray)) :: (.val (.agg (u8s B).toArray)) :: (.val (.agg (u8s ks).toArray)) :: (.val (.agg (u8s B).toArray)) :: (.val (.bool true)) :: (.val (.bool true)) :: (.val (.bool true)) :: (.val (.bool true)) :: (.val (.bool true)) :: []) (by kernel_rfl) (by kernel_rfl) (by repeat (first | exact trivial | (refine ⟨by first | trivial | rfl, ?_⟩))) (by kernel_rfl) ?_ ?_
  · refine Steps'.cons ?_ (Steps'.cons ?_ (Steps'.cons ?_ (Steps'.cons ?_ (Steps'.cons ?_ (Steps'.cons ?_ (Steps'.cons ?_ (Steps'.cons ?_ (Steps'.cons ?_ (Steps'.cons ?_ (Steps'.cons ?_ (Steps'.cons ?_ (Steps'.cons ?_ (Steps'.cons ?_ (Steps'.cons ?_ (Steps'.cons ?_ (Steps'.cons ?_ (Steps'.cons ?_ (Steps'.cons ?_ (Steps'.cons ?_ (Steps'.cons ?_ (Steps'.cons ?_ (Steps'.cons ?_ (Steps'.cons ?_ (Steps'.cons ?_ (Steps'.cons ?_ (Steps'.cons ?_ (Steps'.cons ?_ (Steps'.cons ?_ (Steps'.cons ?_ (Steps'.cons ?_ (Steps'.cons ?_ (Steps'.one _ _ _ _ _ _ _))))))))))))))))))))))))))))))))
    · intro ax wx hb hs hd
      have h2 : ax.tmps.getD 2 undef = (.pointer (some ⟨w.heap.size, 0, none⟩)) := hs 2 (by kernel_rfl)
      exact Does.load 58 (.tmp 2) rfl w.heap.size 0 h2 (u8s ks) _ ((Blk.later V0.out.2.1 hb (Blk.lt V0.out.2.1)).whole) Try.underlying58 rfl (by rw [HL.out.1]; exact sizeKey)
    · intro ax wx hb hs hd
      have h21 : ax.tmps.getD 21 undef = (.agg (u8s ks).toArray) := hd 0 21 rfl (by kernel_rfl) (by decide)
      refine Does.call 37 #[(.agg (u8s ks).toArray)] (by clear hs hd; go_simp) ?_
      refine (C1 _).mono ?_
      rintro z w' ⟨rfl, l⟩
      exact ⟨_, rfl, rfl, l⟩
    · intro ax wx hb hs hd
      have h2 : ax.tmps.getD 2 undef = (.pointer (some ⟨w.heap.size, 0, none⟩)) := hs 2 (by kernel_rfl)
      exact Does.load 58 (.tmp 2) rfl w.heap.size 0 h2 (u8s ks) _ ((Blk.later V0.out.2.1 hb (Blk.lt V0.out.2.1)).whole) Try.underlying58 rfl (by rw [HL.out.1]; exact sizeKey)
    · intro ax wx hb hs hd
      have h23 : ax.tmps.getD 23 undef = (.agg (u8s ks).toArray) := hd 2 23 rfl (by kernel_rfl) (by decide)
      refine Does.call 38 #[(.agg (u8s ks).toArray)] (by clear hs hd; go_simp) ?_
      refine (C2 _).mono ?_
      rintro z w' ⟨rfl, l⟩
      exact ⟨_, rfl, rfl, l⟩
    · intro ax wx hb hs hd
      have h22 : ax.tmps.getD 22 undef = (.agg (u8s C).toArray) := hd 1 22 rfl (by kernel_rfl) (by decide)
      have h24 : ax.tmps.getD 24 undef = (.agg (u8s C).toArray) := hd 3 24 rfl (by kernel_rfl) (by decide)
      refine Does.value (.bool true) ?_ rfl
      clear hs hd
      go_simp
    · intro ax wx hb hs hd
      have h25 : ax.tmps.getD 25 undef = (.bool true) := hd 4 25 rfl (by kernel_rfl) (by decide)
      refine Does.value (.bool true) ?_ rfl
      clear hs hd
      go_simp
    · intro ax wx hb hs hd
      have h2 : ax.tmps.getD 2 undef = (.pointer (some ⟨w.heap.size, 0, none⟩)) := hs 2 (by kernel_rfl)
      exact Does.load 58 (.tmp 2) rfl w.heap.size 0 h2 (u8s ks) _ ((Blk.later V0.out.2.1 hb (Blk.lt V0.out.2.1)).whole) Try.underlying58 rfl (by rw [HL.out.1]; exact sizeKey)
    · intro ax wx hb hs hd
      have h3 : ax.tmps.getD 3 undef = (.pointer (some ⟨(w.heap.size + 1), 0, none⟩)) := hs 3 (by kernel_rfl)
      exact Does.load 58 (.tmp 3) rfl (w.heap.size + 1) 0 h3 (u8s us) _ ((Blk.later V0.out.2.2.1 hb (Blk.lt V0.out.2.2.1)).whole) Try.underlying58 rfl (by rw [HL.out.2.1]; exact sizeKey)
    · intro ax wx hb hs hd
      have h27 : ax.tmps.getD 27 undef = (.agg (u8s ks).toArray) := hd 6 27 rfl (by kernel_rfl) (by decide)
      have h28 : ax.tmps.getD 28 undef = (.agg (u8s us).toArray) := hd 7 28 rfl (by kernel_rfl) (by decide)
      refine Does.call 32 #[(.agg (u8s ks).toArray), (.agg (u8s us).toArray)] (by clear hs hd; go_simp) ?_
      refine (M1 _).mono ?_
      rintro z w' ⟨rfl, l⟩
      exact ⟨_, rfl, rfl, l⟩
    · intro ax wx hb hs hd
      have h5 : ax.tmps.getD 5 undef = (.pointer (some ⟨gz, 0, none⟩)) := hs 5 (by kernel_rfl)
      exact Does.load 58 (.tmp 5) rfl gz 0 h5 (u8s Z) _ ((Blk.later V0.out.2.2.2.1 hb (Blk.lt V0.out.2.2.2.1)).whole) Try.underlying58 rfl (by rw [HL.out.2.2]; exact sizeKey)
    · intro ax wx hb hs hd
      have h29 : ax.tmps.getD 29 undef = (.agg (u8s Z).toArray) := hd 8 29 rfl (by kernel_rfl) (by decide)
      have h30 : ax.tmps.getD 30 undef = (.agg (u8s Z).toArray) := hd 9 30 rfl (by kernel_rfl) (by decide)
      refine Does.value (.bool true) ?_ rfl
      clear hs hd
      go_simp
    · intro ax wx hb hs hd
      have h26 : ax.tmps.getD 26 undef = (.bool true) := hd 5 26 rfl (by kernel_rfl) (by decide)
      have h31 : ax.tmps.getD 31 undef = (.bool true) := hd 10 31 rfl (by kernel_rfl) (by decide)
      refine Does.value (.bool true) ?_ rfl
      clear hs hd
      go_simp
    · intro ax wx hb hs hd
      have h32 : ax.tmps.getD 32 undef = (.bool true) := hd 11 32 rfl (by kernel_rfl) (by decide)
      refine Does.value (.bool true) ?_ rfl
      clear hs hd
      go_simp
    · intro ax wx hb hs hd
      have h7 : ax.tmps.getD 7 undef = (.pointer (some ⟨gy, 0, none⟩)) := hs 7 (by kernel_rfl)
      exact Does.load 58 (.tmp 7) rfl gy 0 h7 (u8s Z) _ ((Blk.later V0.out.2.2.2.2 hb (Blk.lt V0.out.2.2.2.2)).whole) Try.underlying58 rfl (by rw [HL.out.2.2]; exact sizeKey)
    · intro ax wx hb hs hd
      have h5 : ax.tmps.getD 5 undef = (.pointer (some ⟨gz, 0, none⟩)) := hs 5 (by kernel_rfl)
      exact Does.load 58 (.tmp 5) rfl gz 0 h5 (u8s Z) _ ((Blk.later V0.out.2.2.2.1 hb (Blk.lt V0.out.2.2.2.1)).whole) Try.underlying58 rfl (by rw [HL.out.2.2]; exact sizeKey)
    · intro ax wx hb hs hd
      have h34 : ax.tmps.getD 34 undef = (.agg (u8s Z).toArray) := hd 13 34 rfl (by kernel_rfl) (by decide)
      have h35 : ax.tmps.getD 35 undef = (.agg (u8s Z).toArray) := hd 14 35 rfl (by kernel_rfl) (by decide)
      refine Does.value (.bool true) ?_ rfl
      clear hs hd
      go_simp
    · intro ax wx hb hs hd
      have h33 : ax.tmps.getD 33 undef = (.bool true) := hd 12 33 rfl (by kernel_rfl) (by decide)
      have h36 : ax.tmps.getD 36 undef = (.bool true) := hd 15 36 rfl (by kernel_rfl) (by decide)
      refine Does.value (.bool true) ?_ rfl
      clear hs hd
      go_simp
    · intro ax wx hb hs hd
      have h37 : ax.tmps.getD 37 undef = (.bool true) := hd 16 37 rfl (by kernel_rfl) (by decide)
      refine Does.value (.bool true) ?_ rfl
      clear hs hd
      go_simp
    · intro ax wx hb hs hd
      have h8 : ax.tmps.getD 8 undef = (.int .u64 Y) := hs 8 (by kernel_rfl)
      refine Does.value (.int .u64 Y) ?_ rfl
      clear hs hd
      go_simp
    · intro ax wx hb hs hd
      have h6 : ax.tmps.getD 6 undef = (.int .u64 Y) := hs 6 (by kernel_rfl)
      refine Does.value (.int .u64 Y) ?_ rfl
      clear hs hd
      go_simp
    · intro ax wx hb hs hd
      have h39 : ax.tmps.getD 39 undef = (.int .u64 Y) := hd 18 39 rfl (by kernel_rfl) (by decide)
      have h40 : ax.tmps.getD 40 undef = (.int .u64 Y) := hd 19 40 rfl (by kernel_rfl) (by decide)
      refine Does.value (.bool true) ?_ rfl
      clear hs hd
      go_simp
    · intro ax wx hb hs hd
      have h38 : ax.tmps.getD 38 undef = (.bool true) := hd 17 38 rfl (by kernel_rfl) (by decide)
      have h41 : ax.tmps.getD 41 undef = (.bool true) := hd 20 41 rfl (by kernel_rfl) (by decide)
      refine Does.value (.bool true) ?_ rfl
      clear hs hd
      go_simp
    · intro ax wx hb hs hd
      have h42 : ax.tmps.getD 42 undef = (.bool true) := hd 21 42 rfl (by kernel_rfl) (by decide)
      refine Does.value (.bool true) ?_ rfl
      clear hs hd
      go_simp
    · intro ax wx hb hs hd
      have h2 : ax.tmps.getD 2 undef = (.pointer (some ⟨w.heap.size, 0, none⟩)) := hs 2 (by kernel_rfl)
      exact Does.load 58 (.tmp 2) rfl w.heap.size 0 h2 (u8s ks) _ ((Blk.later V0.out.2.1 hb (Blk.lt V0.out.2.1)).whole) Try.underlying58 rfl (by rw [HL.out.1]; exact sizeKey)
    · intro ax wx hb hs hd
      have h44 : ax.tmps.getD 44 undef = (.agg (u8s ks).toArray) := hd 23 44 rfl (by kernel_rfl) (by decide)
      refine Does.call 39 #[(.agg (u8s ks).toArray)] (by clear hs hd; go_simp) ?_
      refine (B1 _).mono ?_
      rintro z w' ⟨rfl, l⟩
      exact ⟨_, rfl, rfl, l⟩
    · intro ax wx hb hs hd
      have h2 : ax.tmps.getD 2 undef = (.pointer (some ⟨w.heap.size, 0, none⟩)) := hs 2 (by kernel_rfl)
      exact Does.load 58 (.tmp 2) rfl w.heap.size 0 h2 (u8s ks) _ ((Blk.later V0.out.2.1 hb (Blk.lt V0.out.2.1)).whole) Try.underlying58 rfl (by rw [HL.out.1]; exact sizeKey)
    · intro ax wx hb hs hd
      have h46 : ax.tmps.getD 46 undef = (.agg (u8s ks).toArray) := hd 25 46 rfl (by kernel_rfl) (by decide)
      refine Does.call 40 #[(.agg (u8s ks).toArray)] (by clear hs hd; go_simp) ?_
      refine (B2 _).mono ?_
      rintro z w' ⟨rfl, l⟩
      exact ⟨_, rfl, rfl, l⟩
    · intro ax wx hb hs hd
      have h45 : ax.tmps.getD 45 undef = (.agg (u8s B).toArray) := hd 24 45 rfl (by kernel_rfl) (by decide)
      have h47 : ax.tmps.getD 47 undef = (.agg (u8s B).toArray) := hd 26 47 rfl (by kernel_rfl) (by decide)
      refine Does.value (.bool true) ?_ rfl
      clear hs hd
      go_simp
    · intro ax wx hb hs hd
      have h43 : ax.tmps.getD 43 undef = (.bool true) := hd 22 43 rfl (by kernel_rfl) (by decide)
      have h48 : ax.tmps.getD 48 undef = (.bool true) := hd 27 48 rfl (by kernel_rfl) (by decide)
      refine Does.value (.bool true) ?_ rfl
      clear hs hd
      go_simp
    · intro ax wx hb hs hd
      have h49 : ax.tmps.getD 49 undef = (.bool true) := hd 28 49 rfl (by kernel_rfl) (by decide)
      refine Does.value (.bool true) ?_ rfl
      clear hs hd
      go_simp
    · intro ax wx hb hs hd
      refine Does.call 34 #[] (by clear hs hd; go_simp) ?_
      refine (works_any _).mono ?_
      rintro z w' ⟨rfl, l⟩
      exact ⟨_, rfl, rfl, l⟩
    · intro ax wx hb hs hd
      have h50 : ax.tmps.getD 50 undef = (.bool true) := hd 29 50 rfl (by kernel_rfl) (by decide)
      have h51 : ax.tmps.getD 51 undef = (.bool true) := hd 30 51 rfl (by kernel_rfl) (by decide)
      refine Does.value (.bool true) ?_ rfl
      clear hs hd
      go_simp
  · intro wx hb
    refine @Ends.val _ _ _ _ _ _ _ _ _ (.agg (u8s ks).toArray) rfl ?_
    refine @Ends.val _ _ _ _ _ _ _ _ _ (.agg (u8s C).toArray) rfl ?_
    refine @Ends.val _ _ _ _ _ _ _ _ _ (.agg (u8s ks).toArray) rfl ?_
    refine @Ends.val _ _ _ _ _ _ _ _ _ (.agg (u8s C).toArray) rfl ?_
    refine @Ends.val _ _ _ _ _ _ _ _ _ (.bool true) rfl ?_
    refine @Ends.val _ _ _ _ _ _ _ _ _ (.bool true) rfl ?_
    refine @Ends.val _ _ _ _ _ _ _ _ _ (.agg (u8s ks).toArray) rfl ?_
    refine @Ends.val _ _ _ _ _ _ _ _ _ (.agg (u8s us).toArray) rfl ?_
    refine @Ends.val _ _ _ _ _ _ _ _ _ (.agg (u8s Z).toArray) rfl ?_
    refine @Ends.val _ _ _ _ _ _ _ _ _ (.agg (u8s Z).toArray) rfl ?_
    refine @Ends.val _ _ _ _ _ _ _ _ _ (.bool true) rfl ?_
    refine @Ends.val _ _ _ _ _ _ _ _ _ (.bool true) rfl ?_
    refine @Ends.val _ _ _ _ _ _ _ _ _ (.bool true) rfl ?_
    refine @Ends.val _ _ _ _ _ _ _ _ _ (.agg (u8s Z).toArray) rfl ?_
    refine @Ends.val _ _ _ _ _ _ _ _ _ (.agg (u8s Z).toArray) rfl ?_
    refine @Ends.val _ _ _ _ _ _ _ _ _ (.bool true) rfl ?_
    refine @Ends.val _ _ _ _ _ _ _ _ _ (.bool true) rfl ?_
    refine @Ends.val _ _ _ _ _ _ _ _ _ (.bool true) rfl ?_
    refine @Ends.val _ _ _ _ _ _ _ _ _ (.int .u64 Y) rfl ?_
    refine @Ends.val _ _ _ _ _ _ _ _ _ (.int .u64 Y) rfl ?_
    refine @Ends.val _ _ _ _ _ _ _ _ _ (.bool true) rfl ?_
    refine @Ends.val _ _ _ _ _ _ _ _ _ (.bool true) rfl ?_
    refine @Ends.val _ _ _ _ _ _ _ _ _ (.bool true) rfl ?_
    refine @Ends.val _ _ _ _ _ _ _ _ _ (.agg (u8s ks).toArray) rfl ?_
    refine @Ends.val _ _ _ _ _ _ _ _ _ (.agg (u8s B).toArray) rfl ?_
    refine @Ends.val _ _ _ _ _ _ _ _ _ (.agg (u8s ks).toArray) rfl ?_
    refine @Ends.val _ _ _ _ _ _ _ _ _ (.agg (u8s B).toArray) rfl ?_
    refine @Ends.val _ _ _ _ _ _ _ _ _ (.bool true) rfl ?_
    refine @Ends.val _ _ _ _ _ _ _ _ _ (.bool true) rfl ?_
    refine @Ends.val _ _ _ _ _ _ _ _ _ (.bool true) rfl ?_
    refine @Ends.val _ _ _ _ _ _ _ _ _ (.bool true) rfl ?_
    refine @Ends.val _ _ _ _ _ _ _ _ _ (.bool true) rfl ?_
    refine @Ends.one _ _ _ _ _ _ _ ?_
    simp only [Act.put, List.setIfInBounds_toArray, List.set_cons_zero, List.set_cons_succ]
    refine last_assign (.tmp 52) rfl (some 4) rfl (.bool true) rfl ?_
    have V1 : Hid (Below w.heap.size w wx ∧ Blk wx w.heap.size 58 (u8s ks) ∧ Blk wx (w.heap.size + 1) 58 (u8s us) ∧ Blk wx gz 58 (u8s Z) ∧ Blk wx gy 58 (u8s Z)) := ⟨below_chain V0.out.1 hb V0.out.1.size, (V0.out.2.1.later hb V0.out.2.1.lt), (V0.out.2.2.1.later hb V0.out.2.2.1.lt), (V0.out.2.2.2.1.later hb V0.out.2.2.2.1.lt), (V0.out.2.2.2.2.later hb V0.out.2.2.2.2.lt)⟩
    obtain ⟨yV1, rfl⟩ : ∃ q, q = wx := ⟨_, rfl⟩
    clear V0 hb 
    simp only [Act.put, List.setIfInBounds_toArray, List.set_cons_zero, List.set_cons_succ]
    go_wp2_with fail
    go_ret
    exact ⟨rfl, V1.out.1⟩
end Go.Proofs.Ytnifolefhelmcaa
