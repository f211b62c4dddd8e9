/- CodecSizes: the walk. -/
import Derived.Test.YtmgkjldjeomcmaaDoorCcRPut
import Derived.Test.YtmgkjldjeomcmaaDoorCcRPg2
import Derived.Test.YtmgkjldjeomcmaaDoorREqb
import Derived.Test.YtmgkjldjeomcmaaDoorRInvGT
namespace Go.Proofs.YtmgkjldjeomcmaaDoor.codecSizes
open Go.RowKit
set_option linter.unusedVariables false
set_option linter.unusedSimpArgs false

/-- What both lay of a config: bytes, the error. -/
def putB (c : Cg) : List Int := if c.ok then cfgB c else []
/-- What a call answers that lays bytes, or none. -/
def Lays8 (w : World) (zs : List Int) (x : Int) (e : Ending) (w' : World) : Prop := ∃ vo n cv, e = .returned (.tuple #[.slice vo n cv, .int .i64 x]) ∧ Seen w' vo n zs ∧ Below w.heap.size w w'
theorem lays_of_put {w : World} {zs : List Int} (hb : Bytes zs) (ht : zs.length ≤ 140737488355328) {e : Ending} {w' : World} (h : PutR w zs e w') : Lays8 w zs 0 e w' := by
  obtain ⟨vo, cv, rfl, ho, hb2⟩ := h
  obtain ⟨ao, c, e, hs, _⟩ := own_seen8 ho rfl hb ht
  cases e
  exact ⟨vo, _, cv, rfl, hs, hb2⟩
theorem lays_of_bad {w : World} {x : Int} {e : Ending} {w' : World} (h : BadR w x e w') : Lays8 w [] x e w' := by
  obtain ⟨rfl, hb⟩ := h
  exact ⟨none, 0, 0, rfl, Seen.empty _ _, hb⟩
theorem cfgB_bytes (c : Cg) : Bytes (cfgB c) := by
  intro z hz
  simp only [cfgB, List.mem_append] at hz
  rcases hz with h | h | h | h | h | h <;> exact leB_bytes _ _ z h
theorem put_lays (c : Cg) (w : World) : Calls Tryd.prog 8 #[c.v] w (Lays8 w (putB c) c.err) := by
  unfold putB
  cases hok : c.ok with
  | true => exact (ok_err hok).symm ▸ (putConfig_ok c hok w).mono (fun e w' h => lays_of_put (cfgB_bytes c) (by rw [cfgB_length]; decide) h)
  | false => exact (no_err hok).symm ▸ (putConfig_bad c hok w).mono (fun e w' h => lays_of_bad h)
theorem rput_lays (c : Cg) (w : World) : Calls Tryd.prog 9 #[c.v] w (Lays8 w (putB c) c.err) := by
  unfold putB
  cases hok : c.ok with
  | true => exact (ok_err hok).symm ▸ (rput_ok c hok w).mono (fun e w' h => lays_of_put (cfgB_bytes c) (by rw [cfgB_length]; decide) h)
  | false => exact (no_err hok).symm ▸ (rput_bad c hok w).mono (fun e w' h => lays_of_bad h)
/-- What both answer on pages. -/
theorem pages_both (c : Cg) (k n : Int) : ∃ x y : Int, (∀ w, Calls Tryd.prog 17 #[.agg c.cs.toArray, .int .i64 k, .int .i64 n] w fun e w' => e = .returned (.tuple #[.int .i64 x, .int .i64 y]) ∧ Below w.heap.size w w') ∧ ∀ w, Calls Tryd.prog 18 #[.agg c.cs.toArray, .int .i64 k, .int .i64 n] w fun e w' => e = .returned (.tuple #[.int .i64 x, .int .i64 y]) ∧ Below w.heap.size w w' := by
  by_cases hE : szE c k = 0
  · by_cases hn : n < 0
    · exact ⟨0, 2, fun w => pages_neg c k n hE hn w, fun w => rpg_neg c k n hE hn w⟩
    · by_cases hb : c.bt < n
      · exact ⟨0, 252, fun w => pages_batch c k n hE hn hb w, fun w => rpg_batch c k n hE hn hb w⟩
      · obtain ⟨m, rfl⟩ := Int.eq_ofNat_of_zero_le (show 0 ≤ n by omega)
        exact ⟨_, 0, fun w => pages_yes c k m hE (by omega) w, fun w => rpg_yes c k m hE (by omega) w⟩
  · exact ⟨0, _, fun w => pages_err c k n hE w, fun w => rpg_err c k n hE w⟩
theorem last_valueS {o : Oper} {a : Act} {w : World} {K : Act → World → Prop} {Q : Exit → Act → World → Prop} (d : Option Tmp) (hdst : o.dst = d) (v : Value) (hv : (execOp a.eval o).run Tryd.prog w = .ok (.value v) w) (h : K (a.put d v) w) : o.wp Tryd.prog a w K Q := by
  unfold Oper.wp
  rw [hv]
  subst hdst
  exact h
theorem whole8 {w : World} {g : Nat} {t : TypeId} {vs : List Value} (h : Blk w g t vs) : w.rangeAt g 0 vs := fun j v hv => by rw [Nat.zero_add, h.cell]; exact hv
set_option maxRecDepth 20000 in
set_option maxHeartbeats 4000000 in
theorem walk (c : Cg) (k n0 : Int) (w : World) : Calls Tryd.prog 3 #[c.v, .int .i64 k, .int .i64 n0] w fun e w' => e = .returned (.bool true) ∧ Below w.heap.size w w' := by
  obtain ⟨E, hE⟩ : ∃ E, c.err = E := ⟨_, rfl⟩
  obtain ⟨Z, hZ⟩ : ∃ Z, putB c = Z := ⟨_, rfl⟩
  have HP1 : Hid (∀ W, Calls Tryd.prog 8 #[.agg c.cs.toArray] W (Lays8 W Z E)) := fun W => hZ ▸ hE ▸ put_lays c W
  have HP2 : Hid (∀ W, Calls Tryd.prog 9 #[.agg c.cs.toArray] W (Lays8 W Z E)) := fun W => hZ ▸ hE ▸ rput_lays c W
  have HC1 : Hid (∀ W, Calls Tryd.prog 10 #[.agg c.cs.toArray] W fun e w' => e = .returned (.int .i64 E) ∧ Below W.heap.size W w') := fun W => hE ▸ check_any c W
  have HC2 : Hid (∀ W, Calls Tryd.prog 11 #[.agg c.cs.toArray] W fun e w' => e = .returned (.int .i64 E) ∧ Below W.heap.size W w') := fun W => hE ▸ rcheck_any c W
  have HQ1 : Hid (∀ W, Calls Tryd.prog 13 #[.agg c.cs.toArray, .int .i64 k] W fun e w' => e = .returned (.tuple #[.int .i64 (szQ c k), .int .i64 (szE c k)]) ∧ Below W.heap.size W w') := fun W => requestSize_any c k W
  have HQ2 : Hid (∀ W, Calls Tryd.prog 14 #[.agg c.cs.toArray, .int .i64 k] W fun e w' => e = .returned (.tuple #[.int .i64 (szQ c k), .int .i64 (szE c k)]) ∧ Below W.heap.size W w') := fun W => rreq_any c k W
  have HA1 : Hid (∀ W, Calls Tryd.prog 15 #[.agg c.cs.toArray, .int .i64 k] W fun e w' => e = .returned (.tuple #[.int .i64 (szP c k), .int .i64 (szE c k)]) ∧ Below W.heap.size W w') := fun W => replySize_any c k W
  have HA2 : Hid (∀ W, Calls Tryd.prog 16 #[.agg c.cs.toArray, .int .i64 k] W fun e w' => e = .returned (.tuple #[.int .i64 (szP c k), .int .i64 (szE c k)]) ∧ Below W.heap.size W w') := fun W => rrep_any c k W
  obtain ⟨X, Y, hG1, hG2⟩ := pages_both c k n0
  have HG1 : Hid _ := hG1
  have HG2 : Hid _ := hG2
  have HD : Hid (decide (Z = Z) = true) := by show _ = _; simp
  generalize szQ c k = Q at *
  generalize szP c k = A at *
  generalize szE c k = G at *
  have r0 : (E != E) = false := by simp
  have r1 : (Q != Q) = false := by simp
  have r2 : (A != A) = false := by simp
  have r3 : (G != G) = false := by simp
  clear hE hZ hG1 hG2
  go_enter Tryd.func3, Tryd.ntmps3
  go_wp2_with (first | ((with_reducible show wpList _ _ _ (({ dst := some 3, op := _, type := _, pos := _, after := _, guard := _ } : Oper) :: _) _ _); refine wpList_box_new rfl 23 _ rfl c.cs rfl ?_; intro w1 b1 s1 l1; have z1 : Hid (w1.heap.size = w.heap.size + 1) := s1; clear s1) | ((with_reducible show wpList _ _ _ (({ dst := some 16, op := _, type := _, pos := _, after := _, guard := _ } : Oper) :: _) _ _); refine wpList_load_blk rfl 23 (.tmp 3) rfl _ rfl c.cs _ (b1) Tryd.underlying23 rfl (cg_size c) ?_))
  refine (HP1.out _).mono ?_
  rintro e w2 ⟨vo, n, cv, rfl, s2, l2⟩
  have S2 : Hid (Blk w2 w.heap.size 23 c.cs ∧ Below w.heap.size w w2 ∧ Seen w2 vo n Z) := ⟨b1.later l2 (by have := z1.out; omega), below_chain l1 l2 (by have := z1.out; omega), s2⟩
  clear b1 l1 l2 s2
  go_wp2_with (((with_reducible show wpList _ _ _ (({ dst := some 21, op := _, type := _, pos := _, after := _, guard := _ } : Oper) :: _) _ _); refine wpList_load_blk rfl 23 (.tmp 3) rfl _ rfl c.cs _ (S2.out.1) Tryd.underlying23 rfl (cg_size c) ?_))
  refine (HP2.out _).mono ?_
  rintro e w3 ⟨uo, m, cu, rfl, s3, l3⟩
  have S3 : Hid (Blk w3 w.heap.size 23 c.cs ∧ Below w.heap.size w w3 ∧ Seen w3 vo n Z ∧ Seen w3 uo m Z) := ⟨S2.out.1.later l3 S2.out.1.lt, below_chain S2.out.2.1 l3 S2.out.2.1.size, S2.out.2.2.later l3 (Nat.le_refl _), s3⟩
  clear l3 s3 S2 HP1 HP2
  go_wp2_with fail
  refine region_invGT [.val (.agg c.cs.toArray), .val (.int .i64 E), .val (.agg c.cs.toArray), .val (.int .i64 E), .val (.bool false), .val (.bool false), .val (.int .i64 E), .val (.int .i64 E), .val (.bool false), .val (.bool false), .val (.bool false), .val (.slice vo n cv), .val (.slice uo m cu), .val (.bool true), .val (.bool false)] (by kernel_rfl) (by kernel_rfl) (by repeat (first | exact trivial | (refine ⟨by first | trivial | rfl, ?_⟩))) (by kernel_rfl) ?_ ?_
  · refine (Steps'.cons ?_ (Steps'.cons ?_ (Steps'.cons ?_ (Steps'.cons ?_ (Steps'.cons ?_ (Steps'.cons ?_ (Steps'.cons ?_ (Steps'.cons ?_ (Steps'.cons ?_ (Steps'.cons ?_ (Steps'.cons ?_ (Steps'.cons ?_ (Steps'.cons ?_ (Steps'.cons ?_ (Steps'.cons ?_ (Steps'.one _ _ _ _ _ _ _))))))))))))))))
    · intro ax wx hb hs hd
      have h3 : ax.tmps.getD 3 undef = (.pointer (some ⟨w.heap.size, 0, none⟩)) := hs 3 (by kernel_rfl)
      exact Does.load 23 (.tmp 3) rfl w.heap.size 0 h3 c.cs _ (whole8 (S3.out.1.later hb S3.out.1.lt)) Tryd.underlying23 rfl (cg_size c)
    · intro ax wx hb hs hd
      have h25 : ax.tmps.getD 25 undef = (.agg c.cs.toArray) := hd 0 25 rfl (by kernel_rfl) (by decide)
      refine Does.call 10 #[(.agg c.cs.toArray)] (by clear hs hd; go_simp) ?_
      refine (HC1.out wx).mono ?_
      rintro z w' ⟨rfl, l⟩
      exact ⟨_, rfl, rfl, l⟩
    · intro ax wx hb hs hd
      have h3 : ax.tmps.getD 3 undef = (.pointer (some ⟨w.heap.size, 0, none⟩)) := hs 3 (by kernel_rfl)
      exact Does.load 23 (.tmp 3) rfl w.heap.size 0 h3 c.cs _ (whole8 (S3.out.1.later hb S3.out.1.lt)) Tryd.underlying23 rfl (cg_size c)
    · intro ax wx hb hs hd
      have h27 : ax.tmps.getD 27 undef = (.agg c.cs.toArray) := hd 2 27 rfl (by kernel_rfl) (by decide)
      refine Does.call 11 #[(.agg c.cs.toArray)] (by clear hs hd; go_simp) ?_
      refine (HC2.out wx).mono ?_
      rintro z w' ⟨rfl, l⟩
      exact ⟨_, rfl, rfl, l⟩
    · intro ax wx hb hs hd
      have h26 : ax.tmps.getD 26 undef = (.int .i64 E) := hd 1 26 rfl (by kernel_rfl) (by decide)
      have h28 : ax.tmps.getD 28 undef = (.int .i64 E) := hd 3 28 rfl (by kernel_rfl) (by decide)
      refine Does.value (.bool false) ?_ rfl
      clear hs hd
      go_simp
    · intro ax wx hb hs hd
      have h29 : ax.tmps.getD 29 undef = (.bool false) := hd 4 29 rfl (by kernel_rfl) (by decide)
      refine Does.value (.bool false) ?_ rfl
      clear hs hd
      go_simp
    · intro ax wx hb hs hd
      have h8 : ax.tmps.getD 8 undef = (.int .i64 E) := hs 8 (by kernel_rfl)
      refine Does.value (.int .i64 E) ?_ rfl
      clear hs hd
      go_simp
    · intro ax wx hb hs hd
      have h10 : ax.tmps.getD 10 undef = (.int .i64 E) := hs 10 (by kernel_rfl)
      refine Does.value (.int .i64 E) ?_ rfl
      clear hs hd
      go_simp
    · intro ax wx hb hs hd
      have h31 : ax.tmps.getD 31 undef = (.int .i64 E) := hd 6 31 rfl (by kernel_rfl) (by decide)
      have h32 : ax.tmps.getD 32 undef = (.int .i64 E) := hd 7 32 rfl (by kernel_rfl) (by decide)
      refine Does.value (.bool false) ?_ rfl
      clear hs hd
      go_simp
    · intro ax wx hb hs hd
      have h30 : ax.tmps.getD 30 undef = (.bool false) := hd 5 30 rfl (by kernel_rfl) (by decide)
      have h33 : ax.tmps.getD 33 undef = (.bool false) := hd 8 33 rfl (by kernel_rfl) (by decide)
      refine Does.value (.bool false) ?_ rfl
      clear hs hd
      go_simp
    · intro ax wx hb hs hd
      have h34 : ax.tmps.getD 34 undef = (.bool false) := hd 9 34 rfl (by kernel_rfl) (by decide)
      refine Does.value (.bool false) ?_ rfl
      clear hs hd
      go_simp
    · intro ax wx hb hs hd
      have h7 : ax.tmps.getD 7 undef = (.slice vo n cv) := hs 7 (by kernel_rfl)
      refine Does.value (.slice vo n cv) ?_ rfl
      clear hs hd
      go_simp
    · intro ax wx hb hs hd
      have h9 : ax.tmps.getD 9 undef = (.slice uo m cu) := hs 9 (by kernel_rfl)
      refine Does.value (.slice uo m cu) ?_ rfl
      clear hs hd
      go_simp
    · intro ax wx hb hs hd
      have h36 : ax.tmps.getD 36 undef = (.slice vo n cv) := hd 11 36 rfl (by kernel_rfl) (by decide)
      have h37 : ax.tmps.getD 37 undef = (.slice uo m cu) := hd 12 37 rfl (by kernel_rfl) (by decide)
      refine Does.call 12 #[(.slice vo n cv), (.slice uo m cu)] (by clear hs hd; go_simp) ?_
      refine (reqb_any vo uo n m cv cu Z Z wx (S3.out.2.2.1.later hb (Nat.le_refl _)) (S3.out.2.2.2.later hb (Nat.le_refl _))).mono ?_
      rintro z w' ⟨rfl, q, rfl⟩
      exact ⟨_, rfl, (show Value.bool (decide (Z = Z)) = .bool true by rw [decide_eq_true (rfl : Z = Z)]), below_dn (Below.refl _ _) q⟩
    · intro ax wx hb hs hd
      have h38 : ax.tmps.getD 38 undef = (.bool true) := hd 13 38 rfl (by kernel_rfl) (by decide)
      refine Does.value (.bool false) ?_ rfl
      clear hs hd
      go_simp
  · intro wx hb
    refine @Ends.val _ _ _ _ _ _ _ _ _ (.agg c.cs.toArray) rfl ?_
    refine @Ends.val _ _ _ _ _ _ _ _ _ (.int .i64 E) rfl ?_
    refine @Ends.val _ _ _ _ _ _ _ _ _ (.agg c.cs.toArray) rfl ?_
    refine @Ends.val _ _ _ _ _ _ _ _ _ (.int .i64 E) rfl ?_
    refine @Ends.val _ _ _ _ _ _ _ _ _ (.bool false) rfl ?_
    refine @Ends.val _ _ _ _ _ _ _ _ _ (.bool false) rfl ?_
    refine @Ends.val _ _ _ _ _ _ _ _ _ (.int .i64 E) rfl ?_
    refine @Ends.val _ _ _ _ _ _ _ _ _ (.int .i64 E) rfl ?_
    refine @Ends.val _ _ _ _ _ _ _ _ _ (.bool false) rfl ?_
    refine @Ends.val _ _ _ _ _ _ _ _ _ (.bool false) rfl ?_
    refine @Ends.val _ _ _ _ _ _ _ _ _ (.bool false) rfl ?_
    refine @Ends.val _ _ _ _ _ _ _ _ _ (.slice vo n cv) rfl ?_
    refine @Ends.val _ _ _ _ _ _ _ _ _ (.slice uo m cu) rfl ?_
    refine @Ends.val _ _ _ _ _ _ _ _ _ (.bool true) rfl ?_
    refine @Ends.val _ _ _ _ _ _ _ _ _ (.bool false) rfl ?_
    refine @Ends.one _ _ _ _ _ _ _ ?_
    simp only [Act.put, List.setIfInBounds_toArray, List.set_cons_zero, List.set_cons_succ]
    refine last_valueS (some 40) rfl (.bool false) (by go_simp) ?_
    have S4 : Hid (Blk wx w.heap.size 23 c.cs ∧ Below w.heap.size w wx) := ⟨S3.out.1.later hb S3.out.1.lt, below_chain S3.out.2.1 hb S3.out.2.1.size⟩
    clear S3 hb HC1 HC2
    simp only [Act.put, List.setIfInBounds_toArray, List.set_cons_zero, List.set_cons_succ]
    go_wp2_with (((with_reducible show wpList _ _ _ (({ dst := some 42, op := _, type := _, pos := _, after := _, guard := _ } : Oper) :: _) _ _); refine wpList_load_blk rfl 23 (.tmp 3) rfl _ rfl c.cs _ (S4.out.1) Tryd.underlying23 rfl (cg_size c) ?_))
    refine (HQ1.out _).mono ?_
    rintro e wa1 ⟨rfl, l⟩
    have SA1 : Hid (Blk wa1 w.heap.size 23 c.cs ∧ Below w.heap.size w wa1) := ⟨S4.out.1.later l S4.out.1.lt, below_chain S4.out.2 l S4.out.2.size⟩
    clear l
    go_wp2_with (((with_reducible show wpList _ _ _ (({ dst := some 48, op := _, type := _, pos := _, after := _, guard := _ } : Oper) :: _) _ _); refine wpList_load_blk rfl 23 (.tmp 3) rfl _ rfl c.cs _ (SA1.out.1) Tryd.underlying23 rfl (cg_size c) ?_))
    refine (HQ2.out _).mono ?_
    rintro e wa2 ⟨rfl, l⟩
    have SA2 : Hid (Blk wa2 w.heap.size 23 c.cs ∧ Below w.heap.size w wa2) := ⟨SA1.out.1.later l SA1.out.1.lt, below_chain SA1.out.2 l SA1.out.2.size⟩
    clear l
    go_wp2_with (((with_reducible show wpList _ _ _ (({ dst := some 62, op := _, type := _, pos := _, after := _, guard := _ } : Oper) :: _) _ _); refine wpList_load_blk rfl 23 (.tmp 3) rfl _ rfl c.cs _ (SA2.out.1) Tryd.underlying23 rfl (cg_size c) ?_))
    refine (HA1.out _).mono ?_
    rintro e wb1 ⟨rfl, l⟩
    have SB1 : Hid (Blk wb1 w.heap.size 23 c.cs ∧ Below w.heap.size w wb1) := ⟨SA2.out.1.later l SA2.out.1.lt, below_chain SA2.out.2 l SA2.out.2.size⟩
    clear l
    go_wp2_with (((with_reducible show wpList _ _ _ (({ dst := some 68, op := _, type := _, pos := _, after := _, guard := _ } : Oper) :: _) _ _); refine wpList_load_blk rfl 23 (.tmp 3) rfl _ rfl c.cs _ (SB1.out.1) Tryd.underlying23 rfl (cg_size c) ?_))
    refine (HA2.out _).mono ?_
    rintro e wb2 ⟨rfl, l⟩
    have SB2 : Hid (Blk wb2 w.heap.size 23 c.cs ∧ Below w.heap.size w wb2) := ⟨SB1.out.1.later l SB1.out.1.lt, below_chain SB1.out.2 l SB1.out.2.size⟩
    clear l
    go_wp2_with (((with_reducible show wpList _ _ _ (({ dst := some 82, op := _, type := _, pos := _, after := _, guard := _ } : Oper) :: _) _ _); refine wpList_load_blk rfl 23 (.tmp 3) rfl _ rfl c.cs _ (SB2.out.1) Tryd.underlying23 rfl (cg_size c) ?_))
    refine (HG1.out _).mono ?_
    rintro e wc1 ⟨rfl, l⟩
    have SC1 : Hid (Blk wc1 w.heap.size 23 c.cs ∧ Below w.heap.size w wc1) := ⟨SB2.out.1.later l SB2.out.1.lt, below_chain SB2.out.2 l SB2.out.2.size⟩
    clear l
    go_wp2_with (((with_reducible show wpList _ _ _ (({ dst := some 89, op := _, type := _, pos := _, after := _, guard := _ } : Oper) :: _) _ _); refine wpList_load_blk rfl 23 (.tmp 3) rfl _ rfl c.cs _ (SC1.out.1) Tryd.underlying23 rfl (cg_size c) ?_))
    refine (HG2.out _).mono ?_
    rintro e wc2 ⟨rfl, l⟩
    have SC2 : Hid (Blk wc2 w.heap.size 23 c.cs ∧ Below w.heap.size w wc2) := ⟨SC1.out.1.later l SC1.out.1.lt, below_chain SC1.out.2 l SC1.out.2.size⟩
    clear l
    go_wp2_with fail
    go_ret
    exact ⟨rfl, SC2.out.2⟩
end Go.Proofs.YtmgkjldjeomcmaaDoor.codecSizes
