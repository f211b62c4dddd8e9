/- Layer codec: the document's sizes, pages, PutConfig. -/
import Derived.Test.YtmgkjldjeomcmaaDoorCcRCfg
import Derived.Test.YtmgkjldjeomcmaaDoorCcPgM
import Derived.Test.YtmgkjldjeomcmaaDoorCcWrit
import Derived.Test.YtmgkjldjeomcmaaDoorDCopy
namespace Go.Proofs.YtmgkjldjeomcmaaDoor
open Go.RowKit
set_option linter.unusedVariables false
set_option linter.unusedSimpArgs false

theorem results_tmp4 {fn : Func} {t u v x : Tmp} (h : fn.results = #[.tmp t, .tmp u, .tmp v, .tmp x]) (tmps : Array Value) (P : Program) (w : World) :
    (results fn tmps).run P w = .ok (.tuple #[tmps.getD t undef, tmps.getD u undef, tmps.getD v undef, tmps.getD x undef]) w := by
  simp [results, h]
set_option maxRecDepth 20000 in
set_option maxHeartbeats 1000000 in
theorem rlit_any (x : Int) (hx : 0 ≤ x ∧ x < 18446744073709551616) (m : Nat) (hm : m ≤ 8) (w : World) :
    Calls Tryd.prog 50 #[.int .u64 x, .int .i64 m] w fun e w' => ∃ v, e = .returned v ∧ w'.ownsRow w.heap.size 5 1 v m ((leB m x).map (Value.int .u8)) ∧ Below w.heap.size w w' := by
  obtain ⟨i0, hi, hz0, hz1, hz2⟩ := info_parts info_byte
  have HL : Hid ((leB m x).length = m ∧ ∀ k, k < m → (leB m x).getD k 0 = x / 2 ^ (8 * k) % 256) := ⟨leB_length _ _, fun k hk => by rw [leB_at _ _ _ hk, byteAt_eq]⟩
  generalize leB m x = zs at *
  go_enter Tryd.func50, Tryd.ntmps50
  go_wp2_with fail
  go_loopw [5, 6] (fun v i wr => ∃ k : Nat, k ≤ m ∧ i = .int .i64 k ∧ wr.ownsRow w.heap.size 5 1 v k ((zs.map (Value.int .u8)).take k) ∧ Below w.heap.size w wr) (fun _ i _ => m - (intOf i).toNat)
  case atStart => exact ⟨0, Nat.zero_le _, rfl, World.ownsRow_nil _ _ _ _, Below.refl _ _⟩
  case round =>
    obtain ⟨k, hk, rfl, hown, hbel⟩ := hrel
    have hsz := hbel.size
    by_cases hlt : k < m
    · have HZ : Hid (zs.getD k 0 = x / 2 ^ (8 * k) % 256) := HL.out.2 k hlt
      have i1 : (k : Int) < (m : Int) := by omega
      have i2 : (0 : Int) ≤ (k : Int) := by omega
      go_wp2_with (at_builtin; refine wpList_append_own _ rfl _ _ 24 rfl w.heap.size 5 i0 (.int .u8 0) 1 1 Tryd.underlying24 hi hz0 hz1 hz2 rfl (by decide) _ _ _ rfl (hown.alloc _) ⟨wr.heap.size, 0, none⟩ 1 1 [.int .u8 (x / 2 ^ (8 * k) % 256)] rfl rfl ?c1 ?c2 ?c3 ?c4 ?c5 ?_)
      try case c1 => exact one_new _ _ _
      case c2 => first | rfl | (intro u hu; simp at hu; subst hu; rfl)
      case c3 => unfold maxLen; omega
      case c4 => omega
      case c5 => first | omega | (simp; omega)
      · intro v' w1 hown' hgrow _
        have R := step_own hbel hown (by rw [HL.out.1]; exact hlt) HZ.out hown' hgrow
        clear hown' hgrow hown hbel
        go_wp2_with fail
        exact ⟨⟨k + 1, by omega, by go_num, R.1, R.2⟩, by simp [intOf]; omega⟩
    · obtain rfl : m = k := by omega
      have HO : Hid (wr.ownsRow w.heap.size 5 1 u5 m (zs.map (Value.int .u8)) ∧ Below w.heap.size w wr) := ⟨by have h := hown; rwa [List.take_of_length_le (by simp [HL.out.1])] at h, hbel⟩
      clear hown hbel
      go_wp2_with fail
      go_ret
      exact ⟨_, rfl, HO.out⟩
set_option maxHeartbeats 1000000 in
theorem rpad_any (n : Int) (w : World) : Calls Tryd.prog 58 #[.int .i64 n] w fun e w' => e = .returned (.int .i64 (padI n)) ∧ w = w' := by
  by_cases h : n < 1 ∨ 65536 < n
  · rw [pad_out n h]
    rcases h with h | h
    · go_enter Tryd.func58, Tryd.ntmps58
      go_wp2
      go_ret
      exact ⟨rfl, rfl⟩
    · have h2 : ¬ n < 1 := by omega
      go_enter Tryd.func58, Tryd.ntmps58
      go_wp2
      go_ret
      exact ⟨rfl, rfl⟩
  · rw [pad_in n (by omega) (by omega)]
    obtain ⟨x, hx⟩ : ∃ x, (n - 1).toNat = x := ⟨_, rfl⟩
    rw [hx]
    have hxn : n = (x : Int) + 1 := by omega
    have HB : Hid (blen x ≤ 16 ∧ x < 2 ^ blen x ∧ n = (x : Int) + 1 ∧ (∀ k, x < 2 ^ k → blen x ≤ k)) := ⟨blen_le x 16 (by omega), blen_lt x, hxn, fun k hk => blen_le x k hk⟩
    have h1 : ¬ n < 1 := by omega
    have h2 : ¬ 65536 < n := by omega
    clear hx hxn h
    go_enter Tryd.func58, Tryd.ntmps58
    go_wp2
    go_loopw [3] (fun v wr => ∃ k : Nat, k ≤ blen x ∧ v = .int .i64 ((2 ^ k : Nat) : Int) ∧ w = wr) (fun v _ => (131073 - intOf v).toNat)
    case atStart => exact ⟨0, Nat.zero_le _, rfl, rfl⟩
    case round =>
      obtain ⟨k, hk, rfl, rfl⟩ := hrel
      have hb := pow_le16 k (by have := HB.out.1; omega)
      obtain ⟨s, hs⟩ : ∃ s, 2 ^ k = s := ⟨_, rfl⟩
      rw [hs] at hb ⊢
      have HS : Hid (2 ^ k = s ∧ k ≤ blen x) := ⟨hs, hk⟩
      clear hs hk
      by_cases hlt : (s : Int) < n
      · go_wp2
        go_roundw
        case rel =>
          refine ⟨k + 1, ?_, by rw [Nat.pow_succ, HS.out.1]; go_num, by first | rfl | trivial⟩
          rcases Nat.lt_or_ge k (blen x) with h | h
          · omega
          · have h3 : 2 ^ blen x ≤ 2 ^ k := Nat.pow_le_pow_right (by decide) h
            have h4 := HS.out.1
            have h5 := HB.out
            omega
        case measure => simp [intOf]; omega
      · have he : k = blen x := by
          have h4 := HS.out
          have h5 := HB.out
          have h6 := h5.2.2.2 k (by omega)
          omega
        have HE : Hid (2 ^ blen x = s) := by show 2 ^ blen x = s; rw [← he]; exact HS.out.1
        clear he
        go_wp2
        go_ret
        refine ⟨?_, rfl⟩
        show Ending.returned (Value.int .i64 (s : Int)) = _
        rw [← HE.out]
        simp

set_option maxRecDepth 20000 in
set_option maxHeartbeats 2000000 in
theorem rsizes_any (c : Cg) (k : Int) (w : World) : Calls Tryd.prog 54 #[c.v, .int .i64 k] w fun e w' => e = .returned (.tuple #[.int .i64 (szQ c k), .int .i64 (szP c k), .int .i64 (szR c k), .int .i64 (szE c k)]) ∧ Below w.heap.size w w' := by
  cases hok : c.ok with
  | false =>
    have HE : Hid (szQ c k = 0 ∧ szP c k = 0 ∧ szR c k = 0 ∧ szE c k = 200) := by show _ ∧ _; simp [szQ, szP, szR, szE, hok]
    have HC : Hid (∀ W, Calls Tryd.prog 11 #[.agg c.cs.toArray] W fun e w' => e = .returned (.int .i64 200) ∧ Below W.heap.size W w') := fun W => by
      have := rcheck_any c W
      rwa [show c.err = 200 by simp [Cg.err, hok]] at this
    rw [HE.out.1, HE.out.2.1, HE.out.2.2.1, HE.out.2.2.2]
    clear hok HE
    go_enter Tryd.func54, Tryd.ntmps54
    go_wp2_with (first | ((with_reducible show wpList _ _ _ (({ dst := some 2, op := _, type := _, pos := _, after := _, guard := _ } : Oper) :: _) _ _); refine wpList_box_new rfl 23 _ rfl c.cs rfl ?_; intro w1 b1 s1 l1; have z1 : Hid (w1.heap.size = w.heap.size + 1) := s1; clear s1) | ((with_reducible show wpList _ _ _ (({ dst := some 8, op := _, type := _, pos := _, after := _, guard := _ } : Oper) :: _) _ _); refine wpList_load_blk rfl 23 (.tmp 2) rfl _ rfl c.cs _ (b1) Tryd.underlying23 rfl (cg_size c) ?_))
    refine (HC.out _).mono ?_
    rintro e w3 ⟨rfl, l3⟩
    have c1 : w3.cell? ⟨w.heap.size, 1, none⟩ = some (.int .i64 c.ms) := by
      have B : Blk w3 w.heap.size 23 c.cs := b1.later l3 (by have := z1.out; omega)
      rw [B.cell]; rfl
    have L3 : Hid (Below w.heap.size w w3) := below_chain l1 l3 (by have := z1.out; omega)
    clear b1 l1 l3
    go_wp2
    refine bodyPost_ret (results_tmp4 rfl _ _ _) rfl ?_
    exact ⟨rfl, L3.out⟩
  | true =>
    have hm := ok_ms hok
    have HC : Hid (∀ W, Calls Tryd.prog 11 #[.agg c.cs.toArray] W fun e w' => e = .returned (.int .i64 0) ∧ Below W.heap.size W w') := fun W => by
      have := rcheck_any c W
      rwa [show c.err = 0 by simp [Cg.err, hok]] at this
    by_cases h1 : k = 1
    · subst h1
      have HE : Hid (szQ c 1 = 16 + c.ms ∧ szP c 1 = 1 + c.ms ∧ szR c 1 = 26 + c.ms ∧ szE c 1 = 0) := by show _ ∧ _; simp [szQ, szP, szR, szE, hok]
      rw [HE.out.1, HE.out.2.1, HE.out.2.2.1, HE.out.2.2.2]
      have q1 : wrap64 (16 + c.ms) = 16 + c.ms := by simp [wrap64]; omega
      have q2 : wrap64 (1 + c.ms) = 1 + c.ms := by simp [wrap64]; omega
      have q3 : wrap64 (26 + c.ms) = 26 + c.ms := by simp [wrap64]; omega
      have HQ : Hid (wrap64 (16 + c.ms) = 16 + c.ms ∧ wrap64 (1 + c.ms) = 1 + c.ms ∧ wrap64 (26 + c.ms) = 26 + c.ms) := ⟨q1, q2, q3⟩
      clear hok HE hm q1 q2 q3
      go_enter Tryd.func54, Tryd.ntmps54
      go_wp2_with (first | ((with_reducible show wpList _ _ _ (({ dst := some 2, op := _, type := _, pos := _, after := _, guard := _ } : Oper) :: _) _ _); refine wpList_box_new rfl 23 _ rfl c.cs rfl ?_; intro w1 b1 s1 l1; have z1 : Hid (w1.heap.size = w.heap.size + 1) := s1; clear s1) | ((with_reducible show wpList _ _ _ (({ dst := some 8, op := _, type := _, pos := _, after := _, guard := _ } : Oper) :: _) _ _); refine wpList_load_blk rfl 23 (.tmp 2) rfl _ rfl c.cs _ (b1) Tryd.underlying23 rfl (cg_size c) ?_))
      refine (HC.out _).mono ?_
      rintro e w3 ⟨rfl, l3⟩
      have c1 : w3.cell? ⟨w.heap.size, 1, none⟩ = some (.int .i64 c.ms) := by
        have B : Blk w3 w.heap.size 23 c.cs := b1.later l3 (by have := z1.out; omega)
        rw [B.cell]; rfl
      have L3 : Hid (Below w.heap.size w w3) := below_chain l1 l3 (by have := z1.out; omega)
      clear b1 l1 l3
      go_wp2
      go_quiet (fail)
      go_wp2
      refine bodyPost_ret (results_tmp4 rfl _ _ _) rfl ?_
      refine ⟨?_, below_dn L3.out _⟩
      show Ending.returned (.tuple #[.int .i64 (wrap64 (16 + c.ms)), .int .i64 (wrap64 (1 + c.ms)), .int .i64 (wrap64 (26 + c.ms)), .int .i64 0]) = _
      rw [HQ.out.1, HQ.out.2.1, HQ.out.2.2]
    · by_cases h2 : k = 2
      · subst h2
        have HE : Hid (szQ c 2 = 92 ∧ szP c 2 = 16 ∧ szR c 2 = 114 ∧ szE c 2 = 0) := by show _ ∧ _; simp [szQ, szP, szR, szE, hok]
        rw [HE.out.1, HE.out.2.1, HE.out.2.2.1, HE.out.2.2.2]
        clear hok HE hm
        go_enter Tryd.func54, Tryd.ntmps54
        go_wp2_with (first | ((with_reducible show wpList _ _ _ (({ dst := some 2, op := _, type := _, pos := _, after := _, guard := _ } : Oper) :: _) _ _); refine wpList_box_new rfl 23 _ rfl c.cs rfl ?_; intro w1 b1 s1 l1; have z1 : Hid (w1.heap.size = w.heap.size + 1) := s1; clear s1) | ((with_reducible show wpList _ _ _ (({ dst := some 8, op := _, type := _, pos := _, after := _, guard := _ } : Oper) :: _) _ _); refine wpList_load_blk rfl 23 (.tmp 2) rfl _ rfl c.cs _ (b1) Tryd.underlying23 rfl (cg_size c) ?_))
        refine (HC.out _).mono ?_
        rintro e w3 ⟨rfl, l3⟩
        have c1 : w3.cell? ⟨w.heap.size, 1, none⟩ = some (.int .i64 c.ms) := by
          have B : Blk w3 w.heap.size 23 c.cs := b1.later l3 (by have := z1.out; omega)
          rw [B.cell]; rfl
        have L3 : Hid (Below w.heap.size w w3) := below_chain l1 l3 (by have := z1.out; omega)
        clear b1 l1 l3
        go_wp2
        refine bodyPost_ret (results_tmp4 rfl _ _ _) rfl ?_
        exact ⟨rfl, L3.out⟩
      · have HE : Hid (szQ c k = 0 ∧ szP c k = 0 ∧ szR c k = 0 ∧ szE c k = 253) := by show _ ∧ _; simp [szQ, szP, szR, szE, hok, h1, h2]
        have n1 : (k == 1) = false := by simpa using h1
        have n2 : (k == 2) = false := by simpa using h2
        rw [HE.out.1, HE.out.2.1, HE.out.2.2.1, HE.out.2.2.2]
        clear hok HE hm h1 h2
        go_enter Tryd.func54, Tryd.ntmps54
        go_wp2_with (first | ((with_reducible show wpList _ _ _ (({ dst := some 2, op := _, type := _, pos := _, after := _, guard := _ } : Oper) :: _) _ _); refine wpList_box_new rfl 23 _ rfl c.cs rfl ?_; intro w1 b1 s1 l1; have z1 : Hid (w1.heap.size = w.heap.size + 1) := s1; clear s1) | ((with_reducible show wpList _ _ _ (({ dst := some 8, op := _, type := _, pos := _, after := _, guard := _ } : Oper) :: _) _ _); refine wpList_load_blk rfl 23 (.tmp 2) rfl _ rfl c.cs _ (b1) Tryd.underlying23 rfl (cg_size c) ?_))
        refine (HC.out _).mono ?_
        rintro e w3 ⟨rfl, l3⟩
        have c1 : w3.cell? ⟨w.heap.size, 1, none⟩ = some (.int .i64 c.ms) := by
          have B : Blk w3 w.heap.size 23 c.cs := b1.later l3 (by have := z1.out; omega)
          rw [B.cell]; rfl
        have L3 : Hid (Below w.heap.size w w3) := below_chain l1 l3 (by have := z1.out; omega)
        clear b1 l1 l3
        go_wp2
        refine bodyPost_ret (results_tmp4 rfl _ _ _) rfl ?_
        exact ⟨rfl, L3.out⟩
set_option maxRecDepth 20000 in
set_option maxHeartbeats 1000000 in
theorem rreq_any (c : Cg) (k : Int) (w : World) : Calls Tryd.prog 14 #[c.v, .int .i64 k] w fun e w' => e = .returned (.tuple #[.int .i64 (szQ c k), .int .i64 (szE c k)]) ∧ Below w.heap.size w w' := by
  have HC : Hid (∀ W, Calls Tryd.prog 54 #[.agg c.cs.toArray, .int .i64 k] W fun e w' => e = .returned (.tuple #[.int .i64 (szQ c k), .int .i64 (szP c k), .int .i64 (szR c k), .int .i64 (szE c k)]) ∧ Below W.heap.size W w') := fun W => rsizes_any c k W
  go_enter Tryd.func14, Tryd.ntmps14
  go_wp2_with (first | ((with_reducible show wpList _ _ _ (({ dst := some 2, op := _, type := _, pos := _, after := _, guard := _ } : Oper) :: _) _ _); refine wpList_box_new rfl 23 _ rfl c.cs rfl ?_; intro w1 b1 s1 l1; have z1 : Hid (w1.heap.size = w.heap.size + 1) := s1; clear s1) | ((with_reducible show wpList _ _ _ (({ dst := some 11, op := _, type := _, pos := _, after := _, guard := _ } : Oper) :: _) _ _); refine wpList_load_blk rfl 23 (.tmp 2) rfl _ rfl c.cs _ (b1) Tryd.underlying23 rfl (cg_size c) ?_))
  refine (HC.out _).mono ?_
  rintro e w3 ⟨rfl, l3⟩
  have L3 : Hid (Below w.heap.size w w3) := below_chain l1 l3 (by have := z1.out; omega)
  clear b1 l1 l3
  go_wp2
  go_ret2
  exact ⟨rfl, L3.out⟩
set_option maxRecDepth 20000 in
set_option maxHeartbeats 1000000 in
theorem rrep_any (c : Cg) (k : Int) (w : World) : Calls Tryd.prog 16 #[c.v, .int .i64 k] w fun e w' => e = .returned (.tuple #[.int .i64 (szP c k), .int .i64 (szE c k)]) ∧ Below w.heap.size w w' := by
  have HC : Hid (∀ W, Calls Tryd.prog 54 #[.agg c.cs.toArray, .int .i64 k] W fun e w' => e = .returned (.tuple #[.int .i64 (szQ c k), .int .i64 (szP c k), .int .i64 (szR c k), .int .i64 (szE c k)]) ∧ Below W.heap.size W w') := fun W => rsizes_any c k W
  go_enter Tryd.func16, Tryd.ntmps16
  go_wp2_with (first | ((with_reducible show wpList _ _ _ (({ dst := some 2, op := _, type := _, pos := _, after := _, guard := _ } : Oper) :: _) _ _); refine wpList_box_new rfl 23 _ rfl c.cs rfl ?_; intro w1 b1 s1 l1; have z1 : Hid (w1.heap.size = w.heap.size + 1) := s1; clear s1) | ((with_reducible show wpList _ _ _ (({ dst := some 11, op := _, type := _, pos := _, after := _, guard := _ } : Oper) :: _) _ _); refine wpList_load_blk rfl 23 (.tmp 2) rfl _ rfl c.cs _ (b1) Tryd.underlying23 rfl (cg_size c) ?_))
  refine (HC.out _).mono ?_
  rintro e w3 ⟨rfl, l3⟩
  have L3 : Hid (Below w.heap.size w w3) := below_chain l1 l3 (by have := z1.out; omega)
  clear b1 l1 l3
  go_wp2
  go_ret2
  exact ⟨rfl, L3.out⟩
end Go.Proofs.YtmgkjldjeomcmaaDoor
