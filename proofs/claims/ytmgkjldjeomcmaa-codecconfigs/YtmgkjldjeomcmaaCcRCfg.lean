/- Layer codec: the document's number, Check, ParseConfig. -/
import Derived.Test.YtmgkjldjeomcmaaCcParse
import Derived.Test.YtmgkjldjeomcmaaRInv
import Derived.Test.YtmgkjldjeomcmaaSSlice
import Derived.Deep.CutRange
namespace Go.Proofs.Ytmgkjldjeomcmaa
open Go.RowKit
set_option linter.unusedVariables false
set_option linter.unusedSimpArgs false


set_option maxRecDepth 20000 in
set_option maxHeartbeats 1000000 in
theorem rnumber_any (ao : Option Addr) (c : Nat) (zs : List Int) (w : World) (hx : Seen w ao 4 zs) :
    Calls Try.prog 13 #[.slice ao 4 c] w fun e w' => e = .returned (.int .i64 (le zs)) ∧ w = w' := by
  have HL : Hid (zs.length = 4) := hx.len
  have HB : Hid (Bytes zs) := hx.bytes
  go_enter Try.func13, Try.ntmps13
  go_wp2
  go_loopw [3, 4] (fun v i wr => ∃ (m : Nat) (I : Int), m ≤ 4 ∧ I + 1 = m ∧ i = .int .i64 I ∧ v = .int .i64 (le (zs.drop m)) ∧ wr = w) (fun _ i _ => (intOf i + 1).toNat)
  case atStart => exact ⟨4, 3, by omega, by omega, rfl, by rw [List.drop_of_length_le (by have := HL.out; omega)]; rfl, rfl⟩
  case round =>
    obtain ⟨m, I, hm, hI, rfl, rfl, rfl⟩ := hrel
    by_cases hlt : 0 < m
    · obtain ⟨b, o, rfl, hb, hc⟩ := hx.cells (by decide)
      obtain ⟨p, rfl⟩ : ∃ p, m = p + 1 := ⟨m - 1, by omega⟩
      obtain rfl : I = (p : Int) := by omega
      have c1 := hc p (by omega)
      have hd := le_drop zs p (by have := HL.out; omega)
      have hbd := le_bd (zs.drop (p + 1)) (bytes_drop HB.out (p + 1))
      have hlen : (zs.drop (p + 1)).length = 3 - p := by have := HL.out; simp; omega
      have hpw : (256 : Int) ^ (3 - p) ≤ 16777216 := by rcases (show p = 0 ∨ p = 1 ∨ p = 2 ∨ p = 3 by omega) with rfl | rfl | rfl | rfl <;> decide
      rw [hlen] at hbd
      have hz := HB.out.at p (by have := HL.out; omega)
      obtain ⟨Z, hZ⟩ : ∃ Z, zs.getD p 0 = Z := ⟨_, rfl⟩
      obtain ⟨A, hA⟩ : ∃ A, le (zs.drop (p + 1)) = A := ⟨_, rfl⟩
      rw [hZ] at c1 hd hz
      rw [hA] at hd hbd
      have hA2 : 0 ≤ A ∧ A < 16777216 := ⟨hbd.1, Int.lt_of_lt_of_le hbd.2 hpw⟩
      have HO : Hid (A * 256 + Z = le (zs.drop p)) := by show _ = _; rw [hd, Int.mul_comm, Int.add_comm]
      rw [hA]
      have w1 : wrap64 (A * 256) = A * 256 := by simp [wrap64]; omega
      have w2 : wrap64 (A * 256 + Z) = A * 256 + Z := by simp [wrap64]; omega
      have i1 : (0 : Int) ≤ (p : Int) := by omega
      have i2 : (p : Int) < 4 := by omega
      clear hZ hA hc hx hd hbd hpw hlen
      go_wp2
      go_roundw
      case rel => exact ⟨p, (p : Int) - 1, by omega, by omega, by go_num, by rw [← HO.out], by first | rfl | trivial⟩
      case measure => simp [intOf] <;> omega
    · obtain rfl : m = 0 := by omega
      obtain rfl : I = -1 := by omega
      rw [List.drop_zero]
      obtain ⟨A, hA⟩ : ∃ A, le zs = A := ⟨_, rfl⟩
      have HA : Hid (le zs = A) := hA
      rw [hA]
      clear hx hA
      go_wp2
      go_ret
      exact ⟨by rw [HA.out]; rfl, rfl⟩
set_option maxRecDepth 20000 in
set_option maxHeartbeats 4000000 in
theorem rcheck_any (c : Cg) (w : World) : Calls Try.prog 14 #[c.v] w fun e w' => e = .returned (.int .i64 c.err) ∧ Below w.heap.size w w' := by
  obtain ⟨L, hL⟩ : ∃ L, wrap64 (26 + c.ms) = L := ⟨_, rfl⟩
  have HE : Hid (c.ok = ((inB c.bt 1 256 && inB c.ms 32 512 && inB c.bk 2 64) && (decide (c.tx ≤ 4096) && decide (L ≤ c.tx) && decide (114 ≤ c.tx)) && (inB c.wi 2 16 && inB c.wk 1 16))) := by
    show _ = _
    unfold Cg.ok
    cases e : inB c.ms 32 512 with
    | false => simp
    | true =>
      have h1 : 32 ≤ c.ms ∧ c.ms ≤ 512 := by simpa [inB] using e
      have h2 : L = 26 + c.ms := by rw [← hL]; simp [wrap64]; omega
      have h3 : inB c.tx c.least 4096 = (decide (c.tx ≤ 4096) && decide (L ≤ c.tx) && decide (114 ≤ c.tx)) := by
        rw [h2, Bool.eq_iff_iff]
        simp only [inB, Bool.and_eq_true, decide_eq_true_eq]
        have hl : c.least = 26 + max c.ms 88 := rfl
        rw [hl]
        by_cases h5 : c.ms ≤ 88
        · have h6 : max c.ms 88 = 88 := by omega
          rw [h6]
          constructor <;> intro h <;> omega
        · have h6 : max c.ms 88 = c.ms := by omega
          rw [h6]
          constructor <;> intro h <;> omega
      rw [h3]
      cases inB c.bt 1 256 <;> cases inB c.bk 2 64 <;> simp [Bool.and_assoc]
  go_enter Try.func14, Try.ntmps14
  go_upto_region 1 with (((with_reducible show wpList _ _ _ (({ dst := some 1, op := _, type := _, pos := _, after := _, guard := _ } : Oper) :: _) _ _); refine wpList_box_new rfl 25 _ rfl c.cs rfl ?_; intro w1 b1 s1 l1; have z1 : Hid (w1.heap.size = w.heap.size + 1) := s1; clear s1))
  have c0 : w1.cell? ⟨w.heap.size, 0, none⟩ = some (.int .i64 c.bt) := by rw [b1.cell]; rfl
  have c1 : w1.cell? ⟨w.heap.size, 1, none⟩ = some (.int .i64 c.ms) := by rw [b1.cell]; rfl
  have c2 : w1.cell? ⟨w.heap.size, 2, none⟩ = some (.int .i64 c.bk) := by rw [b1.cell]; rfl
  have c3 : w1.cell? ⟨w.heap.size, 3, none⟩ = some (.int .i64 c.tx) := by rw [b1.cell]; rfl
  have c4 : w1.cell? ⟨w.heap.size, 4, none⟩ = some (.int .i64 c.wi) := by rw [b1.cell]; rfl
  have c5 : w1.cell? ⟨w.heap.size, 5, none⟩ = some (.int .i64 c.wk) := by rw [b1.cell]; rfl
  have HB : Hid (Below w.heap.size w w1) := l1
  clear b1 l1
  go_cut [3] from 6 to 74 (fun s3 wc => s3 = .bool (inB c.bt 1 256 && inB c.ms 32 512 && inB c.bk 2 64) ∧ w1 = wc)
  case first =>
    by_cases h0 : 1 ≤ c.bt
    · skip
      by_cases h1 : c.bt ≤ 256
      · skip
        by_cases h2 : 32 ≤ c.ms
        · skip
          by_cases h3 : c.ms ≤ 512
          · skip
            by_cases h4 : 2 ≤ c.bk
            · skip
              by_cases h5 : c.bk ≤ 64
              · skip
                go_wp2_with fail
                go_meet
                exact ⟨congrArg Value.bool (by simp [inB]; omega), rfl⟩
              · skip
                go_wp2_with fail
                go_meet
                exact ⟨congrArg Value.bool (by simp [inB]; omega), rfl⟩
            · skip
              go_wp2_with fail
              go_meet
              exact ⟨congrArg Value.bool (by simp [inB]; omega), rfl⟩
          · skip
            go_wp2_with fail
            go_meet
            exact ⟨congrArg Value.bool (by simp [inB]; omega), rfl⟩
        · skip
          go_wp2_with fail
          go_meet
          exact ⟨congrArg Value.bool (by simp [inB]; omega), rfl⟩
      · skip
        go_wp2_with fail
        go_meet
        exact ⟨congrArg Value.bool (by simp [inB]; omega), rfl⟩
    · skip
      go_wp2_with fail
      go_meet
      exact ⟨congrArg Value.bool (by simp [inB]; omega), rfl⟩
  case rest =>
  obtain ⟨rfl, rfl⟩ := hcut
  generalize (inB c.bt 1 256 && inB c.ms 32 512 && inB c.bk 2 64) = B1 at *
  go_upto_region 2 with fail
  go_cut [4] from 6 to 74 (fun s4 wc => s4 = .bool (decide (c.tx ≤ 4096) && decide (L ≤ c.tx) && decide (114 ≤ c.tx)) ∧ w1 = wc)
  case first =>
    by_cases h0 : c.tx ≤ 4096
    · skip
      by_cases h1 : L ≤ c.tx
      · skip
        by_cases h2 : 114 ≤ c.tx
        · skip
          go_wp2_with fail
          go_meet
          exact ⟨congrArg Value.bool (by simp [inB]; omega), rfl⟩
        · skip
          go_wp2_with fail
          go_meet
          exact ⟨congrArg Value.bool (by simp [inB]; omega), rfl⟩
      · skip
        go_wp2_with fail
        go_meet
        exact ⟨congrArg Value.bool (by simp [inB]; omega), rfl⟩
    · skip
      go_wp2_with fail
      go_meet
      exact ⟨congrArg Value.bool (by simp [inB]; omega), rfl⟩
  case rest =>
  obtain ⟨rfl, rfl⟩ := hcut
  generalize (decide (c.tx ≤ 4096) && decide (L ≤ c.tx) && decide (114 ≤ c.tx)) = B2 at *
  go_upto_region 3 with fail
  go_cut [5] from 6 to 74 (fun s5 wc => s5 = .bool (inB c.wi 2 16 && inB c.wk 1 16) ∧ w1 = wc)
  case first =>
    by_cases h0 : 2 ≤ c.wi
    · skip
      by_cases h1 : c.wi ≤ 16
      · skip
        by_cases h2 : 1 ≤ c.wk
        · skip
          by_cases h3 : c.wk ≤ 16
          · skip
            go_wp2_with fail
            go_meet
            exact ⟨congrArg Value.bool (by simp [inB]; omega), rfl⟩
          · skip
            go_wp2_with fail
            go_meet
            exact ⟨congrArg Value.bool (by simp [inB]; omega), rfl⟩
        · skip
          go_wp2_with fail
          go_meet
          exact ⟨congrArg Value.bool (by simp [inB]; omega), rfl⟩
      · skip
        go_wp2_with fail
        go_meet
        exact ⟨congrArg Value.bool (by simp [inB]; omega), rfl⟩
    · skip
      go_wp2_with fail
      go_meet
      exact ⟨congrArg Value.bool (by simp [inB]; omega), rfl⟩
  case rest =>
  obtain ⟨rfl, rfl⟩ := hcut
  generalize (inB c.wi 2 16 && inB c.wk 1 16) = B3 at *
  have HR : Hid (c.err = if (B1 && B2 && B3) = true then 0 else 200) := by show _ = _; unfold Cg.err; rw [HE.out]
  clear HE
  cases B1 <;> cases B2 <;> cases B3 <;> (go_wp2_with fail; go_ret; exact ⟨by rw [HR.out]; rfl, HB.out⟩)
theorem cg_build (a b c d e f : Int) (w : World) : (Instr.build 25 #[(0, .int .i64 a), (1, .int .i64 b), (2, .int .i64 c), (3, .int .i64 d), (4, .int .i64 e), (5, .int .i64 f)]).run Try.prog w = .ok (.agg (Cg.cs ⟨a, b, c, d, e, f⟩).toArray) w := by kernel_rfl
set_option maxRecDepth 20000 in
set_option maxHeartbeats 1000000 in
theorem rparse_len (ao : Option Addr) (n cap : Nat) (hn : ¬ (n : Int) = 24) (w : World) : Calls Try.prog 6 #[.slice ao n cap] w fun e w' => e = .returned (.tuple #[.agg cg0.cs.toArray, .int .i64 4]) ∧ Below w.heap.size w w' := by
  have n1 : ((n : Int) != 24) = true := by simpa using hn
  clear hn
  go_enter Try.func6, Try.ntmps6
  go_wp2_with (first | ((with_reducible show wpList _ _ _ (({ dst := some 2, op := _, type := _, pos := _, after := _, guard := _ } : Oper) :: _) _ _); refine wpList_alloc_new rfl 25 rfl 6 _ cg_zero ?_; intro w1 b1 s1 l1; have z1 : Hid (w1.heap.size = w.heap.size + 1) := s1; clear s1) | (refine wpList_store_blk rfl 25 25 (.tmp 2) (.tmp 8) rfl _ rfl _ cg0.cs rfl (b1) rfl (cg_size cg0) (cg_one cg0) ?_; intro w2 b2 s2 k2; have z2 : Hid (w2.heap.size = w1.heap.size) := s2; clear s2))
  exact ret_blkt rfl w.heap.size cg0.cs _ _ rfl rfl b2 Try.underlying25 rfl (cg_size cg0) rfl ⟨rfl, below_kept l1 k2 (by have := z1.out; omega) (fun j hj => by omega)⟩
set_option maxRecDepth 20000 in
set_option maxHeartbeats 1000000 in
theorem rparse_ok (ao : Option Addr) (cap : Nat) (zs : List Int) (hcap : 24 ≤ cap) (w : World) (hx : Seen w ao 24 zs) (hok : (cgOf zs).ok = true) : Calls Try.prog 6 #[.slice ao 24 cap] w fun e w' => e = .returned (.tuple #[.agg (cgOf zs).cs.toArray, .int .i64 0]) ∧ Below w.heap.size w w' := by
  have HS0 : Hid ((∀ W, (Instr.sliceAt 22 (.slice ao 24 cap) (some (.int .i64 0)) (some (.int .i64 4)) none).run Try.prog W = .ok (.slice (subA ao 0 cap) 4 (cap - 0)) W) ∧ Seen w (subA ao 0 cap) 4 ((zs.drop 0).take 4)) := ⟨fun W => sl_lh ao 24 cap 0 4 (by decide) (by omega) W, hx.sub 0 4 cap (by decide) (by decide) hcap⟩
  have HS4 : Hid ((∀ W, (Instr.sliceAt 22 (.slice ao 24 cap) (some (.int .i64 4)) (some (.int .i64 8)) none).run Try.prog W = .ok (.slice (subA ao 4 cap) 4 (cap - 4)) W) ∧ Seen w (subA ao 4 cap) 4 ((zs.drop 4).take 4)) := ⟨fun W => sl_lh ao 24 cap 4 8 (by decide) (by omega) W, hx.sub 4 8 cap (by decide) (by decide) hcap⟩
  have HS8 : Hid ((∀ W, (Instr.sliceAt 22 (.slice ao 24 cap) (some (.int .i64 8)) (some (.int .i64 12)) none).run Try.prog W = .ok (.slice (subA ao 8 cap) 4 (cap - 8)) W) ∧ Seen w (subA ao 8 cap) 4 ((zs.drop 8).take 4)) := ⟨fun W => sl_lh ao 24 cap 8 12 (by decide) (by omega) W, hx.sub 8 12 cap (by decide) (by decide) hcap⟩
  have HS12 : Hid ((∀ W, (Instr.sliceAt 22 (.slice ao 24 cap) (some (.int .i64 12)) (some (.int .i64 16)) none).run Try.prog W = .ok (.slice (subA ao 12 cap) 4 (cap - 12)) W) ∧ Seen w (subA ao 12 cap) 4 ((zs.drop 12).take 4)) := ⟨fun W => sl_lh ao 24 cap 12 16 (by decide) (by omega) W, hx.sub 12 16 cap (by decide) (by decide) hcap⟩
  have HS16 : Hid ((∀ W, (Instr.sliceAt 22 (.slice ao 24 cap) (some (.int .i64 16)) (some (.int .i64 20)) none).run Try.prog W = .ok (.slice (subA ao 16 cap) 4 (cap - 16)) W) ∧ Seen w (subA ao 16 cap) 4 ((zs.drop 16).take 4)) := ⟨fun W => sl_lh ao 24 cap 16 20 (by decide) (by omega) W, hx.sub 16 20 cap (by decide) (by decide) hcap⟩
  have HS20 : Hid ((∀ W, (Instr.sliceAt 22 (.slice ao 24 cap) (some (.int .i64 20)) (some (.int .i64 24)) none).run Try.prog W = .ok (.slice (subA ao 20 cap) 4 (cap - 20)) W) ∧ Seen w (subA ao 20 cap) 4 ((zs.drop 20).take 4)) := ⟨fun W => sl_lh ao 24 cap 20 24 (by decide) (by omega) W, hx.sub 20 24 cap (by decide) (by decide) hcap⟩
  have HC : Hid (∀ W, Calls Try.prog 14 #[.agg (cgOf zs).cs.toArray] W fun e w' => e = .returned (.int .i64 0) ∧ Below W.heap.size W w') := fun W => by
    have := rcheck_any (cgOf zs) W
    rwa [show (cgOf zs).err = 0 by simp [Cg.err, hok]] at this
  clear hx hok
  go_enter Try.func6, Try.ntmps6
  go_wp2_with (((with_reducible show wpList _ _ _ (({ dst := some 2, op := _, type := _, pos := _, after := _, guard := _ } : Oper) :: _) _ _); refine wpList_alloc_new rfl 25 rfl 6 _ cg_zero ?_; intro w1 b1 s1 l1; have z1 : Hid (w1.heap.size = w.heap.size + 1) := s1; clear s1))
  refine region_inv [.val (.slice ao 24 cap), .val (.slice (subA ao 0 cap) 4 (cap - 0)), .val (.int .i64 (num4 zs 0)), .val (.slice ao 24 cap), .val (.slice (subA ao 4 cap) 4 (cap - 4)), .val (.int .i64 (num4 zs 4)), .val (.slice ao 24 cap), .val (.slice (subA ao 8 cap) 4 (cap - 8)), .val (.int .i64 (num4 zs 8)), .val (.slice ao 24 cap), .val (.slice (subA ao 12 cap) 4 (cap - 12)), .val (.int .i64 (num4 zs 12)), .val (.slice ao 24 cap), .val (.slice (subA ao 16 cap) 4 (cap - 16)), .val (.int .i64 (num4 zs 16)), .val (.slice ao 24 cap), .val (.slice (subA ao 20 cap) 4 (cap - 20)), .val (.int .i64 (num4 zs 20)), .val (.agg (cgOf zs).cs.toArray), .blk 25 cg0.cs] (by kernel_rfl) (by kernel_rfl) (by kernel_rfl) ?_ ?_
  · refine (Steps'.cons ?_ (Steps'.cons ?_ (Steps'.cons ?_ (Steps'.cons ?_ (Steps'.cons ?_ (Steps'.cons ?_ (Steps'.cons ?_ (Steps'.cons ?_ (Steps'.cons ?_ (Steps'.cons ?_ (Steps'.cons ?_ (Steps'.cons ?_ (Steps'.cons ?_ (Steps'.cons ?_ (Steps'.cons ?_ (Steps'.cons ?_ (Steps'.cons ?_ (Steps'.cons ?_ (Steps'.cons ?_ (Steps'.cons ?_ (Steps'.one _ _ _ _ _ _ _)))))))))))))))))))))
    · intro ax wx hb hs hd
      have h0 : ax.tmps.getD 0 undef = (.slice ao 24 cap) := hs 0 (by kernel_rfl)
      refine Does.value (.slice ao 24 cap) ?_ rfl
      clear hs hd
      go_simp
    · intro ax wx hb hs hd
      have h9 : ax.tmps.getD 9 undef = (.slice ao 24 cap) := hd 0 9 rfl (by kernel_rfl) (by decide)
      have S := HS0.out.1
      refine Does.value (.slice (subA ao 0 cap) 4 (cap - 0)) ?_ rfl
      clear hs hd
      go_simp
    · intro ax wx hb hs hd
      have h10 : ax.tmps.getD 10 undef = (.slice (subA ao 0 cap) 4 (cap - 0)) := hd 1 10 rfl (by kernel_rfl) (by decide)
      refine Does.call 13 #[.slice (subA ao 0 cap) 4 (cap - 0)] (by clear hs hd; go_simp) ?_
      refine (rnumber_any _ _ _ wx (HS0.out.2.later (below_chain l1 hb (by have := z1.out; omega)) (Nat.le_refl _))).mono ?_
      rintro e w' ⟨rfl, rfl⟩
      exact ⟨_, rfl, rfl, Below.refl _ _⟩
    · intro ax wx hb hs hd
      have h0 : ax.tmps.getD 0 undef = (.slice ao 24 cap) := hs 0 (by kernel_rfl)
      refine Does.value (.slice ao 24 cap) ?_ rfl
      clear hs hd
      go_simp
    · intro ax wx hb hs hd
      have h12 : ax.tmps.getD 12 undef = (.slice ao 24 cap) := hd 3 12 rfl (by kernel_rfl) (by decide)
      have S := HS4.out.1
      refine Does.value (.slice (subA ao 4 cap) 4 (cap - 4)) ?_ rfl
      clear hs hd
      go_simp
    · intro ax wx hb hs hd
      have h13 : ax.tmps.getD 13 undef = (.slice (subA ao 4 cap) 4 (cap - 4)) := hd 4 13 rfl (by kernel_rfl) (by decide)
      refine Does.call 13 #[.slice (subA ao 4 cap) 4 (cap - 4)] (by clear hs hd; go_simp) ?_
      refine (rnumber_any _ _ _ wx (HS4.out.2.later (below_chain l1 hb (by have := z1.out; omega)) (Nat.le_refl _))).mono ?_
      rintro e w' ⟨rfl, rfl⟩
      exact ⟨_, rfl, rfl, Below.refl _ _⟩
    · intro ax wx hb hs hd
      have h0 : ax.tmps.getD 0 undef = (.slice ao 24 cap) := hs 0 (by kernel_rfl)
      refine Does.value (.slice ao 24 cap) ?_ rfl
      clear hs hd
      go_simp
    · intro ax wx hb hs hd
      have h15 : ax.tmps.getD 15 undef = (.slice ao 24 cap) := hd 6 15 rfl (by kernel_rfl) (by decide)
      have S := HS8.out.1
      refine Does.value (.slice (subA ao 8 cap) 4 (cap - 8)) ?_ rfl
      clear hs hd
      go_simp
    · intro ax wx hb hs hd
      have h16 : ax.tmps.getD 16 undef = (.slice (subA ao 8 cap) 4 (cap - 8)) := hd 7 16 rfl (by kernel_rfl) (by decide)
      refine Does.call 13 #[.slice (subA ao 8 cap) 4 (cap - 8)] (by clear hs hd; go_simp) ?_
      refine (rnumber_any _ _ _ wx (HS8.out.2.later (below_chain l1 hb (by have := z1.out; omega)) (Nat.le_refl _))).mono ?_
      rintro e w' ⟨rfl, rfl⟩
      exact ⟨_, rfl, rfl, Below.refl _ _⟩
    · intro ax wx hb hs hd
      have h0 : ax.tmps.getD 0 undef = (.slice ao 24 cap) := hs 0 (by kernel_rfl)
      refine Does.value (.slice ao 24 cap) ?_ rfl
      clear hs hd
      go_simp
    · intro ax wx hb hs hd
      have h18 : ax.tmps.getD 18 undef = (.slice ao 24 cap) := hd 9 18 rfl (by kernel_rfl) (by decide)
      have S := HS12.out.1
      refine Does.value (.slice (subA ao 12 cap) 4 (cap - 12)) ?_ rfl
      clear hs hd
      go_simp
    · intro ax wx hb hs hd
      have h19 : ax.tmps.getD 19 undef = (.slice (subA ao 12 cap) 4 (cap - 12)) := hd 10 19 rfl (by kernel_rfl) (by decide)
      refine Does.call 13 #[.slice (subA ao 12 cap) 4 (cap - 12)] (by clear hs hd; go_simp) ?_
      refine (rnumber_any _ _ _ wx (HS12.out.2.later (below_chain l1 hb (by have := z1.out; omega)) (Nat.le_refl _))).mono ?_
      rintro e w' ⟨rfl, rfl⟩
      exact ⟨_, rfl, rfl, Below.refl _ _⟩
    · intro ax wx hb hs hd
      have h0 : ax.tmps.getD 0 undef = (.slice ao 24 cap) := hs 0 (by kernel_rfl)
      refine Does.value (.slice ao 24 cap) ?_ rfl
      clear hs hd
      go_simp
    · intro ax wx hb hs hd
      have h21 : ax.tmps.getD 21 undef = (.slice ao 24 cap) := hd 12 21 rfl (by kernel_rfl) (by decide)
      have S := HS16.out.1
      refine Does.value (.slice (subA ao 16 cap) 4 (cap - 16)) ?_ rfl
      clear hs hd
      go_simp
    · intro ax wx hb hs hd
      have h22 : ax.tmps.getD 22 undef = (.slice (subA ao 16 cap) 4 (cap - 16)) := hd 13 22 rfl (by kernel_rfl) (by decide)
      refine Does.call 13 #[.slice (subA ao 16 cap) 4 (cap - 16)] (by clear hs hd; go_simp) ?_
      refine (rnumber_any _ _ _ wx (HS16.out.2.later (below_chain l1 hb (by have := z1.out; omega)) (Nat.le_refl _))).mono ?_
      rintro e w' ⟨rfl, rfl⟩
      exact ⟨_, rfl, rfl, Below.refl _ _⟩
    · intro ax wx hb hs hd
      have h0 : ax.tmps.getD 0 undef = (.slice ao 24 cap) := hs 0 (by kernel_rfl)
      refine Does.value (.slice ao 24 cap) ?_ rfl
      clear hs hd
      go_simp
    · intro ax wx hb hs hd
      have h24 : ax.tmps.getD 24 undef = (.slice ao 24 cap) := hd 15 24 rfl (by kernel_rfl) (by decide)
      have S := HS20.out.1
      refine Does.value (.slice (subA ao 20 cap) 4 (cap - 20)) ?_ rfl
      clear hs hd
      go_simp
    · intro ax wx hb hs hd
      have h25 : ax.tmps.getD 25 undef = (.slice (subA ao 20 cap) 4 (cap - 20)) := hd 16 25 rfl (by kernel_rfl) (by decide)
      refine Does.call 13 #[.slice (subA ao 20 cap) 4 (cap - 20)] (by clear hs hd; go_simp) ?_
      refine (rnumber_any _ _ _ wx (HS20.out.2.later (below_chain l1 hb (by have := z1.out; omega)) (Nat.le_refl _))).mono ?_
      rintro e w' ⟨rfl, rfl⟩
      exact ⟨_, rfl, rfl, Below.refl _ _⟩
    · intro ax wx hb hs hd
      have h11 : ax.tmps.getD 11 undef = (.int .i64 (num4 zs 0)) := hd 2 11 rfl (by kernel_rfl) (by decide); have h14 : ax.tmps.getD 14 undef = (.int .i64 (num4 zs 4)) := hd 5 14 rfl (by kernel_rfl) (by decide); have h17 : ax.tmps.getD 17 undef = (.int .i64 (num4 zs 8)) := hd 8 17 rfl (by kernel_rfl) (by decide); have h20 : ax.tmps.getD 20 undef = (.int .i64 (num4 zs 12)) := hd 11 20 rfl (by kernel_rfl) (by decide); have h23 : ax.tmps.getD 23 undef = (.int .i64 (num4 zs 16)) := hd 14 23 rfl (by kernel_rfl) (by decide); have h26 : ax.tmps.getD 26 undef = (.int .i64 (num4 zs 20)) := hd 17 26 rfl (by kernel_rfl) (by decide)
      refine Does.build 25 _ rfl #[(0, .int .i64 (num4 zs 0)), (1, .int .i64 (num4 zs 4)), (2, .int .i64 (num4 zs 8)), (3, .int .i64 (num4 zs 12)), (4, .int .i64 (num4 zs 16)), (5, .int .i64 (num4 zs 20))] ?_ _ (cg_build _ _ _ _ _ _ wx)
      simp only [List.map_toArray, List.map_cons, List.map_nil]
      clear hs hd
      simp only [Act.eval, h11, h14, h17, h20, h23, h26]
    · intro ax wx hb hs hd
      exact Does.alloc 25 rfl 6 _ cg_zero hb.size
  · intro wx hb
    refine @Ends.val _ _ _ _ _ _ _ _ _ ((.slice ao 24 cap)) rfl ?_
    refine @Ends.val _ _ _ _ _ _ _ _ _ ((.slice (subA ao 0 cap) 4 (cap - 0))) rfl ?_
    refine @Ends.val _ _ _ _ _ _ _ _ _ ((.int .i64 (num4 zs 0))) rfl ?_
    refine @Ends.val _ _ _ _ _ _ _ _ _ ((.slice ao 24 cap)) rfl ?_
    refine @Ends.val _ _ _ _ _ _ _ _ _ ((.slice (subA ao 4 cap) 4 (cap - 4))) rfl ?_
    refine @Ends.val _ _ _ _ _ _ _ _ _ ((.int .i64 (num4 zs 4))) rfl ?_
    refine @Ends.val _ _ _ _ _ _ _ _ _ ((.slice ao 24 cap)) rfl ?_
    refine @Ends.val _ _ _ _ _ _ _ _ _ ((.slice (subA ao 8 cap) 4 (cap - 8))) rfl ?_
    refine @Ends.val _ _ _ _ _ _ _ _ _ ((.int .i64 (num4 zs 8))) rfl ?_
    refine @Ends.val _ _ _ _ _ _ _ _ _ ((.slice ao 24 cap)) rfl ?_
    refine @Ends.val _ _ _ _ _ _ _ _ _ ((.slice (subA ao 12 cap) 4 (cap - 12))) rfl ?_
    refine @Ends.val _ _ _ _ _ _ _ _ _ ((.int .i64 (num4 zs 12))) rfl ?_
    refine @Ends.val _ _ _ _ _ _ _ _ _ ((.slice ao 24 cap)) rfl ?_
    refine @Ends.val _ _ _ _ _ _ _ _ _ ((.slice (subA ao 16 cap) 4 (cap - 16))) rfl ?_
    refine @Ends.val _ _ _ _ _ _ _ _ _ ((.int .i64 (num4 zs 16))) rfl ?_
    refine @Ends.val _ _ _ _ _ _ _ _ _ ((.slice ao 24 cap)) rfl ?_
    refine @Ends.val _ _ _ _ _ _ _ _ _ ((.slice (subA ao 20 cap) 4 (cap - 20))) rfl ?_
    refine @Ends.val _ _ _ _ _ _ _ _ _ ((.int .i64 (num4 zs 20))) rfl ?_
    refine @Ends.val _ _ _ _ _ _ _ _ _ ((.agg (cgOf zs).cs.toArray)) rfl ?_
    refine @Ends.blk _ _ _ _ _ _ _ _ _ 25 cg0.cs rfl ?_
    intro g5 hg5 bg5
    refine @Ends.one _ _ _ _ _ _ _ ?_
    simp only [Act.put, List.setIfInBounds_toArray, List.set_cons_zero, List.set_cons_succ]
    refine last_store 25 (.tmp 4) (.tmp 27) rfl rfl g5 rfl 25 _ (cgOf zs).cs rfl bg5 rfl (cg_size _) (cg_one _) ?_
    intro w2 b2 s2 k2
    have q1 := hb.size
    have V : Hid (Blk w2 g5 25 (cgOf zs).cs ∧ Blk w2 w.heap.size 25 cg0.cs ∧ Below w.heap.size w w2 ∧ w.heap.size ≤ w2.heap.size) := (by have h1 := z1.out; exact ⟨b2, (b1.later hb (by omega)).kept k2 (by omega), below_kept (below_chain l1 hb (by omega)) k2 (by omega) (fun j hj => by omega), by omega⟩)
    clear b2 k2 bg5 b1 l1 hb q1 s2 hg5
    go_wp2_with (((with_reducible show wpList _ _ _ (({ dst := some 28, op := _, type := _, pos := _, after := _, guard := _ } : Oper) :: _) _ _); refine wpList_load_blk rfl 25 (.tmp 4) rfl _ rfl (cgOf zs).cs _ (V.out.1) Try.underlying25 rfl (cg_size _) ?_))
    refine (HC.out _).mono ?_
    rintro e w3 ⟨rfl, l3⟩
    have V3 : Hid (Blk w3 g5 25 (cgOf zs).cs ∧ Blk w3 w.heap.size 25 cg0.cs ∧ Below w.heap.size w w3 ∧ w.heap.size ≤ w3.heap.size) := (by have q := l3.size; have := V.out.2.2.2; exact ⟨V.out.1.later l3 V.out.1.lt, V.out.2.1.later l3 V.out.2.1.lt, below_chain V.out.2.2.1 l3 this, by omega⟩)
    clear l3
    go_wp2_with (first | ((with_reducible show wpList _ _ _ (({ dst := some 32, op := _, type := _, pos := _, after := _, guard := _ } : Oper) :: _) _ _); refine wpList_load_blk rfl 25 (.tmp 4) rfl _ rfl (cgOf zs).cs _ (V3.out.1) Try.underlying25 rfl (cg_size _) ?_) | (refine wpList_store_blk rfl 25 25 (.tmp 2) (.tmp 32) rfl _ rfl _ (cgOf zs).cs rfl (V3.out.2.1) rfl (cg_size _) (cg_one _) ?_; intro w4 b4 s4 k4; have z4 : Hid (w4.heap.size = w3.heap.size) := s4; clear s4))
    exact ret_blkt rfl w.heap.size (cgOf zs).cs _ _ rfl rfl b4 Try.underlying25 rfl (cg_size _) rfl ⟨rfl, below_kept V3.out.2.2.1 k4 V3.out.2.2.2 (fun j hj => by omega)⟩
set_option maxRecDepth 20000 in
set_option maxHeartbeats 1000000 in
theorem rparse_bad (ao : Option Addr) (cap : Nat) (zs : List Int) (hcap : 24 ≤ cap) (w : World) (hx : Seen w ao 24 zs) (hok : (cgOf zs).ok = false) : Calls Try.prog 6 #[.slice ao 24 cap] w fun e w' => e = .returned (.tuple #[.agg (cg0).cs.toArray, .int .i64 200]) ∧ Below w.heap.size w w' := by
  have HS0 : Hid ((∀ W, (Instr.sliceAt 22 (.slice ao 24 cap) (some (.int .i64 0)) (some (.int .i64 4)) none).run Try.prog W = .ok (.slice (subA ao 0 cap) 4 (cap - 0)) W) ∧ Seen w (subA ao 0 cap) 4 ((zs.drop 0).take 4)) := ⟨fun W => sl_lh ao 24 cap 0 4 (by decide) (by omega) W, hx.sub 0 4 cap (by decide) (by decide) hcap⟩
  have HS4 : Hid ((∀ W, (Instr.sliceAt 22 (.slice ao 24 cap) (some (.int .i64 4)) (some (.int .i64 8)) none).run Try.prog W = .ok (.slice (subA ao 4 cap) 4 (cap - 4)) W) ∧ Seen w (subA ao 4 cap) 4 ((zs.drop 4).take 4)) := ⟨fun W => sl_lh ao 24 cap 4 8 (by decide) (by omega) W, hx.sub 4 8 cap (by decide) (by decide) hcap⟩
  have HS8 : Hid ((∀ W, (Instr.sliceAt 22 (.slice ao 24 cap) (some (.int .i64 8)) (some (.int .i64 12)) none).run Try.prog W = .ok (.slice (subA ao 8 cap) 4 (cap - 8)) W) ∧ Seen w (subA ao 8 cap) 4 ((zs.drop 8).take 4)) := ⟨fun W => sl_lh ao 24 cap 8 12 (by decide) (by omega) W, hx.sub 8 12 cap (by decide) (by decide) hcap⟩
  have HS12 : Hid ((∀ W, (Instr.sliceAt 22 (.slice ao 24 cap) (some (.int .i64 12)) (some (.int .i64 16)) none).run Try.prog W = .ok (.slice (subA ao 12 cap) 4 (cap - 12)) W) ∧ Seen w (subA ao 12 cap) 4 ((zs.drop 12).take 4)) := ⟨fun W => sl_lh ao 24 cap 12 16 (by decide) (by omega) W, hx.sub 12 16 cap (by decide) (by decide) hcap⟩
  have HS16 : Hid ((∀ W, (Instr.sliceAt 22 (.slice ao 24 cap) (some (.int .i64 16)) (some (.int .i64 20)) none).run Try.prog W = .ok (.slice (subA ao 16 cap) 4 (cap - 16)) W) ∧ Seen w (subA ao 16 cap) 4 ((zs.drop 16).take 4)) := ⟨fun W => sl_lh ao 24 cap 16 20 (by decide) (by omega) W, hx.sub 16 20 cap (by decide) (by decide) hcap⟩
  have HS20 : Hid ((∀ W, (Instr.sliceAt 22 (.slice ao 24 cap) (some (.int .i64 20)) (some (.int .i64 24)) none).run Try.prog W = .ok (.slice (subA ao 20 cap) 4 (cap - 20)) W) ∧ Seen w (subA ao 20 cap) 4 ((zs.drop 20).take 4)) := ⟨fun W => sl_lh ao 24 cap 20 24 (by decide) (by omega) W, hx.sub 20 24 cap (by decide) (by decide) hcap⟩
  have HC : Hid (∀ W, Calls Try.prog 14 #[.agg (cgOf zs).cs.toArray] W fun e w' => e = .returned (.int .i64 200) ∧ Below W.heap.size W w') := fun W => by
    have := rcheck_any (cgOf zs) W
    rwa [show (cgOf zs).err = 200 by simp [Cg.err, hok]] at this
  clear hx hok
  go_enter Try.func6, Try.ntmps6
  go_wp2_with (((with_reducible show wpList _ _ _ (({ dst := some 2, op := _, type := _, pos := _, after := _, guard := _ } : Oper) :: _) _ _); refine wpList_alloc_new rfl 25 rfl 6 _ cg_zero ?_; intro w1 b1 s1 l1; have z1 : Hid (w1.heap.size = w.heap.size + 1) := s1; clear s1))
  refine region_inv [.val (.slice ao 24 cap), .val (.slice (subA ao 0 cap) 4 (cap - 0)), .val (.int .i64 (num4 zs 0)), .val (.slice ao 24 cap), .val (.slice (subA ao 4 cap) 4 (cap - 4)), .val (.int .i64 (num4 zs 4)), .val (.slice ao 24 cap), .val (.slice (subA ao 8 cap) 4 (cap - 8)), .val (.int .i64 (num4 zs 8)), .val (.slice ao 24 cap), .val (.slice (subA ao 12 cap) 4 (cap - 12)), .val (.int .i64 (num4 zs 12)), .val (.slice ao 24 cap), .val (.slice (subA ao 16 cap) 4 (cap - 16)), .val (.int .i64 (num4 zs 16)), .val (.slice ao 24 cap), .val (.slice (subA ao 20 cap) 4 (cap - 20)), .val (.int .i64 (num4 zs 20)), .val (.agg (cgOf zs).cs.toArray), .blk 25 cg0.cs] (by kernel_rfl) (by kernel_rfl) (by kernel_rfl) ?_ ?_
  · refine (Steps'.cons ?_ (Steps'.cons ?_ (Steps'.cons ?_ (Steps'.cons ?_ (Steps'.cons ?_ (Steps'.cons ?_ (Steps'.cons ?_ (Steps'.cons ?_ (Steps'.cons ?_ (Steps'.cons ?_ (Steps'.cons ?_ (Steps'.cons ?_ (Steps'.cons ?_ (Steps'.cons ?_ (Steps'.cons ?_ (Steps'.cons ?_ (Steps'.cons ?_ (Steps'.cons ?_ (Steps'.cons ?_ (Steps'.cons ?_ (Steps'.one _ _ _ _ _ _ _)))))))))))))))))))))
    · intro ax wx hb hs hd
      have h0 : ax.tmps.getD 0 undef = (.slice ao 24 cap) := hs 0 (by kernel_rfl)
      refine Does.value (.slice ao 24 cap) ?_ rfl
      clear hs hd
      go_simp
    · intro ax wx hb hs hd
      have h9 : ax.tmps.getD 9 undef = (.slice ao 24 cap) := hd 0 9 rfl (by kernel_rfl) (by decide)
      have S := HS0.out.1
      refine Does.value (.slice (subA ao 0 cap) 4 (cap - 0)) ?_ rfl
      clear hs hd
      go_simp
    · intro ax wx hb hs hd
      have h10 : ax.tmps.getD 10 undef = (.slice (subA ao 0 cap) 4 (cap - 0)) := hd 1 10 rfl (by kernel_rfl) (by decide)
      refine Does.call 13 #[.slice (subA ao 0 cap) 4 (cap - 0)] (by clear hs hd; go_simp) ?_
      refine (rnumber_any _ _ _ wx (HS0.out.2.later (below_chain l1 hb (by have := z1.out; omega)) (Nat.le_refl _))).mono ?_
      rintro e w' ⟨rfl, rfl⟩
      exact ⟨_, rfl, rfl, Below.refl _ _⟩
    · intro ax wx hb hs hd
      have h0 : ax.tmps.getD 0 undef = (.slice ao 24 cap) := hs 0 (by kernel_rfl)
      refine Does.value (.slice ao 24 cap) ?_ rfl
      clear hs hd
      go_simp
    · intro ax wx hb hs hd
      have h12 : ax.tmps.getD 12 undef = (.slice ao 24 cap) := hd 3 12 rfl (by kernel_rfl) (by decide)
      have S := HS4.out.1
      refine Does.value (.slice (subA ao 4 cap) 4 (cap - 4)) ?_ rfl
      clear hs hd
      go_simp
    · intro ax wx hb hs hd
      have h13 : ax.tmps.getD 13 undef = (.slice (subA ao 4 cap) 4 (cap - 4)) := hd 4 13 rfl (by kernel_rfl) (by decide)
      refine Does.call 13 #[.slice (subA ao 4 cap) 4 (cap - 4)] (by clear hs hd; go_simp) ?_
      refine (rnumber_any _ _ _ wx (HS4.out.2.later (below_chain l1 hb (by have := z1.out; omega)) (Nat.le_refl _))).mono ?_
      rintro e w' ⟨rfl, rfl⟩
      exact ⟨_, rfl, rfl, Below.refl _ _⟩
    · intro ax wx hb hs hd
      have h0 : ax.tmps.getD 0 undef = (.slice ao 24 cap) := hs 0 (by kernel_rfl)
      refine Does.value (.slice ao 24 cap) ?_ rfl
      clear hs hd
      go_simp
    · intro ax wx hb hs hd
      have h15 : ax.tmps.getD 15 undef = (.slice ao 24 cap) := hd 6 15 rfl (by kernel_rfl) (by decide)
      have S := HS8.out.1
      refine Does.value (.slice (subA ao 8 cap) 4 (cap - 8)) ?_ rfl
      clear hs hd
      go_simp
    · intro ax wx hb hs hd
      have h16 : ax.tmps.getD 16 undef = (.slice (subA ao 8 cap) 4 (cap - 8)) := hd 7 16 rfl (by kernel_rfl) (by decide)
      refine Does.call 13 #[.slice (subA ao 8 cap) 4 (cap - 8)] (by clear hs hd; go_simp) ?_
      refine (rnumber_any _ _ _ wx (HS8.out.2.later (below_chain l1 hb (by have := z1.out; omega)) (Nat.le_refl _))).mono ?_
      rintro e w' ⟨rfl, rfl⟩
      exact ⟨_, rfl, rfl, Below.refl _ _⟩
    · intro ax wx hb hs hd
      have h0 : ax.tmps.getD 0 undef = (.slice ao 24 cap) := hs 0 (by kernel_rfl)
      refine Does.value (.slice ao 24 cap) ?_ rfl
      clear hs hd
      go_simp
    · intro ax wx hb hs hd
      have h18 : ax.tmps.getD 18 undef = (.slice ao 24 cap) := hd 9 18 rfl (by kernel_rfl) (by decide)
      have S := HS12.out.1
      refine Does.value (.slice (subA ao 12 cap) 4 (cap - 12)) ?_ rfl
      clear hs hd
      go_simp
    · intro ax wx hb hs hd
      have h19 : ax.tmps.getD 19 undef = (.slice (subA ao 12 cap) 4 (cap - 12)) := hd 10 19 rfl (by kernel_rfl) (by decide)
      refine Does.call 13 #[.slice (subA ao 12 cap) 4 (cap - 12)] (by clear hs hd; go_simp) ?_
      refine (rnumber_any _ _ _ wx (HS12.out.2.later (below_chain l1 hb (by have := z1.out; omega)) (Nat.le_refl _))).mono ?_
      rintro e w' ⟨rfl, rfl⟩
      exact ⟨_, rfl, rfl, Below.refl _ _⟩
    · intro ax wx hb hs hd
      have h0 : ax.tmps.getD 0 undef = (.slice ao 24 cap) := hs 0 (by kernel_rfl)
      refine Does.value (.slice ao 24 cap) ?_ rfl
      clear hs hd
      go_simp
    · intro ax wx hb hs hd
      have h21 : ax.tmps.getD 21 undef = (.slice ao 24 cap) := hd 12 21 rfl (by kernel_rfl) (by decide)
      have S := HS16.out.1
      refine Does.value (.slice (subA ao 16 cap) 4 (cap - 16)) ?_ rfl
      clear hs hd
      go_simp
    · intro ax wx hb hs hd
      have h22 : ax.tmps.getD 22 undef = (.slice (subA ao 16 cap) 4 (cap - 16)) := hd 13 22 rfl (by kernel_rfl) (by decide)
      refine Does.call 13 #[.slice (subA ao 16 cap) 4 (cap - 16)] (by clear hs hd; go_simp) ?_
      refine (rnumber_any _ _ _ wx (HS16.out.2.later (below_chain l1 hb (by have := z1.out; omega)) (Nat.le_refl _))).mono ?_
      rintro e w' ⟨rfl, rfl⟩
      exact ⟨_, rfl, rfl, Below.refl _ _⟩
    · intro ax wx hb hs hd
      have h0 : ax.tmps.getD 0 undef = (.slice ao 24 cap) := hs 0 (by kernel_rfl)
      refine Does.value (.slice ao 24 cap) ?_ rfl
      clear hs hd
      go_simp
    · intro ax wx hb hs hd
      have h24 : ax.tmps.getD 24 undef = (.slice ao 24 cap) := hd 15 24 rfl (by kernel_rfl) (by decide)
      have S := HS20.out.1
      refine Does.value (.slice (subA ao 20 cap) 4 (cap - 20)) ?_ rfl
      clear hs hd
      go_simp
    · intro ax wx hb hs hd
      have h25 : ax.tmps.getD 25 undef = (.slice (subA ao 20 cap) 4 (cap - 20)) := hd 16 25 rfl (by kernel_rfl) (by decide)
      refine Does.call 13 #[.slice (subA ao 20 cap) 4 (cap - 20)] (by clear hs hd; go_simp) ?_
      refine (rnumber_any _ _ _ wx (HS20.out.2.later (below_chain l1 hb (by have := z1.out; omega)) (Nat.le_refl _))).mono ?_
      rintro e w' ⟨rfl, rfl⟩
      exact ⟨_, rfl, rfl, Below.refl _ _⟩
    · intro ax wx hb hs hd
      have h11 : ax.tmps.getD 11 undef = (.int .i64 (num4 zs 0)) := hd 2 11 rfl (by kernel_rfl) (by decide); have h14 : ax.tmps.getD 14 undef = (.int .i64 (num4 zs 4)) := hd 5 14 rfl (by kernel_rfl) (by decide); have h17 : ax.tmps.getD 17 undef = (.int .i64 (num4 zs 8)) := hd 8 17 rfl (by kernel_rfl) (by decide); have h20 : ax.tmps.getD 20 undef = (.int .i64 (num4 zs 12)) := hd 11 20 rfl (by kernel_rfl) (by decide); have h23 : ax.tmps.getD 23 undef = (.int .i64 (num4 zs 16)) := hd 14 23 rfl (by kernel_rfl) (by decide); have h26 : ax.tmps.getD 26 undef = (.int .i64 (num4 zs 20)) := hd 17 26 rfl (by kernel_rfl) (by decide)
      refine Does.build 25 _ rfl #[(0, .int .i64 (num4 zs 0)), (1, .int .i64 (num4 zs 4)), (2, .int .i64 (num4 zs 8)), (3, .int .i64 (num4 zs 12)), (4, .int .i64 (num4 zs 16)), (5, .int .i64 (num4 zs 20))] ?_ _ (cg_build _ _ _ _ _ _ wx)
      simp only [List.map_toArray, List.map_cons, List.map_nil]
      clear hs hd
      simp only [Act.eval, h11, h14, h17, h20, h23, h26]
    · intro ax wx hb hs hd
      exact Does.alloc 25 rfl 6 _ cg_zero hb.size
  · intro wx hb
    refine @Ends.val _ _ _ _ _ _ _ _ _ ((.slice ao 24 cap)) rfl ?_
    refine @Ends.val _ _ _ _ _ _ _ _ _ ((.slice (subA ao 0 cap) 4 (cap - 0))) rfl ?_
    refine @Ends.val _ _ _ _ _ _ _ _ _ ((.int .i64 (num4 zs 0))) rfl ?_
    refine @Ends.val _ _ _ _ _ _ _ _ _ ((.slice ao 24 cap)) rfl ?_
    refine @Ends.val _ _ _ _ _ _ _ _ _ ((.slice (subA ao 4 cap) 4 (cap - 4))) rfl ?_
    refine @Ends.val _ _ _ _ _ _ _ _ _ ((.int .i64 (num4 zs 4))) rfl ?_
    refine @Ends.val _ _ _ _ _ _ _ _ _ ((.slice ao 24 cap)) rfl ?_
    refine @Ends.val _ _ _ _ _ _ _ _ _ ((.slice (subA ao 8 cap) 4 (cap - 8))) rfl ?_
    refine @Ends.val _ _ _ _ _ _ _ _ _ ((.int .i64 (num4 zs 8))) rfl ?_
    refine @Ends.val _ _ _ _ _ _ _ _ _ ((.slice ao 24 cap)) rfl ?_
    refine @Ends.val _ _ _ _ _ _ _ _ _ ((.slice (subA ao 12 cap) 4 (cap - 12))) rfl ?_
    refine @Ends.val _ _ _ _ _ _ _ _ _ ((.int .i64 (num4 zs 12))) rfl ?_
    refine @Ends.val _ _ _ _ _ _ _ _ _ ((.slice ao 24 cap)) rfl ?_
    refine @Ends.val _ _ _ _ _ _ _ _ _ ((.slice (subA ao 16 cap) 4 (cap - 16))) rfl ?_
    refine @Ends.val _ _ _ _ _ _ _ _ _ ((.int .i64 (num4 zs 16))) rfl ?_
    refine @Ends.val _ _ _ _ _ _ _ _ _ ((.slice ao 24 cap)) rfl ?_
    refine @Ends.val _ _ _ _ _ _ _ _ _ ((.slice (subA ao 20 cap) 4 (cap - 20))) rfl ?_
    refine @Ends.val _ _ _ _ _ _ _ _ _ ((.int .i64 (num4 zs 20))) rfl ?_
    refine @Ends.val _ _ _ _ _ _ _ _ _ ((.agg (cgOf zs).cs.toArray)) rfl ?_
    refine @Ends.blk _ _ _ _ _ _ _ _ _ 25 cg0.cs rfl ?_
    intro g5 hg5 bg5
    refine @Ends.one _ _ _ _ _ _ _ ?_
    simp only [Act.put, List.setIfInBounds_toArray, List.set_cons_zero, List.set_cons_succ]
    refine last_store 25 (.tmp 4) (.tmp 27) rfl rfl g5 rfl 25 _ (cgOf zs).cs rfl bg5 rfl (cg_size _) (cg_one _) ?_
    intro w2 b2 s2 k2
    have q1 := hb.size
    have V : Hid (Blk w2 g5 25 (cgOf zs).cs ∧ Blk w2 w.heap.size 25 cg0.cs ∧ Below w.heap.size w w2 ∧ w.heap.size ≤ w2.heap.size) := (by have h1 := z1.out; exact ⟨b2, (b1.later hb (by omega)).kept k2 (by omega), below_kept (below_chain l1 hb (by omega)) k2 (by omega) (fun j hj => by omega), by omega⟩)
    clear b2 k2 bg5 b1 l1 hb q1 s2 hg5
    go_wp2_with (((with_reducible show wpList _ _ _ (({ dst := some 28, op := _, type := _, pos := _, after := _, guard := _ } : Oper) :: _) _ _); refine wpList_load_blk rfl 25 (.tmp 4) rfl _ rfl (cgOf zs).cs _ (V.out.1) Try.underlying25 rfl (cg_size _) ?_))
    refine (HC.out _).mono ?_
    rintro e w3 ⟨rfl, l3⟩
    have V3 : Hid (Blk w3 g5 25 (cgOf zs).cs ∧ Blk w3 w.heap.size 25 cg0.cs ∧ Below w.heap.size w w3 ∧ w.heap.size ≤ w3.heap.size) := (by have q := l3.size; have := V.out.2.2.2; exact ⟨V.out.1.later l3 V.out.1.lt, V.out.2.1.later l3 V.out.2.1.lt, below_chain V.out.2.2.1 l3 this, by omega⟩)
    clear l3
    go_wp2_with ((refine wpList_store_blk rfl 25 25 (.tmp 2) (.tmp 31) rfl _ rfl _ cg0.cs rfl (V3.out.2.1) rfl (cg_size _) (cg_one _) ?_; intro w4 b4 s4 k4; have z4 : Hid (w4.heap.size = w3.heap.size) := s4; clear s4))
    exact ret_blkt rfl w.heap.size (cg0).cs _ _ rfl rfl b4 Try.underlying25 rfl (cg_size _) rfl ⟨rfl, below_kept V3.out.2.2.1 k4 V3.out.2.2.2 (fun j hj => by omega)⟩
end Go.Proofs.Ytmgkjldjeomcmaa
