/- Layer codec: the document's number, Check, ParseConfig. -/
import Derived.Test.YtmgkjldjeomcmaaDoorCcParse
import Derived.Test.YtmgkjldjeomcmaaDoorRInv
import Derived.Test.YtmgkjldjeomcmaaDoorSSlice
import Derived.Deep.CutRange
namespace Go.Proofs.YtmgkjldjeomcmaaDoor
open Go.RowKit
set_option linter.unusedVariables false
set_option linter.unusedSimpArgs false


set_option maxRecDepth 20000 in
set_option maxHeartbeats 1000000 in
theorem rnumber_any (ao : Option Addr) (c : Nat) (zs : List Int) (w : World) (hx : Seen w ao 4 zs) :
    Calls Tryd.prog 66 #[.slice ao 4 c] w fun e w' => e = .returned (.int .i64 (le zs)) ∧ w = w' := by
  have HL : Hid (zs.length = 4) := hx.len
  have HB : Hid (Bytes zs) := hx.bytes
  go_enter Tryd.func66, Tryd.ntmps66
  go_wp2
  go_loopw [3, 4] (fun v i wr => ∃ (m : Nat) (I : Int), m ≤ 4 ∧ I + 1 = m ∧ i = .int .i64 I ∧ v = .int .i64 (le (zs.drop m)) ∧ wr = w) (fun _ i _ => (intOf i + 1).toNat)
  case atStart => exact ⟨4, 3, by omega, by omega, rfl, by rw [List.drop_of_length_le (by have := HL.out; omega)]; rfl, rfl⟩
  case round =>
    obtain ⟨m, I, hm, hI, rfl, rfl, rfl⟩ := hrel
    by_cases hlt : 0 < m
    · obtain ⟨b, o, rfl, hb, hc⟩ := hx.cells (by decide)
      obtain ⟨p, rfl⟩ : ∃ p, m = p + 1 := ⟨m - 1, by omega⟩
      obtain rfl : I = (p : Int) := by omega
      have c1 := hc p (by omega)
      have hd := le_drop zs p (by have := HL.out; omega)
      have hbd := le_bd (zs.drop (p + 1)) (bytes_drop HB.out (p + 1))
      have hlen : (zs.drop (p + 1)).length = 3 - p := by have := HL.out; simp; omega
      have hpw : (256 : Int) ^ (3 - p) ≤ 16777216 := by rcases (show p = 0 ∨ p = 1 ∨ p = 2 ∨ p = 3 by omega) with rfl | rfl | rfl | rfl <;> decide
      rw [hlen] at hbd
      have hz := HB.out.at p (by have := HL.out; omega)
      obtain ⟨Z, hZ⟩ : ∃ Z, zs.getD p 0 = Z := ⟨_, rfl⟩
      obtain ⟨A, hA⟩ : ∃ A, le (zs.drop (p + 1)) = A := ⟨_, rfl⟩
      rw [hZ] at c1 hd hz
      rw [hA] at hd hbd
      have hA2 : 0 ≤ A ∧ A < 16777216 := ⟨hbd.1, Int.lt_of_lt_of_le hbd.2 hpw⟩
      have HO : Hid (A * 256 + Z = le (zs.drop p)) := by show _ = _; rw [hd, Int.mul_comm, Int.add_comm]
      rw [hA]
      have w1 : wrap64 (A * 256) = A * 256 := by simp [wrap64]; omega
      have w2 : wrap64 (A * 256 + Z) = A * 256 + Z := by simp [wrap64]; omega
      have i1 : (0 : Int) ≤ (p : Int) := by omega
      have i2 : (p : Int) < 4 := by omega
      clear hZ hA hc hx hd hbd hpw hlen
      go_wp2
      go_roundw
      case rel => exact ⟨p, (p : Int) - 1, by omega, by omega, by go_num, by rw [← HO.out], by first | rfl | trivial⟩
      case measure => simp [intOf] <;> omega
    · obtain rfl : m = 0 := by omega
      obtain rfl : I = -1 := by omega
      rw [List.drop_zero]
      obtain ⟨A, hA⟩ : ∃ A, le zs = A := ⟨_, rfl⟩
      have HA : Hid (le zs = A) := hA
      rw [hA]
      clear hx hA
      go_wp2
      go_ret
      exact ⟨by rw [HA.out]; rfl, rfl⟩
set_option maxRecDepth 20000 in
set_option maxHeartbeats 4000000 in
theorem rcheck_any (c : Cg) (w : World) : Calls Tryd.prog 11 #[c.v] w fun e w' => e = .returned (.int .i64 c.err) ∧ Below w.heap.size w w' := by
  obtain ⟨L, hL⟩ : ∃ L, wrap64 (26 + c.ms) = L := ⟨_, rfl⟩
  have HE : Hid (c.ok = ((inB c.bt 1 256 && inB c.ms 32 512 && inB c.bk 2 64) && (decide (c.tx ≤ 4096) && decide (L ≤ c.tx) && decide (114 ≤ c.tx)) && (inB c.wi 2 16 && inB c.wk 1 16))) := by
    show _ = _
    unfold Cg.ok
    cases e : inB c.ms 32 512 with
    | false => simp
    | true =>
      have h1 : 32 ≤ c.ms ∧ c.ms ≤ 512 := by simpa [inB] using e
      have h2 : L = 26 + c.ms := by rw [← hL]; simp [wrap64]; omega
      have h3 : inB c.tx c.least 4096 = (decide (c.tx ≤ 4096) && decide (L ≤ c.tx) && decide (114 ≤ c.tx)) := by
        rw [h2, Bool.eq_iff_iff]
        simp only [inB, Bool.and_eq_true, decide_eq_true_eq]
        have hl : c.least = 26 + max c.ms 88 := rfl
        rw [hl]
        by_cases h5 : c.ms ≤ 88
        · have h6 : max c.ms 88 = 88 := by omega
          rw [h6]
          constructor <;> intro h <;> omega
        · have h6 : max c.ms 88 = c.ms := by omega
          rw [h6]
          constructor <;> intro h <;> omega
      rw [h3]
      cases inB c.bt 1 256 <;> cases inB c.bk 2 64 <;> simp [Bool.and_assoc]
  go_enter Tryd.func11, Tryd.ntmps11
  go_upto_region 1 with (((with_reducible show wpList _ _ _ (({ dst := some 1, op := _, type := _, pos := _, after := _, guard := _ } : Oper) :: _) _ _); refine wpList_box_new rfl 23 _ rfl c.cs rfl ?_; intro w1 b1 s1 l1; have z1 : Hid (w1.heap.size = w.heap.size + 1) := s1; clear s1))
  have c0 : w1.cell? ⟨w.heap.size, 0, none⟩ = some (.int .i64 c.bt) := by rw [b1.cell]; rfl
  have c1 : w1.cell? ⟨w.heap.size, 1, none⟩ = some (.int .i64 c.ms) := by rw [b1.cell]; rfl
  have c2 : w1.cell? ⟨w.heap.size, 2, none⟩ = some (.int .i64 c.bk) := by rw [b1.cell]; rfl
  have c3 : w1.cell? ⟨w.heap.size, 3, none⟩ = some (.int .i64 c.tx) := by rw [b1.cell]; rfl
  have c4 : w1.cell? ⟨w.heap.size, 4, none⟩ = some (.int .i64 c.wi) := by rw [b1.cell]; rfl
  have c5 : w1.cell? ⟨w.heap.size, 5, none⟩ = some (.int .i64 c.wk) := by rw [b1.cell]; rfl
  have HB : Hid (Below w.heap.size w w1) := l1
  clear b1 l1
  go_cut [3] from 6 to 74 (fun s3 wc => s3 = .bool (inB c.bt 1 256 && inB c.ms 32 512 && inB c.bk 2 64) ∧ w1 = wc)
  case first =>
    by_cases h0 : 1 ≤ c.bt
    · skip
      by_cases h1 : c.bt ≤ 256
      · skip
        by_cases h2 : 32 ≤ c.ms
        · skip
          by_cases h3 : c.ms ≤ 512
          · skip
            by_cases h4 : 2 ≤ c.bk
            · skip
              by_cases h5 : c.bk ≤ 64
              · skip
                go_wp2_with fail
                go_meet
                exact ⟨congrArg Value.bool (by simp [inB]; omega), rfl⟩
              · skip
                go_wp2_with fail
                go_meet
                exact ⟨congrArg Value.bool (by simp [inB]; omega), rfl⟩
            · skip
              go_wp2_with fail
              go_meet
              exact ⟨congrArg Value.bool (by simp [inB]; omega), rfl⟩
          · skip
            go_wp2_with fail
            go_meet
            exact ⟨congrArg Value.bool (by simp [inB]; omega), rfl⟩
        · skip
          go_wp2_with fail
          go_meet
          exact ⟨congrArg Value.bool (by simp [inB]; omega), rfl⟩
      · skip
        go_wp2_with fail
        go_meet
        exact ⟨congrArg Value.bool (by simp [inB]; omega), rfl⟩
    · skip
      go_wp2_with fail
      go_meet
      exact ⟨congrArg Value.bool (by simp [inB]; omega), rfl⟩
  case rest =>
  obtain ⟨rfl, rfl⟩ := hcut
  generalize (inB c.bt 1 256 && inB c.ms 32 512 && inB c.bk 2 64) = B1 at *
  go_upto_region 2 with fail
  go_cut [4] from 6 to 74 (fun s4 wc => s4 = .bool (decide (c.tx ≤ 4096) && decide (L ≤ c.tx) && decide (114 ≤ c.tx)) ∧ w1 = wc)
  case first =>
    by_cases h0 : c.tx ≤ 4096
    · skip
      by_cases h1 : L ≤ c.tx
      · skip
        by_cases h2 : 114 ≤ c.tx
        · skip
          go_wp2_with fail
          go_meet
          exact ⟨congrArg Value.bool (by simp [inB]; omega), rfl⟩
        · skip
          go_wp2_with fail
          go_meet
          exact ⟨congrArg Value.bool (by simp [inB]; omega), rfl⟩
      · skip
        go_wp2_with fail
        go_meet
        exact ⟨congrArg Value.bool (by simp [inB]; omega), rfl⟩
    · skip
      go_wp2_with fail
      go_meet
      exact ⟨congrArg Value.bool (by simp [inB]; omega), rfl⟩
  case rest =>
  obtain ⟨rfl, rfl⟩ := hcut
  generalize (decide (c.tx ≤ 4096) && decide (L ≤ c.tx) && decide (114 ≤ c.tx)) = B2 at *
  go_upto_region 3 with fail
  go_cut [5] from 6 to 74 (fun s5 wc => s5 = .bool (inB c.wi 2 16 && inB c.wk 1 16) ∧ w1 = wc)
  case first =>
    by_cases h0 : 2 ≤ c.wi
    · skip
      by_cases h1 : c.wi ≤ 16
      · skip
        by_cases h2 : 1 ≤ c.wk
        · skip
          by_cases h3 : c.wk ≤ 16
          · skip
            go_wp2_with fail
            go_meet
            exact ⟨congrArg Value.bool (by simp [inB]; omega), rfl⟩
          · skip
            go_wp2_with fail
            go_meet
            exact ⟨congrArg Value.bool (by simp [inB]; omega), rfl⟩
        · skip
          go_wp2_with fail
          go_meet
          exact ⟨congrArg Value.bool (by simp [inB]; omega), rfl⟩
      · skip
        go_wp2_with fail
        go_meet
        exact ⟨congrArg Value.bool (by simp [inB]; omega), rfl⟩
    · skip
      go_wp2_with fail
      go_meet
      exact ⟨congrArg Value.bool (by simp [inB]; omega), rfl⟩
  case rest =>
  obtain ⟨rfl, rfl⟩ := hcut
  generalize (inB c.wi 2 16 && inB c.wk 1 16) = B3 at *
  have HR : Hid (c.err = if (B1 && B2 && B3) = true then 0 else 200) := by show _ = _; unfold Cg.err; rw [HE.out]
  clear HE
  cases B1 <;> cases B2 <;> cases B3 <;> (go_wp2_with fail; go_ret; exact ⟨by rw [HR.out]; rfl, HB.out⟩)
theorem cg_build (a b c d e f : Int) (w : World) : (Instr.build 23 #[(0, .int .i64 a), (1, .int .i64 b), (2, .int .i64 c), (3, .int .i64 d), (4, .int .i64 e), (5, .int .i64 f)]).run Tryd.prog w = .ok (.agg (Cg.cs ⟨a, b, c, d, e, f⟩).toArray) w := by kernel_rfl
end Go.Proofs.YtmgkjldjeomcmaaDoor
