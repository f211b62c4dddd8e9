/- Layer field: Of. -/
import Derived.Test.YtnifolefhelmcaaFOfM
namespace Go.Proofs.Ytnifolefhelmcaa
open Go.RowKit
set_option linter.unusedVariables false
set_option linter.unusedSimpArgs false

set_option maxRecDepth 20000 in
theorem idx_A32 (zs : List Int) (hl : zs.length = 32) (k : Nat) (hk : k < 32) (w : World) : (Instr.index 29 (.agg (u8s zs).toArray) (.int .i64 k)).run Try.prog w = .ok (.int .u8 (zs.getD k 0)) w := by
  have hsz : ∀ w, (sizeOf 5).run Try.prog w = .ok 1 w := fun w => by
    have h := infoB8
    cases hq : Try.prog.info? 5 with
    | none => simp [hq] at h
    | some i => simp [hq] at h; simp [sizeOf, typeInfo, hq, h.2]
  have px : (Go.part 5 (u8s zs).toArray (k * 1)).run Try.prog w = .ok (.int .u8 (zs.getD k 0)) w := by
    simp [Go.part, isAgg, run_underlying Try.underlying5, u8s, List.getD, List.getElem?_eq_getElem (show k < zs.length by omega)]
  rw [Nat.mul_one] at px
  simp [Instr.index, run_underlying Try.underlying29, asIntOf, hsz, hk, px]
theorem le_takeS (a : List Int) (k : Nat) (hk : k < a.length) : le (a.take (k + 1)) = le (a.take k) + 256 ^ k * a.getD k 0 := by
  have app : ∀ (x y : List Int), le (x ++ y) = le x + 256 ^ x.length * le y := by
    intro x y
    induction x with
    | nil => simp [le]
    | cons z x ih => simp only [List.cons_append, le, ih, List.length_cons, Int.pow_succ]; rw [Int.mul_add, ← Int.add_assoc, Int.mul_comm (256 ^ x.length) 256, Int.mul_assoc]
  rw [List.take_succ_eq_append_getElem hk, app, List.length_take, Nat.min_eq_left (by omega)]
  simp [le, List.getD, hk]
set_option maxRecDepth 20000 in
set_option maxHeartbeats 1000000 in
theorem fof_any (bs : List Int) (hl : bs.length = 32) (hb : Bytes bs) (w : World) :
    Calls Try.prog 13 #[.agg (u8s bs).toArray] w fun e w' => ∃ r, e = .returned (.agg (u64s r).toArray) ∧ Fe r (le bs % 57896044618658097711785492504343953926634992332820282019728792003956564819968 % PR) ∧ Below w.heap.size w w' := by
  have HL : Hid (bs.length = 32 ∧ Bytes bs ∧ (u8s bs).length = 32) := ⟨hl, hb, by rw [u8s_length]; exact hl⟩
  clear hl hb
  go_enter Try.func13, Try.ntmps13
  go_wp2_with (first | (refine wpList_box_new rfl 29 (.tmp 0) rfl (u8s bs) rfl ?_; intro x1 z1 s1 l1) | ((with_reducible show wpList _ _ _ _ _ x1); refine wpList_alloc_new rfl 27 rfl 5 _ zeroElem ?_; intro x2 z2 s2 l2; rw [s1] at z2; have b1 := z1.later l2 (by omega)) | ((with_reducible show wpList _ _ _ _ _ x2); refine wpList_alloc_new rfl 27 rfl 5 _ zeroElem ?_; intro x3 z3 s3 l3; rw [s2, s1] at z3; have b2 := b1.later l3 (by omega)) | (refine wpList_load_blk rfl 29 _ rfl w.heap.size rfl (u8s bs) _ b2 Try.underlying29 rfl (by rw [HL.out.2.2]; exact size32) ?_))
  have WW : Hid (Below w.heap.size w x3 ∧ Blk x3 (w.heap.size + 1) 27 (u64s [0, 0, 0, 0, 0]) ∧ Blk x3 (w.heap.size + 1 + 1) 27 (u64s [0, 0, 0, 0, 0])) := ⟨below_chain (below_chain l1 l2 (by omega)) l3 (by omega), z2.later l3 (by omega), z3⟩
  clear z1 s1 l1 z2 s2 l2 z3 s3 l3 b1 b2
  go_loopw [9] (fun i wr => ∃ (k : Nat), k ≤ 32 ∧ i = .int .i64 k ∧ Blk wr (w.heap.size + 1 + 1) 27 (u64s (digs (le (bs.take k)))) ∧ Kept (fun x => x = w.heap.size + 1 + 1) x3 wr) (fun i _ => 32 - (intOf i).toNat)
  case atStart => exact ⟨0, by omega, rfl, WW.out.2.2, Kept.refl _ _⟩
  case round =>
    obtain ⟨k, hk, rfl, hblk, hkp⟩ := hrel
    by_cases hlt : k < 32
    · have i1 : (k : Int) < 32 := by omega
      have i3 : (0 : Int) ≤ (k : Int) := by omega
      obtain ⟨q, hq⟩ : ∃ q : Nat, 8 * k / 51 = q := ⟨_, rfl⟩
      obtain ⟨f, hf⟩ : ∃ f : Nat, 8 * k % 51 = f := ⟨_, rfl⟩
      have j1 : IntKind.i64.wrap (8 * (k : Int)) = 8 * (k : Int) := by simp only [IntKind.wrap, IntKind.bits, IntKind.signed]; simp; omega
      have j2 : Int.tdiv (8 * (k : Int)) 51 = (q : Int) := by rw [Int.tdiv_eq_ediv_of_nonneg (by omega)]; omega
      have j3 : Int.tmod (8 * (k : Int)) 51 = (f : Int) := by rw [Int.tmod_eq_emod_of_nonneg (by omega)]; omega
      have hq5 : q < 5 := by omega
      have hf5 : f < 51 := by omega
      have f1 := idx_A32 bs HL.out.1 k hlt
      have hO : 0 ≤ bs.getD k 0 ∧ bs.getD k 0 < 256 := by have := HL.out.2.1.at k (by rw [HL.out.1]; exact hlt); omega
      have hS := le_takeS bs k (by rw [HL.out.1]; exact hlt)
      obtain ⟨O, hOO⟩ : ∃ z, bs.getD k 0 = z := ⟨_, rfl⟩
      rw [hOO] at f1 hO hS
      have hV := le_bd (bs.take k) (fun z hz => HL.out.2.1 z (List.mem_of_mem_take hz))
      rw [List.length_take, HL.out.1, Nat.min_eq_left hk] at hV
      obtain ⟨V, hVV⟩ : ∃ z, le (bs.take k) = z := ⟨_, rfl⟩
      rw [hVV] at hV hS hblk
      obtain ⟨X, hX⟩ : ∃ z, (digs V).getD q 0 = z := ⟨_, rfl⟩
      have ck : wr.cell? ⟨w.heap.size + 1 + 1, q, none⟩ = some (.int .u64 X) := by
        rw [hblk.cell, u64s_getD (l := digs V) (show q < (digs V).length from hq5), ← hX]
        simp [List.getD, show q < (digs V).length from hq5]
      have fg := hblk.frozen q
      have j4 : (q : Int) < 5 := by omega
      have j5 : (0 : Int) ≤ (q : Int) := by omega
      have j6 : (f : Int) < 51 := by omega
      have j7 : (0 : Int) ≤ (f : Int) := by omega
      by_cases hA : (43 : Int) < (f : Int)
      · by_cases hC : (q : Int) + 1 < 5
        · obtain ⟨q1, hq1⟩ : ∃ q1 : Nat, q + 1 = q1 := ⟨_, rfl⟩
          obtain ⟨s, hs⟩ : ∃ s : Nat, 51 - f = s := ⟨_, rfl⟩
          have M := of_two V O k q f s hlt hV hO hq hf hs (by omega) (by omega)
          rw [hX, ← hS] at M
          obtain ⟨m1, m2, m3, m4, m5, m6⟩ := M
          rw [hq1] at m4 m6
          have hq15 : q1 < 5 := by omega
          have dk : wr.cell? ⟨w.heap.size + 1 + 1, q1, none⟩ = some (.int .u64 0) := by
            rw [hblk.cell, u64s_getD (l := digs V) (show q1 < (digs V).length from hq15), ← m4]
            simp [List.getD, show q1 < (digs V).length from hq15]
          have fh := hblk.frozen q1
          have g2 : (q : Int) + 1 = (q1 : Int) := by omega
          have g4 : (51 - (f : Int)) = (s : Int) := by omega
          have g5 : (q1 : Int) < 5 := by omega
          have g6 : (0 : Int) ≤ (q1 : Int) := by omega
          have g7 : (0 : Int) ≤ (s : Int) := by omega
          have g8 : IntKind.i64.wrap (q1 : Int) = (q1 : Int) := by simp only [IntKind.wrap, IntKind.bits, IntKind.signed]; simp; omega
          have g9 : IntKind.i64.wrap (s : Int) = (s : Int) := by simp only [IntKind.wrap, IntKind.bits, IntKind.signed]; simp; omega
          have t0 : IntKind.u64.wrap O = O := by rw [IntKind.wrap_u64]; omega
          have t1 : IntKind.u64.wrap (O * 2 ^ f) = O * 2 ^ f := by rw [IntKind.wrap_u64]; omega
          have t2 := and51 (O * 2 ^ f) m1.1 m1.2
          have t3 := or64 f X (O * 2 ^ f % 2251799813685248) (by omega) m2 (by omega) m3
          have t4 := or64_zero (O / 2 ^ s) ⟨m5.1, by omega⟩
          have hne : q1 ≠ q := by omega
          rw [g2] at hC
          have HQ : Hid (Blk wr (w.heap.size + 1 + 1) 27 (u64s (digs V)) ∧ Kept (fun x => x = w.heap.size + 1 + 1) x3 wr ∧ ((digs V).set q (X + O * 2 ^ f % 2251799813685248)).set q1 (O / 2 ^ s) = digs (le (bs.take (k + 1)))) := ⟨hblk, hkp, m6⟩
          clear hq1 hs hq hf hX hblk hkp m1 m2 m3 m4 m5 m6 hS hV hVV hOO hO
          go_wp2_with fail
          go_region_with fail
          go_wp2_with fail
          go_region_with fail
          go_wp2_with fail
          all_goals (
          go_roundw
          case rel =>
            have R := ((HQ.out.1.set q (.int .u64 (X + O * 2 ^ f % 2251799813685248))).set q1 (.int .u64 (O / 2 ^ s))).drew.drew
            rw [u64s_set, u64s_set, HQ.out.2.2] at R
            exact ⟨k + 1, by omega, by go_num, R, (((HQ.out.2.1.setCell rfl _).setCell rfl _).drewN 1).drewN 1⟩
          case measure => simp [intOf]; omega)
        · have M := of_one V O k q f hlt hV hO hq hf (by omega)
          rw [hX, ← hS] at M
          obtain ⟨m1, m2, m3, m6⟩ := M
          have t0 : IntKind.u64.wrap O = O := by rw [IntKind.wrap_u64]; omega
          have t1 : IntKind.u64.wrap (O * 2 ^ f) = O * 2 ^ f := by rw [IntKind.wrap_u64]; omega
          have t2 := and51 (O * 2 ^ f) m1.1 m1.2
          have t3 := or64 f X (O * 2 ^ f % 2251799813685248) (by omega) m2 (by omega) m3
          have HQ : Hid (Blk wr (w.heap.size + 1 + 1) 27 (u64s (digs V)) ∧ Kept (fun x => x = w.heap.size + 1 + 1) x3 wr ∧ (digs V).set q (X + O * 2 ^ f % 2251799813685248) = digs (le (bs.take (k + 1)))) := ⟨hblk, hkp, m6⟩
          clear hq hf hX hblk hkp m1 m2 m3 m6 hS hV hVV hOO hO
          go_wp2_with fail
          go_region_with fail
          go_wp2_with fail
          all_goals (
          go_roundw
          case rel =>
            have R := (HQ.out.1.set q (.int .u64 (X + O * 2 ^ f % 2251799813685248))).drew
            rw [u64s_set, HQ.out.2.2] at R
            exact ⟨k + 1, by omega, by go_num, R, (HQ.out.2.1.setCell rfl _).drewN 1⟩
          case measure => simp [intOf]; omega)
      · have M := of_one V O k q f hlt hV hO hq hf (by omega)
        rw [hX, ← hS] at M
        obtain ⟨m1, m2, m3, m6⟩ := M
        have t0 : IntKind.u64.wrap O = O := by rw [IntKind.wrap_u64]; omega
        have t1 : IntKind.u64.wrap (O * 2 ^ f) = O * 2 ^ f := by rw [IntKind.wrap_u64]; omega
        have t2 := and51 (O * 2 ^ f) m1.1 m1.2
        have t3 := or64 f X (O * 2 ^ f % 2251799813685248) (by omega) m2 (by omega) m3
        have HQ : Hid (Blk wr (w.heap.size + 1 + 1) 27 (u64s (digs V)) ∧ Kept (fun x => x = w.heap.size + 1 + 1) x3 wr ∧ (digs V).set q (X + O * 2 ^ f % 2251799813685248) = digs (le (bs.take (k + 1)))) := ⟨hblk, hkp, m6⟩
        clear hq hf hX hblk hkp m1 m2 m3 m6 hS hV hVV hOO hO
        go_wp2_with fail
        go_region_with fail
        go_wp2_with fail
        all_goals (
        go_roundw
        case rel =>
          have R := (HQ.out.1.set q (.int .u64 (X + O * 2 ^ f % 2251799813685248))).drew
          rw [u64s_set, HQ.out.2.2] at R
          exact ⟨k + 1, by omega, by go_num, R, (HQ.out.2.1.setCell rfl _).drewN 1⟩
        case measure => simp [intOf]; omega)
    · have hk5 : k = 32 := by omega
      have i1 : ¬ ((k : Int) < 32) := by omega
      have X1 : Hid (Blk wr (w.heap.size + 1 + 1) 27 (u64s (digs (le bs))) ∧ Blk wr (w.heap.size + 1) 27 (u64s [0, 0, 0, 0, 0]) ∧ Below w.heap.size w wr ∧ Fe (digs (le bs)) (le bs % 57896044618658097711785492504343953926634992332820282019728792003956564819968 % PR)) := ⟨by rw [hk5, List.take_of_length_le (by rw [HL.out.1]; omega)] at hblk; exact hblk, WW.out.2.1.kept hkp (by omega), below_kept WW.out.1 hkp WW.out.1.size (fun j hj => by omega), digs_fe _ (le_bd bs HL.out.2.1).1⟩
      obtain ⟨lr, hlr⟩ : ∃ z, digs (le bs) = z := ⟨_, rfl⟩
      rw [hlr] at X1
      have HF : Hid (lr.length = 5) := X1.out.2.2.2.len
      clear hblk hkp hk5 hlt hk hlr
      go_wp2_with (first | (refine wpList_load_blk rfl 27 _ rfl (w.heap.size + 1 + 1) rfl (u64s lr) _ X1.out.1 Try.underlying27 rfl (by rw [u64s_length, HF.out]; exact sizeElem) ?_) | (refine wpList_store_blk rfl 27 27 _ _ rfl _ rfl _ (u64s lr) rfl X1.out.2.1 (by rw [u64s_length, HF.out]; rfl) (by rw [u64s_length, HF.out]; exact sizeElem) (u64s_one _) ?_; intro w6 b6 s6 k6))
      exact ret_blk rfl (w.heap.size + 1) (u64s lr) _ rfl b6 Try.underlying27 rfl (by rw [u64s_length, HF.out]; exact sizeElem) rfl ⟨lr, rfl, X1.out.2.2.2, below_kept X1.out.2.2.1 k6 X1.out.2.2.1.size (fun j hj => by omega)⟩
end Go.Proofs.Ytnifolefhelmcaa
