/- Layer field: Zero, Equal; the statements' one. -/
import Derived.Test.YtnifolefhelmcaaFAdd
import Derived.Test.YtnifolefhelmcaaFBytes
import Derived.Test.YtnifolefhelmcaaRInvG
import Derived.Laws.StructEq
import Derived.Lib.SmallJoins
namespace Go.Proofs.Ytnifolefhelmcaa
open Go.RowKit Go.Joins
set_option linter.unusedVariables false
set_option linter.unusedSimpArgs false

theorem equal32A (t : TypeId) (n : Nat) (ht : Try.prog.underlying t = some (.array n 5)) (d : Nat) (zs : List Int) (hl : zs.length = n) (w : World) : (Op.equalIn (d + 2) t (.agg (u8s zs).toArray) (.agg (u8s zs).toArray)).run Try.prog w = .ok true w := by
  have hsz : ∀ w, (sizeOf 5).run Try.prog w = .ok 1 w := fun w => by
    have h := infoB8
    cases hq : Try.prog.info? 5 with
    | none => simp [hq] at h
    | some i => simp [hq] at h; simp [sizeOf, typeInfo, hq, h.2]
  have he := Try.underlying5
  rw [Op.equalIn]
  simp only [Sem.run_bind, run_underlying ht, Result.andThen_ok, hsz, Std.Legacy.Range.forIn_eq_forIn_range', Std.Legacy.Range.size, Nat.sub_zero, Nat.add_sub_cancel, Nat.div_one]
  have hlr : ∀ i ∈ List.range' 0 n 1, i < n := fun i hi => by simpa using (List.mem_range'_1.1 hi).2
  generalize List.range' 0 n 1 = l at hlr ⊢
  induction l with
  | nil => simp
  | cons i l ih =>
    have hi : i < n := hlr i (by simp)
    have px : (Go.part 5 (u8s zs).toArray (i * 1)).run Try.prog w = .ok (.int .u8 (zs.getD i 0)) w := by
      simp [Go.part, isAgg, run_underlying he, u8s, List.getD, List.getElem?_eq_getElem (show i < zs.length by omega)]
    have pe : (Op.equalIn (d + 1) 5 (.int .u8 (zs.getD i 0)) (.int .u8 (zs.getD i 0))).run Try.prog w = .ok true w := by
      rw [run_equalIn_int w d 5 .u8 .u8 _ _ he]; simp
    simp only [List.forIn_cons, Sem.run_bind, px, pe, Result.andThen_ok]
    simp only [Bool.not_true, Bool.false_eq_true, if_false, Sem.run_pure, Result.andThen_ok]
    exact ih fun j hj => hlr j (by simp [hj])
def nonL (kind number : Int) : List Int := leB 4 kind ++ leB 8 number
theorem equal32_no (d : Nat) (zs ys : List Int) (hl : zs.length = 32) (hm : ys.length = 32) (hne : zs ≠ ys) (w : World) : (Op.equalIn (d + 2) 29 (.agg (u8s zs).toArray) (.agg (u8s ys).toArray)).run Try.prog w = .ok false w := by
  have hsz : ∀ w, (sizeOf 5).run Try.prog w = .ok 1 w := fun w => by
    have h := infoB8
    cases hq : Try.prog.info? 5 with
    | none => simp [hq] at h
    | some i => simp [hq] at h; simp [sizeOf, typeInfo, hq, h.2]
  have ht := Try.underlying29
  have he := Try.underlying5
  rw [Op.equalIn]
  simp only [Sem.run_bind, run_underlying ht, Result.andThen_ok, hsz, Std.Legacy.Range.forIn_eq_forIn_range', Std.Legacy.Range.size, Nat.sub_zero, Nat.add_sub_cancel, Nat.div_one]
  have hlr : ∀ i ∈ List.range' 0 32 1, i < 32 := fun i hi => by simpa using (List.mem_range'_1.1 hi).2
  have hex : ∃ i ∈ List.range' 0 32 1, zs.getD i 0 ≠ ys.getD i 0 := by
    apply Classical.byContradiction
    intro hno
    refine hne (List.ext_getElem (by rw [hl, hm]) fun i h1 h2 => ?_)
    have := Classical.not_not.1 fun h => hno ⟨i, List.mem_range'_1.2 ⟨by omega, by omega⟩, h⟩
    simpa [List.getD, h1, h2] using this
  generalize List.range' 0 32 1 = l at hlr hex ⊢
  induction l with
  | nil => obtain ⟨i, hi, _⟩ := hex; cases hi
  | cons i l ih =>
    have hi : i < 32 := hlr i (by simp)
    have px : (Go.part 5 (u8s zs).toArray (i * 1)).run Try.prog w = .ok (.int .u8 (zs.getD i 0)) w := by
      simp [Go.part, isAgg, run_underlying he, u8s, List.getD, List.getElem?_eq_getElem (show i < zs.length by omega)]
    have py : (Go.part 5 (u8s ys).toArray (i * 1)).run Try.prog w = .ok (.int .u8 (ys.getD i 0)) w := by
      simp [Go.part, isAgg, run_underlying he, u8s, List.getD, List.getElem?_eq_getElem (show i < ys.length by omega)]
    by_cases hxy : zs.getD i 0 = ys.getD i 0
    · have pe : (Op.equalIn (d + 1) 5 (.int .u8 (zs.getD i 0)) (.int .u8 (ys.getD i 0))).run Try.prog w = .ok true w := by
        rw [run_equalIn_int w d 5 .u8 .u8 _ _ he, hxy]; simp
      simp only [List.forIn_cons, Sem.run_bind, px, py, pe, Result.andThen_ok]
      simp only [Bool.not_true, Bool.false_eq_true, if_false, Sem.run_pure, Result.andThen_ok]
      refine ih (fun j hj => hlr j (by simp [hj])) ?_
      obtain ⟨j, hj, hd⟩ := hex
      rcases List.mem_cons.1 hj with rfl | hj
      · exact absurd hxy hd
      · exact ⟨j, hj, hd⟩
    · have pe : (Op.equalIn (d + 1) 5 (.int .u8 (zs.getD i 0)) (.int .u8 (ys.getD i 0))).run Try.prog w = .ok false w := by
        rw [run_equalIn_int w d 5 .u8 .u8 _ _ he, show (zs.getD i 0 == ys.getD i 0) = false by rw [beq_eq_false_iff_ne]; exact hxy]
      simp only [List.forIn_cons, Sem.run_bind, px, py, pe, Result.andThen_ok]
      simp
theorem equal32_dec (d : Nat) (zs ys : List Int) (hl : zs.length = 32) (hm : ys.length = 32) (w : World) : (Op.equalIn (d + 2) 29 (.agg (u8s zs).toArray) (.agg (u8s ys).toArray)).run Try.prog w = .ok (decide (zs = ys)) w := by
  by_cases h : zs = ys
  · subst h
    rw [equal32A 29 32 Try.underlying29 d zs hl w]; simp
  · rw [equal32_no d zs ys hl hm h w]; simp [h]
theorem mzero_any (x : Int) (hx : Word x) (w : World) :
    Calls Try.prog 63 #[.int .u64 x] w fun e w' => e = .returned (.int .u64 (mk (x == 0))) ∧ w = w' := by
  have hb : Word (bits .or .u64 x (IntKind.u64.wrap (-x)) / 9223372036854775808) := by rw [top_code x hx]; split <;> decide
  have H : Hid (bits .xor .u64 IntKind.u64.max (mk (bits .or .u64 x (IntKind.u64.wrap (-x)) / 9223372036854775808 % 2 == 1)) = mk (x == 0)) := by
    show _ = _
    rw [not_mk, top_code x hx]
    by_cases h : x = 0
    · simp [h]
    · have h' : (x == 0) = false := by simpa using h
      simp [h, h']
  go_enter Try.func63, Try.ntmps63
  go_wp2_with (go_at_call 65; refine (bit_any _ hb _).mono ?_; rintro e w' ⟨rfl, rfl⟩)
  go_ret
  exact ⟨ret_int H.out, rfl⟩
theorem or_zero_iff (a b : Int) (ha : Word a) (hb : Word b) : Word (bits .or .u64 a b) ∧ (bits .or .u64 a b = 0 ↔ a = 0 ∧ b = 0) := by
  rw [u64_or _ _ ha.1 ha.2 hb.1 hb.2]
  obtain ⟨x, rfl⟩ := Int.eq_ofNat_of_zero_le ha.1
  obtain ⟨y, rfl⟩ := Int.eq_ofNat_of_zero_le hb.1
  have h1 := ha.2
  have h2 := hb.2
  simp only [Int.toNat_natCast]
  have h3 : x ||| y < 2 ^ 64 := Nat.or_lt_two_pow (by omega) (by omega)
  refine ⟨⟨by omega, by omega⟩, ?_⟩
  have e : x ||| y = 0 ↔ x = 0 ∧ y = 0 := by
    constructor
    · intro h
      refine ⟨Nat.eq_of_testBit_eq fun i => ?_, Nat.eq_of_testBit_eq fun i => ?_⟩
      · have := congrArg (·.testBit i) h
        simp only [Nat.testBit_or, Nat.zero_testBit, Bool.or_eq_false_iff] at this
        simp [this.1]
      · have := congrArg (·.testBit i) h
        simp only [Nat.testBit_or, Nat.zero_testBit, Bool.or_eq_false_iff] at this
        simp [this.2]
    · rintro ⟨rfl, rfl⟩; rfl
  omega
theorem digs_zero (x : Int) (h : 0 ≤ x ∧ x < 57896044618658097711785492504343953926634992332820282019728792003956564819968) : (∀ j, j < 5 → (digs x).getD j 0 = 0) ↔ x = 0 := by
  constructor
  · intro hz
    have h0 := hz 0 (by omega)
    have h1 := hz 1 (by omega)
    have h2 := hz 2 (by omega)
    have h3 := hz 3 (by omega)
    have h4 := hz 4 (by omega)
    simp only [digs, List.getD_cons_zero, List.getD_cons_succ] at h0 h1 h2 h3 h4
    omega
  · rintro rfl j hj
    match j, hj with
    | 0, _ => rfl
    | 1, _ => rfl
    | 2, _ => rfl
    | 3, _ => rfl
    | 4, _ => rfl
theorem digs_word (x : Int) (j : Nat) : Word ((digs x).getD j 0) := by
  match j with
  | 0 => exact ⟨by simp only [digs, List.getD_cons_zero, List.getD_cons_succ]; omega, by simp only [digs, List.getD_cons_zero, List.getD_cons_succ]; omega⟩
  | 1 => exact ⟨by simp only [digs, List.getD_cons_zero, List.getD_cons_succ]; omega, by simp only [digs, List.getD_cons_zero, List.getD_cons_succ]; omega⟩
  | 2 => exact ⟨by simp only [digs, List.getD_cons_zero, List.getD_cons_succ]; omega, by simp only [digs, List.getD_cons_zero, List.getD_cons_succ]; omega⟩
  | 3 => exact ⟨by simp only [digs, List.getD_cons_zero, List.getD_cons_succ]; omega, by simp only [digs, List.getD_cons_zero, List.getD_cons_succ]; omega⟩
  | 4 => exact ⟨by simp only [digs, List.getD_cons_zero, List.getD_cons_succ]; omega, by simp only [digs, List.getD_cons_zero, List.getD_cons_succ]; omega⟩
  | j + 5 => exact ⟨by simp [digs], by simp [digs]⟩
set_option maxRecDepth 20000 in
set_option maxHeartbeats 1000000 in
theorem fzero_any (l : List Int) (x : Int) (hl : Fe l x) (w : World) :
    Calls Try.prog 19 #[.agg (u64s l).toArray] w fun e w' => e = .returned (.int .u64 (mk (x == 0))) ∧ Below w.heap.size w w' := by
  have hx : 0 ≤ x ∧ x < 57896044618658097711785492504343953926634992332820282019728792003956564819968 := by have h := hl.bd; unfold PR at h; omega
  have HL : Hid (Fe l x ∧ l.length = 5 ∧ ((∀ j, j < 5 → (digs x).getD j 0 = 0) ↔ x = 0)) := ⟨hl, hl.len, digs_zero x hx⟩
  have HD : Hid ((digs x).length = 5 ∧ (u64s (digs x)).length = 5) := ⟨rfl, rfl⟩
  have HW : Hid (∀ j, Word ((digs x).getD j 0)) := digs_word x
  obtain ⟨D, hD⟩ : ∃ z, digs x = z := ⟨_, rfl⟩
  have HR : Hid (∀ g W, Blk W g 27 (u64s l) → Calls Try.prog 62 #[.pointer (some ⟨g, 0, none⟩)] W fun e w' => e = .returned (.tuple #[]) ∧ Blk w' g 27 (u64s D) ∧ Kept (fun k => k = g) W w') := by rw [← hD]; exact fun g W hB => reduce_any g l x W hB hl
  rw [hD] at HL HD HW
  clear hl hx hD
  go_enter Try.func19, Try.ntmps19
  go_wp2_with (first | (refine wpList_box_new rfl 27 (.tmp 0) rfl (u64s l) rfl ?_; intro x1 z1 s1 l1) | (go_at_call 62; refine (HR.out _ _ z1).mono ?_; rintro e x3 ⟨rfl, b3, k3⟩) | (refine wpList_load_mid rfl 25 _ rfl w.heap.size 0 rfl (u64s D) _ b3.whole Try.underlying25 rfl (by rw [HD.out.2]; exact sizeA5) ?_))
  have WW : Hid (Below w.heap.size w x3) := below_kept l1 k3 (by omega) (fun j hj => by omega)
  clear z1 s1 l1 b3 k3
  go_loopw [3, 9] (fun a i wr => ∃ (k : Nat) (A : Int), k ≤ 5 ∧ i = .int .i64 k ∧ a = .int .u64 A ∧ x3 = wr ∧ Word A ∧ (A = 0 ↔ ∀ j, j < k → D.getD j 0 = 0)) (fun _ i _ => 5 - (intOf i).toNat)
  case atStart => exact ⟨0, 0, by omega, rfl, rfl, rfl, ⟨by decide, by decide⟩, by simp⟩
  case round =>
    obtain ⟨k, A, hk, rfl, rfl, rfl, hA, hz⟩ := hrel
    by_cases hlt : k < 5
    · have i1 : (k : Int) < 5 := by omega
      have i3 : (0 : Int) ≤ (k : Int) := by omega
      have f1 := idx_A5 D HD.out.1 k hlt
      have hw := HW.out k
      obtain ⟨X, hX⟩ : ∃ z, D.getD k 0 = z := ⟨_, rfl⟩
      rw [hX] at f1 hw
      have HO : Hid (Word (bits .or .u64 A X) ∧ (bits .or .u64 A X = 0 ↔ ∀ j, j < k + 1 → D.getD j 0 = 0)) := by
        obtain ⟨o1, o2⟩ := or_zero_iff A X hA hw
        refine ⟨o1, o2.trans ⟨fun h j hj => ?_, fun h => ⟨hz.2 fun j hj => h j (by omega), by rw [← hX]; exact h k (by omega)⟩⟩⟩
        by_cases e : j = k
        · subst e; rw [hX]; exact h.2
        · exact hz.1 h.1 j (by omega)
      clear hA hz hX hw
      go_wp2_with fail
      go_roundw
      case rel => exact ⟨k + 1, _, by omega, by go_num, rfl, trivial, HO.out.1, HO.out.2⟩
      case measure => simp [intOf]; omega
    · have hk5 : k = 5 := by omega
      have i1 : ¬ ((k : Int) < 5) := by omega
      have HQ : Hid (mk (A == 0) = mk (x == 0)) := by
        rw [hk5] at hz
        have : (A == 0) = (x == 0) := by
          rw [Bool.eq_iff_iff, beq_iff_eq, beq_iff_eq]
          exact hz.trans HL.out.2.2
        show mk (A == 0) = mk (x == 0)
        rw [this]
      clear hz hk5 hlt hk
      go_wp2_with (go_at_call 63; refine (mzero_any _ hA _).mono ?_; rintro e w' ⟨rfl, rfl⟩)
      go_ret
      exact ⟨ret_int HQ.out, WW.out⟩
set_option maxRecDepth 20000 in
set_option maxHeartbeats 1000000 in
theorem fequal_any (l m : List Int) (x y : Int) (hl : Fe l x) (hm : Fe m y) (w : World) :
    Calls Try.prog 21 #[.agg (u64s l).toArray, .agg (u64s m).toArray] w fun e w' => e = .returned (.int .u64 (mk (x == y))) ∧ Below w.heap.size w w' := by
  have HL : Hid (Fe l x ∧ l.length = 5 ∧ Fe m y ∧ m.length = 5) := ⟨hl, hl.len, hm, hm.len⟩
  have HE : Hid (((x - y) % PR == 0) = (x == y)) := by
    have h1 := hl.bd; have h2 := hm.bd
    rw [Bool.eq_iff_iff, beq_iff_eq, beq_iff_eq]
    unfold PR at *
    constructor <;> intro h <;> omega
  clear hl hm
  go_enter Try.func21, Try.ntmps21
  go_wp2_with (first | (refine wpList_box_new rfl 27 (.tmp 0) rfl (u64s l) rfl ?_; intro x1 z1 s1 l1) | (refine wpList_box_new rfl 27 (.tmp 1) rfl (u64s m) rfl ?_; intro x2 z2 s2 l2; rw [s1] at z2; have b1 := z1.later l2 (by omega)) | (refine wpList_load_blk rfl 27 (.tmp 2) rfl w.heap.size rfl (u64s l) _ b1 Try.underlying27 rfl (by rw [u64s_length, HL.out.2.1]; exact sizeElem) ?_) | (refine wpList_load_blk rfl 27 (.tmp 3) rfl (w.heap.size + 1) rfl (u64s m) _ z2 Try.underlying27 rfl (by rw [u64s_length, HL.out.2.2.2]; exact sizeElem) ?_) | (go_at_call 52; refine (sub_any _ _ _ _ HL.out.1 HL.out.2.2.1 _).mono ?_; rintro e x3 ⟨r, rfl, hr, l3⟩) | (go_at_call 19; refine (fzero_any _ _ hr _).mono ?_; rintro e x4 ⟨rfl, l4⟩))
  go_ret
  exact ⟨ret_int (by rw [HE.out]), below_chain (below_chain (below_chain l1 l2 (by omega)) l3 (by omega)) l4 (by have := l3.size; omega)⟩
set_option maxRecDepth 20000 in
set_option maxHeartbeats 1000000 in
theorem one_yes (l m : List Int) (x : Int) (hl : Fe l x) (hm : Fe m x) (w : World) :
    Calls Try.prog 24 #[.agg (u64s l).toArray, .agg (u64s m).toArray] w fun e w' => e = .returned (.bool true) ∧ Below w.heap.size w w' := by
  have HL : Hid (Fe l x ∧ (u64s l).length = 5 ∧ Fe m x ∧ (u64s m).length = 5) := ⟨hl, by rw [u64s_length, hl.len], hm, by rw [u64s_length, hm.len]⟩
  have HC : Hid ((∀ w, Calls Try.prog 21 #[.agg (u64s l).toArray, .agg (u64s m).toArray] w fun e w' => e = .returned (.int .u64 18446744073709551615) ∧ Below w.heap.size w w') ∧ (∀ w, Calls Try.prog 18 #[.agg (u64s l).toArray] w fun e w' => e = .returned (.agg (u8s (leB 32 x)).toArray) ∧ Below w.heap.size w w') ∧ (∀ w, Calls Try.prog 18 #[.agg (u64s m).toArray] w fun e w' => e = .returned (.agg (u8s (leB 32 x)).toArray) ∧ Below w.heap.size w w')) := by
    refine ⟨fun w => ?_, fbytes_any l x hl, fbytes_any m x hm⟩
    have h := fequal_any l m x x hl hm w
    rwa [beq_self_eq_true] at h
  have heq : ∀ wx, (Op.equalIn 10000 29 (.agg (u8s (leB 32 x)).toArray) (.agg (u8s (leB 32 x)).toArray)).run Try.prog wx = .ok true wx := equal32A 29 32 Try.underlying29 9998 _ (leB_length _ _)
  obtain ⟨B, hB⟩ : ∃ z, leB 32 x = z := ⟨_, rfl⟩
  rw [hB] at HC heq
  clear hl hm hB
  go_enter Try.func24, Try.ntmps24
  go_wp2_with (first | (refine wpList_box_new rfl 27 (.tmp 0) rfl (u64s l) rfl ?_; intro x1 z1 s1 l1) | (refine wpList_box_new rfl 27 (.tmp 1) rfl (u64s m) rfl ?_; intro x2 z2 s2 l2; rw [s1] at z2))
  have W0 : Hid (Blk x2 w.heap.size 27 (u64s l) ∧ Blk x2 (w.heap.size + 1) 27 (u64s m) ∧ Below w.heap.size w x2) := ⟨z1.later l2 (by omega), z2, below_chain l1 l2 (by omega)⟩
  clear z1 s1 l1 z2 s2 l2
  refine region_invG [.val (.agg (u64s l).toArray), .val (.agg (u64s m).toArray), .val (.int .u64 18446744073709551615), .val (.bool true), .val (.bool true), .val (.agg (u64s l).toArray), .val (.agg (u8s B).toArray), .val (.agg (u64s m).toArray), .val (.agg (u8s B).toArray), .val (.bool true), .val (.bool true)] (by kernel_rfl) (by kernel_rfl) (by repeat (first | exact trivial | (refine ⟨by first | trivial | rfl, ?_⟩))) (by kernel_rfl) ?_ ?_
  · refine Steps'.cons ?_ (Steps'.cons ?_ (Steps'.cons ?_ (Steps'.cons ?_ (Steps'.cons ?_ (Steps'.cons ?_ (Steps'.cons ?_ (Steps'.cons ?_ (Steps'.cons ?_ (Steps'.cons ?_ (Steps'.cons ?_ (Steps'.one _ _ _ _ _ _ _)))))))))))
    · intro ax wx hb hs hd
      have h2 : ax.tmps.getD 2 undef = (.pointer (some ⟨w.heap.size, 0, none⟩)) := hs 2 (by kernel_rfl)
      exact Does.load 27 (.tmp 2) rfl w.heap.size 0 h2 (u64s l) _ (((Blk.later W0.out.1 hb (Blk.lt W0.out.1)).whole)) Try.underlying27 rfl (by rw [HL.out.2.1]; exact sizeElem)
    · intro ax wx hb hs hd
      have h3 : ax.tmps.getD 3 undef = (.pointer (some ⟨w.heap.size + 1, 0, none⟩)) := hs 3 (by kernel_rfl)
      exact Does.load 27 (.tmp 3) rfl (w.heap.size + 1) 0 h3 (u64s m) _ (((Blk.later W0.out.2.1 hb (Blk.lt W0.out.2.1)).whole)) Try.underlying27 rfl (by rw [HL.out.2.2.2]; exact sizeElem)
    · intro ax wx hb hs hd
      have h5 : ax.tmps.getD 5 undef = (.agg (u64s l).toArray) := hd 0 5 rfl (by kernel_rfl) (by decide)
      have h6 : ax.tmps.getD 6 undef = (.agg (u64s m).toArray) := hd 1 6 rfl (by kernel_rfl) (by decide)
      refine Does.call 21 #[(.agg (u64s l).toArray), (.agg (u64s m).toArray)] (by clear hs hd; go_simp) ?_
      refine (HC.out.1 _).mono ?_
      rintro z w' ⟨rfl, l⟩
      exact ⟨_, rfl, rfl, l⟩
    · intro ax wx hb hs hd
      have h7 : ax.tmps.getD 7 undef = (.int .u64 18446744073709551615) := hd 2 7 rfl (by kernel_rfl) (by decide)
      refine Does.value (.bool true) ?_ rfl
      clear hs hd
      go_simp
    · intro ax wx hb hs hd
      have h8 : ax.tmps.getD 8 undef = (.bool true) := hd 3 8 rfl (by kernel_rfl) (by decide)
      refine Does.value (.bool true) ?_ rfl
      clear hs hd
      go_simp
    · intro ax wx hb hs hd
      have h2 : ax.tmps.getD 2 undef = (.pointer (some ⟨w.heap.size, 0, none⟩)) := hs 2 (by kernel_rfl)
      exact Does.load 27 (.tmp 2) rfl w.heap.size 0 h2 (u64s l) _ (((Blk.later W0.out.1 hb (Blk.lt W0.out.1)).whole)) Try.underlying27 rfl (by rw [HL.out.2.1]; exact sizeElem)
    · intro ax wx hb hs hd
      have h10 : ax.tmps.getD 10 undef = (.agg (u64s l).toArray) := hd 5 10 rfl (by kernel_rfl) (by decide)
      refine Does.call 18 #[(.agg (u64s l).toArray)] (by clear hs hd; go_simp) ?_
      refine (HC.out.2.1 _).mono ?_
      rintro z w' ⟨rfl, l⟩
      exact ⟨_, rfl, rfl, l⟩
    · intro ax wx hb hs hd
      have h3 : ax.tmps.getD 3 undef = (.pointer (some ⟨w.heap.size + 1, 0, none⟩)) := hs 3 (by kernel_rfl)
      exact Does.load 27 (.tmp 3) rfl (w.heap.size + 1) 0 h3 (u64s m) _ (((Blk.later W0.out.2.1 hb (Blk.lt W0.out.2.1)).whole)) Try.underlying27 rfl (by rw [HL.out.2.2.2]; exact sizeElem)
    · intro ax wx hb hs hd
      have h12 : ax.tmps.getD 12 undef = (.agg (u64s m).toArray) := hd 7 12 rfl (by kernel_rfl) (by decide)
      refine Does.call 18 #[(.agg (u64s m).toArray)] (by clear hs hd; go_simp) ?_
      refine (HC.out.2.2 _).mono ?_
      rintro z w' ⟨rfl, l⟩
      exact ⟨_, rfl, rfl, l⟩
    · intro ax wx hb hs hd
      have h11 : ax.tmps.getD 11 undef = (.agg (u8s B).toArray) := hd 6 11 rfl (by kernel_rfl) (by decide)
      have h13 : ax.tmps.getD 13 undef = (.agg (u8s B).toArray) := hd 8 13 rfl (by kernel_rfl) (by decide)
      refine Does.value (.bool true) ?_ rfl
      clear hs hd
      go_simp
    · intro ax wx hb hs hd
      have h9 : ax.tmps.getD 9 undef = (.bool true) := hd 4 9 rfl (by kernel_rfl) (by decide)
      have h14 : ax.tmps.getD 14 undef = (.bool true) := hd 9 14 rfl (by kernel_rfl) (by decide)
      refine Does.value (.bool true) ?_ rfl
      clear hs hd
      go_simp
  · intro wx hb
    refine @Ends.val _ _ _ _ _ _ _ _ _ (.agg (u64s l).toArray) rfl ?_
    refine @Ends.val _ _ _ _ _ _ _ _ _ (.agg (u64s m).toArray) rfl ?_
    refine @Ends.val _ _ _ _ _ _ _ _ _ (.int .u64 18446744073709551615) rfl ?_
    refine @Ends.val _ _ _ _ _ _ _ _ _ (.bool true) rfl ?_
    refine @Ends.val _ _ _ _ _ _ _ _ _ (.bool true) rfl ?_
    refine @Ends.val _ _ _ _ _ _ _ _ _ (.agg (u64s l).toArray) rfl ?_
    refine @Ends.val _ _ _ _ _ _ _ _ _ (.agg (u8s B).toArray) rfl ?_
    refine @Ends.val _ _ _ _ _ _ _ _ _ (.agg (u64s m).toArray) rfl ?_
    refine @Ends.val _ _ _ _ _ _ _ _ _ (.agg (u8s B).toArray) rfl ?_
    refine @Ends.val _ _ _ _ _ _ _ _ _ (.bool true) rfl ?_
    refine @Ends.val _ _ _ _ _ _ _ _ _ (.bool true) rfl ?_
    refine @Ends.one _ _ _ _ _ _ _ ?_
    simp only [Act.put, List.setIfInBounds_toArray, List.set_cons_zero, List.set_cons_succ]
    refine last_assign (.tmp 15) rfl (some 4) rfl (.bool true) rfl ?_
    have LB := below_chain W0.out.2.2 hb W0.out.2.2.size
    simp only [Act.put, List.setIfInBounds_toArray, List.set_cons_zero, List.set_cons_succ]
    clear hb
    go_wp2_with fail
    go_ret
    exact ⟨rfl, LB⟩
end Go.Proofs.Ytnifolefhelmcaa
