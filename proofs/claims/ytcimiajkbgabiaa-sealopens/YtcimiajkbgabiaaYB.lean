/- Joined texts: RSQuart SSlice TSeenP DCopy RSRow TPlain TMath RTMath RTNum. -/
import Derived.Test.YtcimiajkbgabiaaYA
import Derived.Lib.Mul64
namespace Go.Proofs.Ytcimiajkbgabiaa
open Go.RowKit
set_option linter.unusedVariables false
set_option linter.unusedSimpArgs false

abbrev Wd (x : Int) : Prop := 0 ≤ x ∧ x < 4294967296
theorem or_sum (q r n : Nat) (h : r < 2 ^ n) : (q * 2 ^ n) ||| r = q * 2 ^ n + r := by
  rw [Nat.mul_comm, Nat.two_pow_add_eq_or_of_lt h]
theorem rotl_sum (x : Int) (n : Nat) (hx : Wd x) (hn : TurnL n) : rotl x n = x * 2 ^ n % 4294967296 + x / 2 ^ (32 - n) ∧ Wd (rotl x n) := by
  obtain ⟨X, rfl⟩ : ∃ X : Nat, x = (X : Int) := ⟨x.toNat, by omega⟩
  have hX : X < 4294967296 := by omega
  rcases hn with rfl | rfl | rfl | rfl
  all_goals
    unfold rotl
    rw [u32_or _ _ (by omega) (by omega) (by omega) (by omega)]
    suffices h : _ = _ from ⟨h, by rw [h]; constructor <;> omega⟩
    first
    | (have e : ((X : Int) * 2 ^ 16 % 4294967296).toNat = (X % 65536) * 2 ^ 16 := by omega
       have e2 : ((X : Int) / 2 ^ (32 - 16)).toNat = X / 65536 := by omega
       rw [e, e2, or_sum _ _ 16 (by omega)]; omega)
    | (have e : ((X : Int) * 2 ^ 12 % 4294967296).toNat = (X % 1048576) * 2 ^ 12 := by omega
       have e2 : ((X : Int) / 2 ^ (32 - 12)).toNat = X / 1048576 := by omega
       rw [e, e2, or_sum _ _ 12 (by omega)]; omega)
    | (have e : ((X : Int) * 2 ^ 8 % 4294967296).toNat = (X % 16777216) * 2 ^ 8 := by omega
       have e2 : ((X : Int) / 2 ^ (32 - 8)).toNat = X / 16777216 := by omega
       rw [e, e2, or_sum _ _ 8 (by omega)]; omega)
    | (have e : ((X : Int) * 2 ^ 7 % 4294967296).toNat = (X % 33554432) * 2 ^ 7 := by omega
       have e2 : ((X : Int) / 2 ^ (32 - 7)).toNat = X / 33554432 := by omega
       rw [e, e2, or_sum _ _ 7 (by omega)]; omega)
theorem xor_64 (x y : Int) (hx : Wd x) (hy : Wd y) : bits .xor .u64 x y = bits .xor .u32 x y ∧ Wd (bits .xor .u32 x y) := by
  have h1 : x.toNat ^^^ y.toNat < 2 ^ 32 := Nat.xor_lt_two_pow (by omega) (by omega)
  rw [u64_xor x y hx.1 (by omega) hy.1 (by omega), u32_xor x y hx.1 hx.2 hy.1 hy.2]
  exact ⟨rfl, by omega, by omega⟩
theorem rplus_any (a b : Int) (ha : Wd a) (hb : Wd b) (w : World) : Calls Try.prog 87 #[.int .u64 a, .int .u64 b] w fun e w' => e = .returned (.int .u64 ((a + b) % 4294967296)) ∧ w = w' := by
  go_enter Try.func87, Try.ntmps87
  go_wp2_with fail
  go_ret
  exact ⟨rfl, rfl⟩
theorem ragainst_any (a b : Int) (ha : Wd a) (hb : Wd b) (w : World) : Calls Try.prog 92 #[.int .u64 a, .int .u64 b] w fun e w' => e = .returned (.int .u64 (bits .xor .u32 a b)) ∧ w = w' := by
  rw [← (xor_64 a b ha hb).1]
  go_enter Try.func92, Try.ntmps92
  go_wp2_with fail
  go_ret
  exact ⟨rfl, rfl⟩
theorem rleft_any (a : Int) (n : Nat) (ha : Wd a) (hn : TurnL n) (w : World) : Calls Try.prog 105 #[.int .u64 a, .int .i64 n] w fun e w' => e = .returned (.int .u64 (rotl a n)) ∧ ∃ q, w' = w.drewN q := by
  have hr := (rotl_sum a n ha hn).1
  rw [hr]
  clear hr
  rcases hn with rfl | rfl | rfl | rfl
  all_goals
    go_enter Try.func105, Try.ntmps105
    go_wp2_with fail
    go_quiet (fail)
    go_wp2_with fail
    go_ret
    refine ⟨?_, _, rfl⟩
    simp
def q64s (zs : List Int) : List Value := zs.map (Value.int .u64)
theorem q64s_length (zs : List Int) : (q64s zs).length = zs.length := by simp [q64s]
theorem q64s_one (zs : List Int) : ∀ v ∈ q64s zs, v.oneCell' = true := one_ints _ _
theorem u64s_set (zs : List Int) (j : Nat) (z : Int) : (q64s zs).set j (.int .u64 z) = q64s (zs.set j z) := by simp [q64s, List.map_set]
theorem u64s_cell {w : World} {g : Nat} {t : TypeId} {zs : List Int} (h : Blk w g t (q64s zs)) (j : Nat) (hj : j < zs.length) : w.cell? ⟨g, j, none⟩ = some (.int .u64 (zs.getD j 0)) := by
  rw [h.cell]; simp [q64s, hj, List.getD]
theorem zero4q : (Try.prog.info? 141).map (fun i => (i.zero, i.size)) = some (some (.agg (q64s [0, 0, 0, 0]).toArray), 4) := by kernel_rfl
theorem size4q : (Try.prog.info? 141).map (·.size) = some 4 := by kernel_rfl
def turnsV : List Value := [.int .i64 16, .int .i64 12, .int .i64 8, .int .i64 7]
theorem zero4i : (Try.prog.info? 168).map (fun i => (i.zero, i.size)) = some (some (.agg ([.int .i64 0, .int .i64 0, .int .i64 0, .int .i64 0] : List Value).toArray), 4) := by kernel_rfl
theorem size4i : (Try.prog.info? 168).map (·.size) = some 4 := by kernel_rfl
def rq (q : Q4) : Nat → Q4
  | 0 => q
  | 1 => halfQ q 16 12
  | _ => quarter q
theorem half_wd (q : Q4) (n m : Nat) (ha : Wd q.a) (hb : Wd q.b) (hc : Wd q.c) (hd : Wd q.d) (hn : TurnL n) (hm : TurnL m) : Wd (halfQ q n m).a ∧ Wd (halfQ q n m).b ∧ Wd (halfQ q n m).c ∧ Wd (halfQ q n m).d := by
  have h1 : Wd ((q.a + q.b) % 4294967296) := by constructor <;> omega
  have h2 : Wd (halfD q n) := (rotl_sum _ n (xor_64 _ _ hd h1).2 hn).2
  have h3 : Wd (halfC q n) := by unfold halfC; constructor <;> omega
  exact ⟨h1, (rotl_sum _ m (xor_64 _ _ hb h3).2 hm).2, h3, h2⟩
set_option maxRecDepth 20000 in
set_option maxHeartbeats 2000000 in
theorem rq_any (q : Q4) (ha : Wd q.a) (hb : Wd q.b) (hc : Wd q.c) (hd : Wd q.d) (w : World) :
    Calls Try.prog 85 #[.agg (q64s q.list).toArray] w fun e w' => e = .returned (.agg (q64s (quarter q).list).toArray) ∧ Below w.heap.size w w' := by
  have HW : Hid (Wd q.a ∧ Wd q.b ∧ Wd q.c ∧ Wd q.d) := ⟨ha, hb, hc, hd⟩
  clear ha hb hc hd
  go_enter Try.func85, Try.ntmps85
  go_wp2_with (first | (refine wpList_box_new rfl 141 _ rfl (q64s q.list) rfl ?_; intro w1 b1 s1 l1) | (refine wpList_alloc_new rfl 141 rfl 4 _ zero4q ?_; intro w2 b2 s2 l2) | (refine wpList_alloc_new rfl 168 rfl 4 _ zero4i ?_; intro w3 b3 s3 l3) | (refine wpList_store_blk rfl 168 168 _ _ rfl _ rfl _ turnsV rfl b3 rfl size4i (by intro v hv; simp [turnsV] at hv; rcases hv with rfl | rfl | rfl | rfl <;> rfl) ?_; intro w4 b4 s4 k4))
  have HB : Hid (Blk w4 w.heap.size 141 (q64s q.list) ∧ Blk w4 (w.heap.size + 1) 141 (q64s [0, 0, 0, 0]) ∧ Blk w4 (w.heap.size + 1 + 1) 168 turnsV ∧ Below w.heap.size w w4 ∧ w4.heap.size = w.heap.size + 3) := by
    rw [s1] at b2
    rw [s2, s1] at b4
    exact ⟨((b1.later l2 (by omega)).later l3 (by omega)).kept k4 (by omega), (b2.later l3 (by omega)).kept k4 (by omega), b4, below_kept (below_chain (below_chain l1 l2 (by omega)) l3 (by omega)) k4 (by omega) (fun j hj => by omega), by omega⟩
  try rw [s2, s1]
  clear b1 s1 l1 b2 s2 l2 b3 s3 l3 b4 s4 k4
  go_loopw [4] (fun i wr => ∃ r : Nat, r ≤ 2 ∧ i = .int .i64 (2 * (r : Int)) ∧ Blk wr w.heap.size 141 (q64s (rq q r).list) ∧ Blk wr (w.heap.size + 1 + 1) 168 turnsV ∧ Kept (fun b => b = w.heap.size) w4 wr) (fun i _ => 4 - (intOf i).toNat)
  case atStart => exact ⟨0, by omega, rfl, HB.out.1, HB.out.2.2.1, Kept.refl _ _⟩
  case round =>
    obtain ⟨r, hr, rfl, hb, ht, hkp⟩ := hrel
    rcases (by omega : r = 0 ∨ r = 1 ∨ r = 2) with rfl | rfl | rfl
    · rw [show 2 * ((0 : Nat) : Int) = 0 from rfl]
      obtain ⟨ha, hB, hc, hd⟩ := HW.out
      obtain ⟨⟨a, b, c, d⟩, hp⟩ : ∃ p, rq q 0 = p := ⟨_, rfl⟩
      have HP : Hid (rq q 0 = ⟨a, b, c, d⟩) := hp
      rw [show q = ⟨a, b, c, d⟩ from hp] at ha hB hc hd
      rw [hp] at hb
      have BR : Hid (Blk wr w.heap.size 141 (q64s [a, b, c, d]) ∧ Blk wr (w.heap.size + 1 + 1) 168 turnsV ∧ Kept (fun b => b = w.heap.size) w4 wr) := ⟨hb, ht, hkp⟩
      clear hb ht hkp hp
      have hb : Wd b := hB
      have p1 := u64s_cell BR.out.1 0 (by simp)
      have q1 := u64s_cell BR.out.1 1 (by simp)
      have f1 := BR.out.1.frozen 0
      simp only [List.getD_cons_zero, List.getD_cons_succ] at p1 q1
      go_wp2_with (go_at_call 87; refine (rplus_any a b ha hb _).mono ?_; rintro e w' ⟨rfl, rfl⟩)
      have B1 : Hid (Blk (wr.setCell ⟨w.heap.size, 0, none⟩ (.int .u64 ((a + b) % 4294967296))) w.heap.size 141 (q64s [(a + b) % 4294967296, b, c, d]) ∧ Blk (wr.setCell ⟨w.heap.size, 0, none⟩ (.int .u64 ((a + b) % 4294967296))) (w.heap.size + 1 + 1) 168 turnsV ∧ Kept (fun b => b = w.heap.size) w4 (wr.setCell ⟨w.heap.size, 0, none⟩ (.int .u64 ((a + b) % 4294967296)))) := ⟨BR.out.1.set 0 (.int .u64 ((a + b) % 4294967296)), BR.out.2.1.other (show w.heap.size + 1 + 1 ≠ w.heap.size by omega) _, BR.out.2.2.setCell rfl _⟩
      obtain ⟨x1, hx1⟩ : ∃ x, World.setCell wr ⟨w.heap.size, 0, none⟩ (.int .u64 ((a + b) % 4294967296)) = x := ⟨_, rfl⟩
      rw [hx1] at B1 ⊢
      clear hx1 p1 q1 f1
      obtain ⟨A, hA⟩ : ∃ x, (a + b) % 4294967296 = x := ⟨_, rfl⟩
      have wA : Wd A := by rw [← hA]; constructor <;> omega
      rw [hA] at B1 ⊢
      have HA : Hid ((a + b) % 4294967296 = A) := hA
      clear hA
      obtain ⟨d2, hd2⟩ : ∃ x, x1.drew = x := ⟨_, rfl⟩
      have Bd2 : Hid (Blk d2 w.heap.size 141 (q64s [A, b, c, d]) ∧ Blk d2 (w.heap.size + 1 + 1) 168 turnsV ∧ Kept (fun b => b = w.heap.size) w4 d2) := by rw [← hd2]; exact ⟨B1.out.1.drew, B1.out.2.1.drew, B1.out.2.2.drew⟩
      have HS2 : Hid (d2.cell? ⟨w.heap.size, 3, none⟩ = some (.int .u64 d) ∧ d2.cell? ⟨w.heap.size, 0, none⟩ = some (.int .u64 A) ∧ d2.cell? ⟨w.heap.size + 1 + 1, 0, none⟩ = some (.int .i64 16)) := ⟨u64s_cell Bd2.out.1 3 (by simp), u64s_cell Bd2.out.1 0 (by simp), by rw [Bd2.out.2.1.cell]; rfl⟩
      refine wp_region_noPanic (till_region 10 (fun W => W.cell? ⟨w.heap.size, 3, none⟩ = some (.int .u64 d) ∧ W.cell? ⟨w.heap.size, 0, none⟩ = some (.int .u64 A) ∧ W.cell? ⟨w.heap.size + 1 + 1, 0, none⟩ = some (.int .i64 16)) (by kernel_rfl) ?_)
      change wpTill _ _ _ _ _ _ _ _ x1.drew
      rw [hd2]
      clear hd2
      refine tTake 0 (some 16) (.pointer (some ⟨w.heap.size, 3, none⟩)) rfl rfl (by kernel_rfl) (by kernel_rfl) (by kernel_rfl) (by decide) (fun _ _ _ h => h) (by rfl) (fun _ => by go_simp) HS2.out ?_
      simp only [Act.put, List.setIfInBounds_toArray, List.set_cons_zero, List.set_cons_succ]
      refine tLoad 1 (some 17) (.int .u64 d) rfl rfl (by kernel_rfl) (by kernel_rfl) (by kernel_rfl) (by decide) (by kernel_rfl) (by kernel_rfl) (fun _ _ _ h => h) (by rfl) (fun W' hS' => by obtain ⟨s1, s2, s3⟩ := hS'; go_simp) HS2.out ?_
      simp only [Act.put, List.setIfInBounds_toArray, List.set_cons_zero, List.set_cons_succ]
      refine tTake 2 (some 18) (.pointer (some ⟨w.heap.size, 0, none⟩)) rfl rfl (by kernel_rfl) (by kernel_rfl) (by kernel_rfl) (by decide) (fun _ _ _ h => h) (by rfl) (fun _ => by go_simp) HS2.out ?_
      simp only [Act.put, List.setIfInBounds_toArray, List.set_cons_zero, List.set_cons_succ]
      refine tLoad 3 (some 19) (.int .u64 A) rfl rfl (by kernel_rfl) (by kernel_rfl) (by kernel_rfl) (by decide) (by kernel_rfl) (by kernel_rfl) (fun _ _ _ h => h) (by rfl) (fun W' hS' => by obtain ⟨s1, s2, s3⟩ := hS'; go_simp) HS2.out ?_
      simp only [Act.put, List.setIfInBounds_toArray, List.set_cons_zero, List.set_cons_succ]
      refine tTake 5 (some 21) (.int .i64 0) rfl rfl (by kernel_rfl) (by kernel_rfl) (by kernel_rfl) (by decide) (fun _ _ _ h => h) (by rfl) (fun _ => by rfl) HS2.out ?_
      simp only [Act.put, List.setIfInBounds_toArray, List.set_cons_zero, List.set_cons_succ]
      refine tTake 6 (some 22) (.pointer (some ⟨w.heap.size + 1 + 1, 0, none⟩)) rfl rfl (by kernel_rfl) (by kernel_rfl) (by kernel_rfl) (by decide) (fun _ _ _ h => h) (by rfl) (fun _ => by go_simp) HS2.out ?_
      simp only [Act.put, List.setIfInBounds_toArray, List.set_cons_zero, List.set_cons_succ]
      refine tLoad 7 (some 23) (.int .i64 16) rfl rfl (by kernel_rfl) (by kernel_rfl) (by kernel_rfl) (by decide) (by kernel_rfl) (by kernel_rfl) (fun _ _ _ h => h) (by rfl) (fun W' hS' => by obtain ⟨s1, s2, s3⟩ := hS'; go_simp) HS2.out ?_
      simp only [Act.put, List.setIfInBounds_toArray, List.set_cons_zero, List.set_cons_succ]
      refine till_ready 4 (by kernel_rfl) rfl (fun K hK => ?_)
      go_simp
      go_wp2_with (go_at_call 92; refine (ragainst_any _ _ hd wA _).mono ?_; rintro e w' ⟨rfl, rfl⟩)
      refine ⟨HS2.out, ?_⟩
      refine till_ready 8 (by kernel_rfl) rfl (fun K hK => ?_)
      go_simp
      go_wp2_with (go_at_call 105; refine (rleft_any _ 16 (xor_64 _ _ hd wA).2 (by simp [TurnL]) _).mono ?_; rintro e w' ⟨rfl, qq, rfl⟩)
      refine ⟨HS2.out, ?_⟩
      refine tTake 9 (some 25) (.pointer (some ⟨w.heap.size, 3, none⟩)) rfl rfl (by kernel_rfl) (by kernel_rfl) (by kernel_rfl) (by decide) (fun _ _ _ h => h) (by rfl) (fun _ => by go_simp) HS2.out ?_
      simp only [Act.put, List.setIfInBounds_toArray, List.set_cons_zero, List.set_cons_succ]
      refine till_at (by kernel_rfl) ?_
      have Be2 : Blk (d2.drewN qq) w.heap.size 141 (q64s [A, b, c, d]) := Bd2.out.1.drewN qq
      have c2 := u64s_cell Be2 3 (by simp)
      have f2 := Be2.frozen 3
      have B2 : Hid (Blk ((d2.drewN qq).setCell ⟨w.heap.size, 3, none⟩ (.int .u64 (rotl (bits .xor .u32 d A) 16))) w.heap.size 141 (q64s [A, b, c, rotl (bits .xor .u32 d A) 16]) ∧ Blk ((d2.drewN qq).setCell ⟨w.heap.size, 3, none⟩ (.int .u64 (rotl (bits .xor .u32 d A) 16))) (w.heap.size + 1 + 1) 168 turnsV ∧ Kept (fun b => b = w.heap.size) w4 ((d2.drewN qq).setCell ⟨w.heap.size, 3, none⟩ (.int .u64 (rotl (bits .xor .u32 d A) 16)))) := ⟨Be2.set 3 (.int .u64 (rotl (bits .xor .u32 d A) 16)), (Bd2.out.2.1.drewN qq).other (show w.heap.size + 1 + 1 ≠ w.heap.size by omega) _, (Bd2.out.2.2.drewN qq).setCell rfl _⟩
      clear Be2
      refine wpAny_ready (rs := [10]) (by kernel_rfl) (by simp) (AllReady.cons rfl (fun K hK => ?_) AllReady.nil)
      go_simp
      refine hK _ _ ?_
      clear hK K
      change wpAny _ _ _ _ _ _ _ (World.setCell (d2.drewN qq) ⟨w.heap.size, 3, none⟩ (.int .u64 (rotl (bits .xor .u32 d A) 16)))
      obtain ⟨x2, hx2⟩ : ∃ x, World.setCell (d2.drewN qq) ⟨w.heap.size, 3, none⟩ (.int .u64 (rotl (bits .xor .u32 d A) 16)) = x := ⟨_, rfl⟩
      rw [hx2] at B2 ⊢
      clear hx2 c2 f2 HS2 Bd2
      refine wpAny_done (by kernel_rfl) (NoPanic.normal ?_) _
      obtain ⟨D, hD⟩ : ∃ x, rotl (bits .xor .u32 d A) 16 = x := ⟨_, rfl⟩
      have wD : Wd D := by rw [← hD]; exact (rotl_sum _ 16 (xor_64 _ _ hd wA).2 (by simp [TurnL])).2
      rw [hD] at B2 ⊢
      have HD : Hid (rotl (bits .xor .u32 d A) 16 = D) := hD
      clear hD
      have p3 := u64s_cell B2.out.1 2 (by simp)
      have q3 := u64s_cell B2.out.1 3 (by simp)
      have f3 := B2.out.1.frozen 2
      simp only [List.getD_cons_zero, List.getD_cons_succ] at p3 q3
      go_wp2_with (go_at_call 87; refine (rplus_any c D hc wD _).mono ?_; rintro e w' ⟨rfl, rfl⟩)
      have B3 : Hid (Blk (x2.setCell ⟨w.heap.size, 2, none⟩ (.int .u64 ((c + D) % 4294967296))) w.heap.size 141 (q64s [A, b, (c + D) % 4294967296, D]) ∧ Blk (x2.setCell ⟨w.heap.size, 2, none⟩ (.int .u64 ((c + D) % 4294967296))) (w.heap.size + 1 + 1) 168 turnsV ∧ Kept (fun b => b = w.heap.size) w4 (x2.setCell ⟨w.heap.size, 2, none⟩ (.int .u64 ((c + D) % 4294967296)))) := ⟨B2.out.1.set 2 (.int .u64 ((c + D) % 4294967296)), B2.out.2.1.other (show w.heap.size + 1 + 1 ≠ w.heap.size by omega) _, B2.out.2.2.setCell rfl _⟩
      obtain ⟨x3, hx3⟩ : ∃ x, World.setCell x2 ⟨w.heap.size, 2, none⟩ (.int .u64 ((c + D) % 4294967296)) = x := ⟨_, rfl⟩
      rw [hx3] at B3 ⊢
      clear hx3 p3 q3 f3
      obtain ⟨C, hC⟩ : ∃ x, (c + D) % 4294967296 = x := ⟨_, rfl⟩
      have wC : Wd C := by rw [← hC]; constructor <;> omega
      rw [hC] at B3 ⊢
      have HC : Hid ((c + D) % 4294967296 = C) := hC
      clear hC
      obtain ⟨d4, hd4⟩ : ∃ x, x3.drew = x := ⟨_, rfl⟩
      have Bd4 : Hid (Blk d4 w.heap.size 141 (q64s [A, b, C, D]) ∧ Blk d4 (w.heap.size + 1 + 1) 168 turnsV ∧ Kept (fun b => b = w.heap.size) w4 d4) := by rw [← hd4]; exact ⟨B3.out.1.drew, B3.out.2.1.drew, B3.out.2.2.drew⟩
      have HS4 : Hid (d4.cell? ⟨w.heap.size, 1, none⟩ = some (.int .u64 b) ∧ d4.cell? ⟨w.heap.size, 2, none⟩ = some (.int .u64 C) ∧ d4.cell? ⟨w.heap.size + 1 + 1, 1, none⟩ = some (.int .i64 12)) := ⟨u64s_cell Bd4.out.1 1 (by simp), u64s_cell Bd4.out.1 2 (by simp), by rw [Bd4.out.2.1.cell]; rfl⟩
      refine wp_region_noPanic (till_region 11 (fun W => W.cell? ⟨w.heap.size, 1, none⟩ = some (.int .u64 b) ∧ W.cell? ⟨w.heap.size, 2, none⟩ = some (.int .u64 C) ∧ W.cell? ⟨w.heap.size + 1 + 1, 1, none⟩ = some (.int .i64 12)) (by kernel_rfl) ?_)
      change wpTill _ _ _ _ _ _ _ _ x3.drew
      rw [hd4]
      clear hd4
      refine tTake 0 (some 32) (.pointer (some ⟨w.heap.size, 1, none⟩)) rfl rfl (by kernel_rfl) (by kernel_rfl) (by kernel_rfl) (by decide) (fun _ _ _ h => h) (by rfl) (fun _ => by go_simp) HS4.out ?_
      simp only [Act.put, List.setIfInBounds_toArray, List.set_cons_zero, List.set_cons_succ]
      refine tLoad 1 (some 33) (.int .u64 b) rfl rfl (by kernel_rfl) (by kernel_rfl) (by kernel_rfl) (by decide) (by kernel_rfl) (by kernel_rfl) (fun _ _ _ h => h) (by rfl) (fun W' hS' => by obtain ⟨s1, s2, s3⟩ := hS'; go_simp) HS4.out ?_
      simp only [Act.put, List.setIfInBounds_toArray, List.set_cons_zero, List.set_cons_succ]
      refine tTake 2 (some 34) (.pointer (some ⟨w.heap.size, 2, none⟩)) rfl rfl (by kernel_rfl) (by kernel_rfl) (by kernel_rfl) (by decide) (fun _ _ _ h => h) (by rfl) (fun _ => by go_simp) HS4.out ?_
      simp only [Act.put, List.setIfInBounds_toArray, List.set_cons_zero, List.set_cons_succ]
      refine tLoad 3 (some 35) (.int .u64 C) rfl rfl (by kernel_rfl) (by kernel_rfl) (by kernel_rfl) (by decide) (by kernel_rfl) (by kernel_rfl) (fun _ _ _ h => h) (by rfl) (fun W' hS' => by obtain ⟨s1, s2, s3⟩ := hS'; go_simp) HS4.out ?_
      simp only [Act.put, List.setIfInBounds_toArray, List.set_cons_zero, List.set_cons_succ]
      refine tTake 5 (some 37) (.int .i64 0) rfl rfl (by kernel_rfl) (by kernel_rfl) (by kernel_rfl) (by decide) (fun _ _ _ h => h) (by rfl) (fun _ => by rfl) HS4.out ?_
      simp only [Act.put, List.setIfInBounds_toArray, List.set_cons_zero, List.set_cons_succ]
      refine tTake 6 (some 38) (.int .i64 1) rfl rfl (by kernel_rfl) (by kernel_rfl) (by kernel_rfl) (by decide) (fun _ _ _ h => h) (by rfl) (fun _ => by go_simp; rfl) HS4.out ?_
      simp only [Act.put, List.setIfInBounds_toArray, List.set_cons_zero, List.set_cons_succ]
      refine tTake 7 (some 39) (.pointer (some ⟨w.heap.size + 1 + 1, 1, none⟩)) rfl rfl (by kernel_rfl) (by kernel_rfl) (by kernel_rfl) (by decide) (fun _ _ _ h => h) (by rfl) (fun _ => by go_simp) HS4.out ?_
      simp only [Act.put, List.setIfInBounds_toArray, List.set_cons_zero, List.set_cons_succ]
      refine tLoad 8 (some 40) (.int .i64 12) rfl rfl (by kernel_rfl) (by kernel_rfl) (by kernel_rfl) (by decide) (by kernel_rfl) (by kernel_rfl) (fun _ _ _ h => h) (by rfl) (fun W' hS' => by obtain ⟨s1, s2, s3⟩ := hS'; go_simp) HS4.out ?_
      simp only [Act.put, List.setIfInBounds_toArray, List.set_cons_zero, List.set_cons_succ]
      refine till_ready 4 (by kernel_rfl) rfl (fun K hK => ?_)
      go_simp
      go_wp2_with (go_at_call 92; refine (ragainst_any _ _ hb wC _).mono ?_; rintro e w' ⟨rfl, rfl⟩)
      refine ⟨HS4.out, ?_⟩
      refine till_ready 9 (by kernel_rfl) rfl (fun K hK => ?_)
      go_simp
      go_wp2_with (go_at_call 105; refine (rleft_any _ 12 (xor_64 _ _ hb wC).2 (by simp [TurnL]) _).mono ?_; rintro e w' ⟨rfl, qq, rfl⟩)
      refine ⟨HS4.out, ?_⟩
      refine tTake 10 (some 42) (.pointer (some ⟨w.heap.size, 1, none⟩)) rfl rfl (by kernel_rfl) (by kernel_rfl) (by kernel_rfl) (by decide) (fun _ _ _ h => h) (by rfl) (fun _ => by go_simp) HS4.out ?_
      simp only [Act.put, List.setIfInBounds_toArray, List.set_cons_zero, List.set_cons_succ]
      refine till_at (by kernel_rfl) ?_
      have Be4 : Blk (d4.drewN qq) w.heap.size 141 (q64s [A, b, C, D]) := Bd4.out.1.drewN qq
      have c4 := u64s_cell Be4 1 (by simp)
      have f4 := Be4.frozen 1
      have B4 : Hid (Blk ((d4.drewN qq).setCell ⟨w.heap.size, 1, none⟩ (.int .u64 (rotl (bits .xor .u32 b C) 12))) w.heap.size 141 (q64s [A, rotl (bits .xor .u32 b C) 12, C, D]) ∧ Blk ((d4.drewN qq).setCell ⟨w.heap.size, 1, none⟩ (.int .u64 (rotl (bits .xor .u32 b C) 12))) (w.heap.size + 1 + 1) 168 turnsV ∧ Kept (fun b => b = w.heap.size) w4 ((d4.drewN qq).setCell ⟨w.heap.size, 1, none⟩ (.int .u64 (rotl (bits .xor .u32 b C) 12)))) := ⟨Be4.set 1 (.int .u64 (rotl (bits .xor .u32 b C) 12)), (Bd4.out.2.1.drewN qq).other (show w.heap.size + 1 + 1 ≠ w.heap.size by omega) _, (Bd4.out.2.2.drewN qq).setCell rfl _⟩
      clear Be4
      refine wpAny_ready (rs := [11]) (by kernel_rfl) (by simp) (AllReady.cons rfl (fun K hK => ?_) AllReady.nil)
      go_simp
      refine hK _ _ ?_
      clear hK K
      change wpAny _ _ _ _ _ _ _ (World.setCell (d4.drewN qq) ⟨w.heap.size, 1, none⟩ (.int .u64 (rotl (bits .xor .u32 b C) 12)))
      obtain ⟨x4, hx4⟩ : ∃ x, World.setCell (d4.drewN qq) ⟨w.heap.size, 1, none⟩ (.int .u64 (rotl (bits .xor .u32 b C) 12)) = x := ⟨_, rfl⟩
      rw [hx4] at B4 ⊢
      clear hx4 c4 f4 HS4 Bd4
      refine wpAny_done (by kernel_rfl) (NoPanic.normal ?_) _
      go_wp2_with fail
      refine ⟨⟨1, by omega, by go_num, ?_, B4.out.2⟩, by simp [intOf]⟩
      have e : rq q 1 = ⟨A, rotl (bits .xor .u32 b C) 12, C, D⟩ := by
        show halfQ (rq q 0) 16 12 = _
        rw [HP.out, halfQ, halfC, halfD, HA.out, HD.out, HC.out]
      rw [e]; exact B4.out.1
    · rw [show 2 * ((1 : Nat) : Int) = 2 from rfl]
      obtain ⟨ha, hB, hc, hd⟩ := half_wd q 16 12 HW.out.1 HW.out.2.1 HW.out.2.2.1 HW.out.2.2.2 (by simp [TurnL]) (by simp [TurnL])
      obtain ⟨⟨a, b, c, d⟩, hp⟩ : ∃ p, rq q 1 = p := ⟨_, rfl⟩
      have HP : Hid (rq q 1 = ⟨a, b, c, d⟩) := hp
      rw [show halfQ q 16 12 = ⟨a, b, c, d⟩ from hp] at ha hB hc hd
      rw [hp] at hb
      have BR : Hid (Blk wr w.heap.size 141 (q64s [a, b, c, d]) ∧ Blk wr (w.heap.size + 1 + 1) 168 turnsV ∧ Kept (fun b => b = w.heap.size) w4 wr) := ⟨hb, ht, hkp⟩
      clear hb ht hkp hp
      have hb : Wd b := hB
      have p1 := u64s_cell BR.out.1 0 (by simp)
      have q1 := u64s_cell BR.out.1 1 (by simp)
      have f1 := BR.out.1.frozen 0
      simp only [List.getD_cons_zero, List.getD_cons_succ] at p1 q1
      go_wp2_with (go_at_call 87; refine (rplus_any a b ha hb _).mono ?_; rintro e w' ⟨rfl, rfl⟩)
      have B1 : Hid (Blk (wr.setCell ⟨w.heap.size, 0, none⟩ (.int .u64 ((a + b) % 4294967296))) w.heap.size 141 (q64s [(a + b) % 4294967296, b, c, d]) ∧ Blk (wr.setCell ⟨w.heap.size, 0, none⟩ (.int .u64 ((a + b) % 4294967296))) (w.heap.size + 1 + 1) 168 turnsV ∧ Kept (fun b => b = w.heap.size) w4 (wr.setCell ⟨w.heap.size, 0, none⟩ (.int .u64 ((a + b) % 4294967296)))) := ⟨BR.out.1.set 0 (.int .u64 ((a + b) % 4294967296)), BR.out.2.1.other (show w.heap.size + 1 + 1 ≠ w.heap.size by omega) _, BR.out.2.2.setCell rfl _⟩
      obtain ⟨x1, hx1⟩ : ∃ x, World.setCell wr ⟨w.heap.size, 0, none⟩ (.int .u64 ((a + b) % 4294967296)) = x := ⟨_, rfl⟩
      rw [hx1] at B1 ⊢
      clear hx1 p1 q1 f1
      obtain ⟨A, hA⟩ : ∃ x, (a + b) % 4294967296 = x := ⟨_, rfl⟩
      have wA : Wd A := by rw [← hA]; constructor <;> omega
      rw [hA] at B1 ⊢
      have HA : Hid ((a + b) % 4294967296 = A) := hA
      clear hA
      obtain ⟨d2, hd2⟩ : ∃ x, x1.drew = x := ⟨_, rfl⟩
      have Bd2 : Hid (Blk d2 w.heap.size 141 (q64s [A, b, c, d]) ∧ Blk d2 (w.heap.size + 1 + 1) 168 turnsV ∧ Kept (fun b => b = w.heap.size) w4 d2) := by rw [← hd2]; exact ⟨B1.out.1.drew, B1.out.2.1.drew, B1.out.2.2.drew⟩
      have HS2 : Hid (d2.cell? ⟨w.heap.size, 3, none⟩ = some (.int .u64 d) ∧ d2.cell? ⟨w.heap.size, 0, none⟩ = some (.int .u64 A) ∧ d2.cell? ⟨w.heap.size + 1 + 1, 2, none⟩ = some (.int .i64 8)) := ⟨u64s_cell Bd2.out.1 3 (by simp), u64s_cell Bd2.out.1 0 (by simp), by rw [Bd2.out.2.1.cell]; rfl⟩
      refine wp_region_noPanic (till_region 10 (fun W => W.cell? ⟨w.heap.size, 3, none⟩ = some (.int .u64 d) ∧ W.cell? ⟨w.heap.size, 0, none⟩ = some (.int .u64 A) ∧ W.cell? ⟨w.heap.size + 1 + 1, 2, none⟩ = some (.int .i64 8)) (by kernel_rfl) ?_)
      change wpTill _ _ _ _ _ _ _ _ x1.drew
      rw [hd2]
      clear hd2
      refine tTake 0 (some 16) (.pointer (some ⟨w.heap.size, 3, none⟩)) rfl rfl (by kernel_rfl) (by kernel_rfl) (by kernel_rfl) (by decide) (fun _ _ _ h => h) (by rfl) (fun _ => by go_simp) HS2.out ?_
      simp only [Act.put, List.setIfInBounds_toArray, List.set_cons_zero, List.set_cons_succ]
      refine tLoad 1 (some 17) (.int .u64 d) rfl rfl (by kernel_rfl) (by kernel_rfl) (by kernel_rfl) (by decide) (by kernel_rfl) (by kernel_rfl) (fun _ _ _ h => h) (by rfl) (fun W' hS' => by obtain ⟨s1, s2, s3⟩ := hS'; go_simp) HS2.out ?_
      simp only [Act.put, List.setIfInBounds_toArray, List.set_cons_zero, List.set_cons_succ]
      refine tTake 2 (some 18) (.pointer (some ⟨w.heap.size, 0, none⟩)) rfl rfl (by kernel_rfl) (by kernel_rfl) (by kernel_rfl) (by decide) (fun _ _ _ h => h) (by rfl) (fun _ => by go_simp) HS2.out ?_
      simp only [Act.put, List.setIfInBounds_toArray, List.set_cons_zero, List.set_cons_succ]
      refine tLoad 3 (some 19) (.int .u64 A) rfl rfl (by kernel_rfl) (by kernel_rfl) (by kernel_rfl) (by decide) (by kernel_rfl) (by kernel_rfl) (fun _ _ _ h => h) (by rfl) (fun W' hS' => by obtain ⟨s1, s2, s3⟩ := hS'; go_simp) HS2.out ?_
      simp only [Act.put, List.setIfInBounds_toArray, List.set_cons_zero, List.set_cons_succ]
      refine tTake 5 (some 21) (.int .i64 2) rfl rfl (by kernel_rfl) (by kernel_rfl) (by kernel_rfl) (by decide) (fun _ _ _ h => h) (by rfl) (fun _ => by rfl) HS2.out ?_
      simp only [Act.put, List.setIfInBounds_toArray, List.set_cons_zero, List.set_cons_succ]
      refine tTake 6 (some 22) (.pointer (some ⟨w.heap.size + 1 + 1, 2, none⟩)) rfl rfl (by kernel_rfl) (by kernel_rfl) (by kernel_rfl) (by decide) (fun _ _ _ h => h) (by rfl) (fun _ => by go_simp) HS2.out ?_
      simp only [Act.put, List.setIfInBounds_toArray, List.set_cons_zero, List.set_cons_succ]
      refine tLoad 7 (some 23) (.int .i64 8) rfl rfl (by kernel_rfl) (by kernel_rfl) (by kernel_rfl) (by decide) (by kernel_rfl) (by kernel_rfl) (fun _ _ _ h => h) (by rfl) (fun W' hS' => by obtain ⟨s1, s2, s3⟩ := hS'; go_simp) HS2.out ?_
      simp only [Act.put, List.setIfInBounds_toArray, List.set_cons_zero, List.set_cons_succ]
      refine till_ready 4 (by kernel_rfl) rfl (fun K hK => ?_)
      go_simp
      go_wp2_with (go_at_call 92; refine (ragainst_any _ _ hd wA _).mono ?_; rintro e w' ⟨rfl, rfl⟩)
      refine ⟨HS2.out, ?_⟩
      refine till_ready 8 (by kernel_rfl) rfl (fun K hK => ?_)
      go_simp
      go_wp2_with (go_at_call 105; refine (rleft_any _ 8 (xor_64 _ _ hd wA).2 (by simp [TurnL]) _).mono ?_; rintro e w' ⟨rfl, qq, rfl⟩)
      refine ⟨HS2.out, ?_⟩
      refine tTake 9 (some 25) (.pointer (some ⟨w.heap.size, 3, none⟩)) rfl rfl (by kernel_rfl) (by kernel_rfl) (by kernel_rfl) (by decide) (fun _ _ _ h => h) (by rfl) (fun _ => by go_simp) HS2.out ?_
      simp only [Act.put, List.setIfInBounds_toArray, List.set_cons_zero, List.set_cons_succ]
      refine till_at (by kernel_rfl) ?_
      have Be2 : Blk (d2.drewN qq) w.heap.size 141 (q64s [A, b, c, d]) := Bd2.out.1.drewN qq
      have c2 := u64s_cell Be2 3 (by simp)
      have f2 := Be2.frozen 3
      have B2 : Hid (Blk ((d2.drewN qq).setCell ⟨w.heap.size, 3, none⟩ (.int .u64 (rotl (bits .xor .u32 d A) 8))) w.heap.size 141 (q64s [A, b, c, rotl (bits .xor .u32 d A) 8]) ∧ Blk ((d2.drewN qq).setCell ⟨w.heap.size, 3, none⟩ (.int .u64 (rotl (bits .xor .u32 d A) 8))) (w.heap.size + 1 + 1) 168 turnsV ∧ Kept (fun b => b = w.heap.size) w4 ((d2.drewN qq).setCell ⟨w.heap.size, 3, none⟩ (.int .u64 (rotl (bits .xor .u32 d A) 8)))) := ⟨Be2.set 3 (.int .u64 (rotl (bits .xor .u32 d A) 8)), (Bd2.out.2.1.drewN qq).other (show w.heap.size + 1 + 1 ≠ w.heap.size by omega) _, (Bd2.out.2.2.drewN qq).setCell rfl _⟩
      clear Be2
      refine wpAny_ready (rs := [10]) (by kernel_rfl) (by simp) (AllReady.cons rfl (fun K hK => ?_) AllReady.nil)
      go_simp
      refine hK _ _ ?_
      clear hK K
      change wpAny _ _ _ _ _ _ _ (World.setCell (d2.drewN qq) ⟨w.heap.size, 3, none⟩ (.int .u64 (rotl (bits .xor .u32 d A) 8)))
      obtain ⟨x2, hx2⟩ : ∃ x, World.setCell (d2.drewN qq) ⟨w.heap.size, 3, none⟩ (.int .u64 (rotl (bits .xor .u32 d A) 8)) = x := ⟨_, rfl⟩
      rw [hx2] at B2 ⊢
      clear hx2 c2 f2 HS2 Bd2
      refine wpAny_done (by kernel_rfl) (NoPanic.normal ?_) _
      obtain ⟨D, hD⟩ : ∃ x, rotl (bits .xor .u32 d A) 8 = x := ⟨_, rfl⟩
      have wD : Wd D := by rw [← hD]; exact (rotl_sum _ 8 (xor_64 _ _ hd wA).2 (by simp [TurnL])).2
      rw [hD] at B2 ⊢
      have HD : Hid (rotl (bits .xor .u32 d A) 8 = D) := hD
      clear hD
      have p3 := u64s_cell B2.out.1 2 (by simp)
      have q3 := u64s_cell B2.out.1 3 (by simp)
      have f3 := B2.out.1.frozen 2
      simp only [List.getD_cons_zero, List.getD_cons_succ] at p3 q3
      go_wp2_with (go_at_call 87; refine (rplus_any c D hc wD _).mono ?_; rintro e w' ⟨rfl, rfl⟩)
      have B3 : Hid (Blk (x2.setCell ⟨w.heap.size, 2, none⟩ (.int .u64 ((c + D) % 4294967296))) w.heap.size 141 (q64s [A, b, (c + D) % 4294967296, D]) ∧ Blk (x2.setCell ⟨w.heap.size, 2, none⟩ (.int .u64 ((c + D) % 4294967296))) (w.heap.size + 1 + 1) 168 turnsV ∧ Kept (fun b => b = w.heap.size) w4 (x2.setCell ⟨w.heap.size, 2, none⟩ (.int .u64 ((c + D) % 4294967296)))) := ⟨B2.out.1.set 2 (.int .u64 ((c + D) % 4294967296)), B2.out.2.1.other (show w.heap.size + 1 + 1 ≠ w.heap.size by omega) _, B2.out.2.2.setCell rfl _⟩
      obtain ⟨x3, hx3⟩ : ∃ x, World.setCell x2 ⟨w.heap.size, 2, none⟩ (.int .u64 ((c + D) % 4294967296)) = x := ⟨_, rfl⟩
      rw [hx3] at B3 ⊢
      clear hx3 p3 q3 f3
      obtain ⟨C, hC⟩ : ∃ x, (c + D) % 4294967296 = x := ⟨_, rfl⟩
      have wC : Wd C := by rw [← hC]; constructor <;> omega
      rw [hC] at B3 ⊢
      have HC : Hid ((c + D) % 4294967296 = C) := hC
      clear hC
      obtain ⟨d4, hd4⟩ : ∃ x, x3.drew = x := ⟨_, rfl⟩
      have Bd4 : Hid (Blk d4 w.heap.size 141 (q64s [A, b, C, D]) ∧ Blk d4 (w.heap.size + 1 + 1) 168 turnsV ∧ Kept (fun b => b = w.heap.size) w4 d4) := by rw [← hd4]; exact ⟨B3.out.1.drew, B3.out.2.1.drew, B3.out.2.2.drew⟩
      have HS4 : Hid (d4.cell? ⟨w.heap.size, 1, none⟩ = some (.int .u64 b) ∧ d4.cell? ⟨w.heap.size, 2, none⟩ = some (.int .u64 C) ∧ d4.cell? ⟨w.heap.size + 1 + 1, 3, none⟩ = some (.int .i64 7)) := ⟨u64s_cell Bd4.out.1 1 (by simp), u64s_cell Bd4.out.1 2 (by simp), by rw [Bd4.out.2.1.cell]; rfl⟩
      refine wp_region_noPanic (till_region 11 (fun W => W.cell? ⟨w.heap.size, 1, none⟩ = some (.int .u64 b) ∧ W.cell? ⟨w.heap.size, 2, none⟩ = some (.int .u64 C) ∧ W.cell? ⟨w.heap.size + 1 + 1, 3, none⟩ = some (.int .i64 7)) (by kernel_rfl) ?_)
      change wpTill _ _ _ _ _ _ _ _ x3.drew
      rw [hd4]
      clear hd4
      refine tTake 0 (some 32) (.pointer (some ⟨w.heap.size, 1, none⟩)) rfl rfl (by kernel_rfl) (by kernel_rfl) (by kernel_rfl) (by decide) (fun _ _ _ h => h) (by rfl) (fun _ => by go_simp) HS4.out ?_
      simp only [Act.put, List.setIfInBounds_toArray, List.set_cons_zero, List.set_cons_succ]
      refine tLoad 1 (some 33) (.int .u64 b) rfl rfl (by kernel_rfl) (by kernel_rfl) (by kernel_rfl) (by decide) (by kernel_rfl) (by kernel_rfl) (fun _ _ _ h => h) (by rfl) (fun W' hS' => by obtain ⟨s1, s2, s3⟩ := hS'; go_simp) HS4.out ?_
      simp only [Act.put, List.setIfInBounds_toArray, List.set_cons_zero, List.set_cons_succ]
      refine tTake 2 (some 34) (.pointer (some ⟨w.heap.size, 2, none⟩)) rfl rfl (by kernel_rfl) (by kernel_rfl) (by kernel_rfl) (by decide) (fun _ _ _ h => h) (by rfl) (fun _ => by go_simp) HS4.out ?_
      simp only [Act.put, List.setIfInBounds_toArray, List.set_cons_zero, List.set_cons_succ]
      refine tLoad 3 (some 35) (.int .u64 C) rfl rfl (by kernel_rfl) (by kernel_rfl) (by kernel_rfl) (by decide) (by kernel_rfl) (by kernel_rfl) (fun _ _ _ h => h) (by rfl) (fun W' hS' => by obtain ⟨s1, s2, s3⟩ := hS'; go_simp) HS4.out ?_
      simp only [Act.put, List.setIfInBounds_toArray, List.set_cons_zero, List.set_cons_succ]
      refine tTake 5 (some 37) (.int .i64 2) rfl rfl (by kernel_rfl) (by kernel_rfl) (by kernel_rfl) (by decide) (fun _ _ _ h => h) (by rfl) (fun _ => by rfl) HS4.out ?_
      simp only [Act.put, List.setIfInBounds_toArray, List.set_cons_zero, List.set_cons_succ]
      refine tTake 6 (some 38) (.int .i64 3) rfl rfl (by kernel_rfl) (by kernel_rfl) (by kernel_rfl) (by decide) (fun _ _ _ h => h) (by rfl) (fun _ => by go_simp; rfl) HS4.out ?_
      simp only [Act.put, List.setIfInBounds_toArray, List.set_cons_zero, List.set_cons_succ]
      refine tTake 7 (some 39) (.pointer (some ⟨w.heap.size + 1 + 1, 3, none⟩)) rfl rfl (by kernel_rfl) (by kernel_rfl) (by kernel_rfl) (by decide) (fun _ _ _ h => h) (by rfl) (fun _ => by go_simp) HS4.out ?_
      simp only [Act.put, List.setIfInBounds_toArray, List.set_cons_zero, List.set_cons_succ]
      refine tLoad 8 (some 40) (.int .i64 7) rfl rfl (by kernel_rfl) (by kernel_rfl) (by kernel_rfl) (by decide) (by kernel_rfl) (by kernel_rfl) (fun _ _ _ h => h) (by rfl) (fun W' hS' => by obtain ⟨s1, s2, s3⟩ := hS'; go_simp) HS4.out ?_
      simp only [Act.put, List.setIfInBounds_toArray, List.set_cons_zero, List.set_cons_succ]
      refine till_ready 4 (by kernel_rfl) rfl (fun K hK => ?_)
      go_simp
      go_wp2_with (go_at_call 92; refine (ragainst_any _ _ hb wC _).mono ?_; rintro e w' ⟨rfl, rfl⟩)
      refine ⟨HS4.out, ?_⟩
      refine till_ready 9 (by kernel_rfl) rfl (fun K hK => ?_)
      go_simp
      go_wp2_with (go_at_call 105; refine (rleft_any _ 7 (xor_64 _ _ hb wC).2 (by simp [TurnL]) _).mono ?_; rintro e w' ⟨rfl, qq, rfl⟩)
      refine ⟨HS4.out, ?_⟩
      refine tTake 10 (some 42) (.pointer (some ⟨w.heap.size, 1, none⟩)) rfl rfl (by kernel_rfl) (by kernel_rfl) (by kernel_rfl) (by decide) (fun _ _ _ h => h) (by rfl) (fun _ => by go_simp) HS4.out ?_
      simp only [Act.put, List.setIfInBounds_toArray, List.set_cons_zero, List.set_cons_succ]
      refine till_at (by kernel_rfl) ?_
      have Be4 : Blk (d4.drewN qq) w.heap.size 141 (q64s [A, b, C, D]) := Bd4.out.1.drewN qq
      have c4 := u64s_cell Be4 1 (by simp)
      have f4 := Be4.frozen 1
      have B4 : Hid (Blk ((d4.drewN qq).setCell ⟨w.heap.size, 1, none⟩ (.int .u64 (rotl (bits .xor .u32 b C) 7))) w.heap.size 141 (q64s [A, rotl (bits .xor .u32 b C) 7, C, D]) ∧ Blk ((d4.drewN qq).setCell ⟨w.heap.size, 1, none⟩ (.int .u64 (rotl (bits .xor .u32 b C) 7))) (w.heap.size + 1 + 1) 168 turnsV ∧ Kept (fun b => b = w.heap.size) w4 ((d4.drewN qq).setCell ⟨w.heap.size, 1, none⟩ (.int .u64 (rotl (bits .xor .u32 b C) 7)))) := ⟨Be4.set 1 (.int .u64 (rotl (bits .xor .u32 b C) 7)), (Bd4.out.2.1.drewN qq).other (show w.heap.size + 1 + 1 ≠ w.heap.size by omega) _, (Bd4.out.2.2.drewN qq).setCell rfl _⟩
      clear Be4
      refine wpAny_ready (rs := [11]) (by kernel_rfl) (by simp) (AllReady.cons rfl (fun K hK => ?_) AllReady.nil)
      go_simp
      refine hK _ _ ?_
      clear hK K
      change wpAny _ _ _ _ _ _ _ (World.setCell (d4.drewN qq) ⟨w.heap.size, 1, none⟩ (.int .u64 (rotl (bits .xor .u32 b C) 7)))
      obtain ⟨x4, hx4⟩ : ∃ x, World.setCell (d4.drewN qq) ⟨w.heap.size, 1, none⟩ (.int .u64 (rotl (bits .xor .u32 b C) 7)) = x := ⟨_, rfl⟩
      rw [hx4] at B4 ⊢
      clear hx4 c4 f4 HS4 Bd4
      refine wpAny_done (by kernel_rfl) (NoPanic.normal ?_) _
      go_wp2_with fail
      refine ⟨⟨2, by omega, by go_num, ?_, B4.out.2⟩, by simp [intOf]⟩
      have e : rq q 2 = ⟨A, rotl (bits .xor .u32 b C) 7, C, D⟩ := by
        show halfQ (rq q 1) 8 7 = _
        rw [HP.out, halfQ, halfC, halfD, HA.out, HD.out, HC.out]
      rw [e]; exact B4.out.1
    · rw [show 2 * ((2 : Nat) : Int) = 4 from rfl]
      have X3 : Hid (Blk wr w.heap.size 141 (q64s (quarter q).list)) := hb
      have X4 : Hid (Blk wr (w.heap.size + 1) 141 (q64s [0, 0, 0, 0])) := HB.out.2.1.kept hkp (by omega)
      have X5 : Hid (Below w.heap.size w wr) := below_kept HB.out.2.2.2.1 hkp (by have := HB.out.2.2.2.2; omega) (fun j hj => by omega)
      clear hb ht hkp
      go_wp2_with (first | (refine wpList_load_blk rfl 141 _ rfl _ rfl (q64s (quarter q).list) _ X3.out Try.underlying141 rfl size4q ?_) | (refine wpList_store_blk rfl 141 141 _ _ rfl _ rfl _ (q64s (quarter q).list) rfl X4.out rfl size4q (q64s_one _) ?_; intro w5 b5 s5 k5))
      exact ret_blk rfl (w.heap.size + 1) (q64s (quarter q).list) _ rfl b5 Try.underlying141 rfl size4q rfl ⟨rfl, below_kept X5.out k5 X5.out.size (fun j hj => by omega)⟩
end Go.Proofs.Ytcimiajkbgabiaa

namespace Go.Proofs.Ytcimiajkbgabiaa
open Go.RowKit
set_option linter.unusedVariables false
set_option linter.unusedSimpArgs false

theorem sizeByte : (Try.prog.info? 5).map (·.size) = some 1 := by kernel_rfl
theorem add_mid (b o j : Nat) : (⟨b, o, none⟩ : Addr).add j = ⟨b, o + j, none⟩ := Addr.add_mid b o j
/-- Where a slice from lo on begins. -/
def subA (ao : Option Addr) (lo c : Nat) : Option Addr := if c = lo then ao else ao.map (·.add lo)
theorem Seen.sub {w : World} {ao : Option Addr} {n : Nat} {zs : List Int} (h : Seen w ao n zs) (lo hi c : Nat) (h1 : lo ≤ hi) (h2 : hi ≤ n) (h3 : n ≤ c) : Seen w (subA ao lo c) (hi - lo) ((zs.drop lo).take (hi - lo)) := by
  have hl := h.len
  refine ⟨by simp; omega, by have := h.top; omega, bytes_take (bytes_drop h.bytes lo) _, fun h0 => ?_⟩
  obtain ⟨b, o, rfl, hb, hc⟩ := h.cells (by omega)
  refine ⟨b, o + lo, ?_, hb, fun i hi' => ?_⟩
  · unfold subA
    rw [if_neg (by omega)]
    exact congrArg some (add_mid b o lo)
  · rw [Nat.add_assoc, hc (lo + i) (by omega)]
    have e : lo + i < zs.length := by omega
    simp [List.getD, List.getElem?_take, List.getElem?_drop, hi']
set_option maxRecDepth 20000 in
theorem sl_h (ao : Option Addr) (n c h : Nat) (hh : h ≤ c) (w : World) : (Instr.sliceAt 22 (.slice ao n c) none (some (.int .i64 h)) none).run Try.prog w = .ok (.slice (subA ao 0 c) h c) w := by
  rw [run_sliceAt_slice w 22 _ _ _ _ Try.underlying22, run_slice_h w 22 ao n c Try.underlying22 .i64 h (by omega) (by omega)]
  rw [show Try.prog.elem 22 = 5 by kernel_rfl]
  have hs : (sizeOf 5).run Try.prog w = .ok 1 w := by
    have h := sizeByte
    cases hq : Try.prog.info? 5 with
    | none => simp [hq] at h
    | some i => simp [hq] at h; simp [sizeOf, typeInfo, hq, h]
  simp [hs, Result.andThen, sliced, subA]
set_option maxRecDepth 20000 in
theorem sl_l (ao : Option Addr) (n c l : Nat) (hl : l ≤ n) (w : World) : (Instr.sliceAt 22 (.slice ao n c) (some (.int .i64 l)) none none).run Try.prog w = .ok (.slice (subA ao l c) (n - l) (c - l)) w := by
  rw [run_sliceAt_slice w 22 _ _ _ _ Try.underlying22, run_slice_l w 22 ao n c Try.underlying22 .i64 l (by omega) (by omega)]
  rw [show Try.prog.elem 22 = 5 by kernel_rfl]
  have hs : (sizeOf 5).run Try.prog w = .ok 1 w := by
    have h := sizeByte
    cases hq : Try.prog.info? 5 with
    | none => simp [hq] at h
    | some i => simp [hq] at h; simp [sizeOf, typeInfo, hq, h]
  simp [hs, Result.andThen, sliced, subA]
set_option maxRecDepth 20000 in
theorem sl_lh (ao : Option Addr) (n c l h : Nat) (hl : l ≤ h) (hh : h ≤ c) (w : World) : (Instr.sliceAt 22 (.slice ao n c) (some (.int .i64 l)) (some (.int .i64 h)) none).run Try.prog w = .ok (.slice (subA ao l c) (h - l) (c - l)) w := by
  rw [run_sliceAt_slice w 22 _ _ _ _ Try.underlying22, run_slice_lh w 22 ao n c Try.underlying22 .i64 .i64 l h (by omega) (by omega) (by omega)]
  rw [show Try.prog.elem 22 = 5 by kernel_rfl]
  have hs : (sizeOf 5).run Try.prog w = .ok 1 w := by
    have h := sizeByte
    cases hq : Try.prog.info? 5 with
    | none => simp [hq] at h
    | some i => simp [hq] at h; simp [sizeOf, typeInfo, hq, h]
  simp [hs, Result.andThen, sliced, subA]
end Go.Proofs.Ytcimiajkbgabiaa

namespace Go.Proofs.Ytcimiajkbgabiaa
open Go.RowKit
set_option linter.unusedVariables false
set_option linter.unusedSimpArgs false

/-- Lists of bytes, as data. -/
structure SeenP (w : World) (ao : Option Addr) (n : Nat) (pss : List (List Int)) : Prop where
  len : pss.length = n
  cells : ∀ i, i < n → ∃ b o so c, ao = some ⟨b, o, none⟩ ∧ b < w.heap.size ∧ w.cell? ⟨b, o + i, none⟩ = some (.slice so (pss.getD i []).length c) ∧ Seen w so (pss.getD i []).length (pss.getD i []) ∧ (pss.getD i []).length ≤ c
theorem SeenP.later {w w' : World} {ao : Option Addr} {n : Nat} {pss : List (List Int)} (h : SeenP w ao n pss) {B : Nat} (hb : Below B w w') (hB : w.heap.size ≤ B) : SeenP w' ao n pss :=
  ⟨h.len, fun i hi => by
    obtain ⟨b, o, so, c, e, hlt, hc, hs, hl⟩ := h.cells i hi
    exact ⟨b, o, so, c, e, Nat.lt_of_lt_of_le hlt hb.size, (hb.cell (p := ⟨b, o + i, none⟩) (Nat.lt_of_lt_of_le hlt hB)).trans hc, hs.later hb hB, hl⟩⟩
theorem flat_succ (pss : List (List Int)) (k : Nat) (hk : k < pss.length) : (pss.take (k + 1)).flatten = (pss.take k).flatten ++ pss.getD k [] := by
  rw [List.take_succ_eq_append_getElem hk, List.flatten_append]
  simp [List.getD, hk]
theorem flat_le (pss : List (List Int)) (k : Nat) : (pss.take k).flatten.length ≤ pss.flatten.length := by
  conv => rhs; rw [← List.take_append_drop k pss, List.flatten_append, List.length_append]
  exact Nat.le_add_right _ _
end Go.Proofs.Ytcimiajkbgabiaa

namespace Go.Proofs.Ytcimiajkbgabiaa
open Go.RowKit
set_option linter.unusedVariables false
set_option linter.unusedSimpArgs false

theorem one_new (w : World) (x : Value) (t : TypeId) : ∀ j u, [x][j]? = some u → (w.alloc (.cells #[x] t)).cell? ((⟨w.heap.size, 0, none⟩ : Addr).add j) = some u := by
  intro j u hj
  rw [add_mid, Nat.zero_add]
  have h : (w.alloc (.cells #[x] t)).heap[w.heap.size]? = some (.cells [x].toArray t (0, 0)) := heap_alloc_new w _
  rw [cell_of_row _ _ j _ t (0, 0) h]
  simpa using hj
/-- A value that owns bytes, read as data. -/
theorem own_data {w : World} {base : Nat} {v : Value} {zs : List Int} (hb : Bytes zs) (ht : zs.length ≤ 140737488355328) (h : w.ownsRow base 5 1 v zs.length (zs.map (Value.int .u8))) :
    ∃ vo cap, v = .slice vo zs.length cap ∧ Seen w vo zs.length zs ∧ zs.length ≤ cap ∧ (vo = none → cap = 0) ∧ (∀ b o, vo = some ⟨b, o, none⟩ → base ≤ b ∧ b < w.heap.size ∧ o = 0 ∧ RowAt w b zs) ∧ cap ≤ maxLen := by
  rcases own_cases h with ⟨rfl, h0⟩ | ⟨g, cap, rfl, hr, hg, hc, hm⟩
  · subst h0
    exact ⟨none, 0, rfl, Seen.empty _ _, Nat.le_refl _, fun _ => rfl, (fun b o h => by cases h), by decide⟩
  · refine ⟨_, cap, rfl, ?_, hc, (fun h => by cases h), fun b o h => ?_, hm⟩
    · have := Seen.of_row (n := zs.length) hr (Nat.le_refl _) ht hb
      rwa [List.take_length] at this
    · simp only [Option.some.injEq, Addr.mk.injEq, and_true] at h
      obtain ⟨rfl, rfl⟩ := h
      exact ⟨hg, hr.lt, rfl, hr⟩
set_option maxHeartbeats 1000000 in
set_option maxRecDepth 20000 in
theorem copyB_any (ao : Option Addr) (n c : Nat) (zs : List Int) (w : World) (hx : Seen w ao n zs) :
    Calls Try.prog 12 #[.slice ao n c] w fun e w' => ∃ v, e = .returned v ∧ w'.ownsRow w.heap.size 5 1 v n (zs.map (Value.int .u8)) ∧ Below w.heap.size w w' := by
  have t1 := hx.top
  have HL : Hid (zs.length = n) := hx.len
  obtain ⟨i0, hi, hz0, hz1, hz2⟩ := info_parts info_byte
  obtain ⟨w0, hmk, ho1, hg0⟩ := run_make_own (P := Try.prog) w w.heap.size 22 5 i0 (.int .u8 0) 1 Try.underlying22 hi hz0 hz1 .i64 .i64 n (by rw [hz2]; omega) (by unfold maxLen; omega) (Nat.le_refl _)
  have hb1 : Below w.heap.size w w0 := (Below.refl _ _).grown hg0 (Nat.le_refl _) (fun j hj => by cases hj)
  go_enter Try.func12, Try.ntmps12
  go_wp2
  go_loopw [3, 4] (fun v i wr => ∃ k : Nat, k ≤ n ∧ i = .int .i64 k ∧ wr.ownsRow w.heap.size 5 1 v k ((zs.map (Value.int .u8)).take k) ∧ Below w.heap.size w wr) (fun _ i _ => n - (intOf i).toNat)
  case atStart => exact ⟨0, Nat.zero_le _, rfl, ho1, hb1⟩
  case round =>
    clear ho1 hb1 hg0
    obtain ⟨k, hk, rfl, hown, hbel⟩ := hrel
    by_cases hlt : k < n
    · obtain ⟨b, o, rfl, hb, hc⟩ := hx.cells (by omega)
      have c1 := (hbel.cell (p := ⟨b, o + k, none⟩) hb).trans (hc k hlt)
      obtain ⟨Z, hZ⟩ : ∃ Z, zs.getD k 0 = Z := ⟨_, rfl⟩
      rw [hZ] at c1
      have HZ : Hid (zs.getD k 0 = Z) := hZ
      have hsz := hbel.size
      have i1 : (0 : Int) ≤ (k : Int) := by omega
      have i2 : (k : Int) < (n : Int) := by omega
      clear hZ hc hx
      go_wp2_with (at_builtin; refine wpList_append_own _ rfl _ _ 22 rfl w.heap.size 5 i0 (.int .u8 0) 1 1 Try.underlying22 hi hz0 hz1 hz2 rfl (by decide) _ _ _ rfl (hown.alloc _) ⟨wr.heap.size, 0, none⟩ 1 1 [.int .u8 Z] rfl rfl ?c1 ?c2 ?c3 ?c4 ?c5 ?_)
      case c1 => exact one_new _ _ _
      case c2 => intro u hu; simp at hu; subst hu; rfl
      case c3 => unfold maxLen; omega
      case c4 => omega
      case c5 => simp; omega
      · intro v' w1 hown' hgrow _
        have R := step_own hbel hown (by have := HL.out; omega) HZ.out hown' hgrow
        clear hown' hgrow hown hbel c1
        go_wp2
        go_roundw
        case rel => exact ⟨k + 1, by omega, by go_num, R.1, R.2⟩
        case measure => simp [intOf] <;> omega
    · obtain rfl : k = n := by omega
      have HO : Hid (wr.ownsRow w.heap.size 5 1 u3 k ((zs.map (Value.int .u8)).take k)) := hown
      have HB : Hid (Below w.heap.size w wr) := hbel
      clear hown hbel hx
      go_wp2
      go_ret
      refine ⟨_, rfl, ?_, HB.out⟩
      have h := HO.out
      rwa [List.take_of_length_le (by have := HL.out; simp; omega)] at h
/-- A byte more. -/
theorem own_more {w wr w1 : World} {v v' : Value} {zs : List Int} {z : Int}
    (hb : Below w.heap.size w wr) (hown : wr.ownsRow w.heap.size 5 1 v zs.length (zs.map (Value.int .u8)))
    (hown' : w1.ownsRow w.heap.size 5 1 v' (zs.length + 1) (zs.map (Value.int .u8) ++ [.int .u8 z])) (hg : (wr.alloc (.cells #[.int .u8 z] 5)).grownBy w1 v.ownBlock) :
    w1.ownsRow w.heap.size 5 1 v' (zs ++ [z]).length ((zs ++ [z]).map (Value.int .u8)) ∧ Below w.heap.size w w1 := by
  constructor
  · rw [List.map_append, List.length_append]; exact hown'
  · exact (hb.alloc hb.size _).grown hg (by have := hb.size; simp; omega) (fun j hj => (hown.lt j hj).1)
theorem seenP_bytes {w : World} {ao : Option Addr} {n : Nat} {pss : List (List Int)} (hx : SeenP w ao n pss) : ∀ k, k ≤ n → Bytes (pss.take k).flatten := by
  intro k
  induction k with
  | zero => intro _ z hz; simp at hz
  | succ k ih =>
    intro hk
    rw [flat_succ pss k (by rw [hx.len]; omega)]
    obtain ⟨b, o, so, c, _, _, _, hs, _⟩ := hx.cells k (by omega)
    exact bytes_app (ih (by omega)) hs.bytes
set_option maxHeartbeats 1000000 in
set_option maxRecDepth 20000 in
theorem join_any (ao : Option Addr) (n c : Nat) (pss : List (List Int)) (w : World) (hx : SeenP w ao n pss) (hn : n ≤ 140737488355328) (hm : pss.flatten.length ≤ 35184372088832) :
    Calls Try.prog 66 #[.slice ao n c] w fun e w' => ∃ v, e = .returned v ∧ w'.ownsRow w.heap.size 5 1 v pss.flatten.length (pss.flatten.map (Value.int .u8)) ∧ Below w.heap.size w w' := by
  have HX : Hid (SeenP w ao n pss) := hx
  have HN : Hid (pss.length = n ∧ pss.flatten.length ≤ 35184372088832) := ⟨hx.len, hm⟩
  obtain ⟨i0, hi, hz0, hz1, hz2⟩ := info_parts info_byte
  clear hx hm
  go_enter Try.func66, Try.ntmps66
  go_wp2
  go_loopw [3, 4] (fun v i wr => ∃ k : Nat, k ≤ n ∧ i = .int .i64 k ∧ wr.ownsRow w.heap.size 5 1 v (pss.take k).flatten.length ((pss.take k).flatten.map (Value.int .u8)) ∧ Below w.heap.size w wr) (fun _ i _ => n - (intOf i).toNat)
  case atStart => exact ⟨0, Nat.zero_le _, rfl, World.ownsRow_nil _ _ _ _, Below.refl _ _⟩
  case round =>
    obtain ⟨k, hk, rfl, hown, hbel⟩ := hrel
    by_cases hlt : k < n
    · obtain ⟨b, o, so, cs, rfl, hb, hc, hs, hl⟩ := HX.out.cells k hlt
      have E1 := flat_succ pss k (by have := HN.out.1; omega)
      have M1 : (pss.take k).flatten.length + (pss.getD k []).length ≤ 35184372088832 := by
        have h2 := flat_le pss (k + 1)
        rw [E1, List.length_append] at h2
        have := HN.out.2
        omega
      obtain ⟨p, hp⟩ : ∃ p, pss.getD k [] = p := ⟨_, rfl⟩
      obtain ⟨m, hm⟩ : ∃ m, (pss.take k).flatten = m := ⟨_, rfl⟩
      rw [hp] at hc hs hl E1 M1
      rw [hm] at E1 M1 hown
      have HE : Hid ((pss.take (k + 1)).flatten = m ++ p ∧ m.length + p.length ≤ 35184372088832) := ⟨E1, M1⟩
      have HS : Hid (Seen w so p.length p) := hs
      have HC : Hid (w.cell? ⟨b, o + k, none⟩ = some (.slice so p.length cs) ∧ b < w.heap.size) := ⟨hc, hb⟩
      have HO : Hid (wr.ownsRow w.heap.size 5 1 u3 m.length (m.map (Value.int .u8)) ∧ Below w.heap.size w wr) := ⟨hown, hbel⟩
      have i1 : (0 : Int) ≤ (k : Int) := by omega
      have i2 : (k : Int) < (n : Int) := by omega
      have hpl : p.length ≤ 35184372088832 := by omega
      clear E1 M1 hc hs hl hown hbel hp hm
      obtain ⟨w3, rfl⟩ : ∃ w3, w3 = wr := ⟨_, rfl⟩
      go_wp2
      go_loopw [3, 5] (fun v i wr => ∃ j : Nat, j ≤ p.length ∧ i = .int .i64 j ∧ wr.ownsRow w.heap.size 5 1 v (m ++ p.take j).length ((m ++ p.take j).map (Value.int .u8)) ∧ Below w.heap.size w wr) (fun _ i _ => p.length - (intOf i).toNat)
      case atStart => exact ⟨0, Nat.zero_le _, rfl, by simpa using HO.out.1, HO.out.2⟩
      case round =>
        obtain ⟨j, hj, rfl, hown, hbel⟩ := hrel
        have c1 := (hbel.cell (p := ⟨b, o + k, none⟩) HC.out.2).trans HC.out.1
        by_cases hlt2 : j < p.length
        · obtain ⟨b2, o2, rfl, hb2, hc2⟩ := HS.out.cells (by omega)
          have c2 := (hbel.cell (p := ⟨b2, o2 + j, none⟩) hb2).trans (hc2 j hlt2)
          obtain ⟨Z, hZ⟩ : ∃ Z, p.getD j 0 = Z := ⟨_, rfl⟩
          rw [hZ] at c2
          have HZ : Hid (m ++ p.take (j + 1) = (m ++ p.take j) ++ [Z]) := by
            show _ = _
            rw [List.take_succ_eq_append_getElem hlt2, ← hZ, List.append_assoc]
            simp [List.getD, hlt2]
          have hql : (m ++ p.take j).length ≤ 35184372088832 := by have := HE.out.2; simp; omega
          have hsz := hbel.size
          have j1 : (0 : Int) ≤ (j : Int) := by omega
          have j2 : (j : Int) < (p.length : Int) := by omega
          obtain ⟨q, hq⟩ : ∃ q, m ++ p.take j = q := ⟨_, rfl⟩
          rw [hq] at hown HZ hql
          clear hZ hc2 hq
          go_wp2_with (at_builtin; refine wpList_append_own _ rfl _ _ 22 rfl w.heap.size 5 i0 (.int .u8 0) 1 1 Try.underlying22 hi hz0 hz1 hz2 rfl (by decide) _ _ _ rfl (hown.alloc _) ⟨wr.heap.size, 0, none⟩ 1 1 [.int .u8 Z] rfl rfl ?c1 ?c2 ?c3 ?c4 ?c5 ?_)
          case c1 => exact one_new _ _ _
          case c2 => intro u hu; simp at hu; subst hu; rfl
          case c3 => unfold maxLen; omega
          case c4 => omega
          case c5 => simp; omega
          · intro v' w1 hown' hgrow _
            have R := own_more hbel hown hown' hgrow
            clear hown' hgrow hown hbel c1 c2
            go_wp2
            go_roundw
            case rel => exact ⟨j + 1, by omega, by go_num, by rw [HZ.out]; exact R.1, R.2⟩
            case measure => simp [intOf] <;> omega
        · obtain rfl : j = p.length := by omega
          rw [List.take_length] at hown
          have HQ : Hid (wr.ownsRow w.heap.size 5 1 u3 (pss.take (k + 1)).flatten.length ((pss.take (k + 1)).flatten.map (Value.int .u8)) ∧ Below w.heap.size w wr) := by
            rw [HE.out.1]
            exact ⟨hown, hbel⟩
          clear hown hbel
          go_wp2
          exact ⟨⟨k + 1, by omega, by go_num, HQ.out.1, HQ.out.2⟩, by simp [intOf]; omega⟩
    · obtain rfl : k = n := by omega
      rw [List.take_of_length_le (by have := HN.out.1; omega)] at hown
      have HO : Hid (wr.ownsRow w.heap.size 5 1 u3 pss.flatten.length (pss.flatten.map (Value.int .u8)) ∧ Below w.heap.size w wr) := ⟨hown, hbel⟩
      clear hown hbel
      go_wp2
      go_ret
      exact ⟨_, rfl, HO.out⟩
/-- One list, two lists in a new row of headers. -/
theorem seenP1 (W : World) (s1 : Option Addr) (n1 c1 : Nat) (z1 : List Int) (h1 : Seen W s1 n1 z1) (l1 : n1 ≤ c1) :
    SeenP (W.alloc (.cells #[.slice s1 n1 c1] 22)) (some ⟨W.heap.size, 0, none⟩) 1 [z1] := by
  obtain rfl := h1.len
  have hb : Below W.heap.size W (W.alloc (.cells #[.slice s1 z1.length c1] 22)) := (Below.refl _ _).alloc (Nat.le_refl _) _
  have hh : (W.alloc (.cells #[.slice s1 z1.length c1] 22)).heap[W.heap.size]? = some (.cells [.slice s1 z1.length c1].toArray 22 (0, 0)) := heap_alloc_new W _
  refine ⟨rfl, fun i hi => ?_⟩
  obtain rfl : i = 0 := by omega
  exact ⟨_, 0, s1, c1, rfl, by simp, by rw [cell_of_row _ _ _ _ _ _ hh]; rfl, h1.later hb (Nat.le_refl _), l1⟩
theorem seenP2 (W : World) (s1 s2 : Option Addr) (n1 n2 c1 c2 : Nat) (z1 z2 : List Int) (h1 : Seen W s1 n1 z1) (h2 : Seen W s2 n2 z2) (l1 : n1 ≤ c1) (l2 : n2 ≤ c2) :
    SeenP (W.alloc (.cells #[.slice s1 n1 c1, .slice s2 n2 c2] 22)) (some ⟨W.heap.size, 0, none⟩) 2 [z1, z2] := by
  obtain rfl := h1.len
  obtain rfl := h2.len
  have hb : Below W.heap.size W (W.alloc (.cells #[.slice s1 z1.length c1, .slice s2 z2.length c2] 22)) := (Below.refl _ _).alloc (Nat.le_refl _) _
  have hh : (W.alloc (.cells #[.slice s1 z1.length c1, .slice s2 z2.length c2] 22)).heap[W.heap.size]? = some (.cells [.slice s1 z1.length c1, .slice s2 z2.length c2].toArray 22 (0, 0)) := heap_alloc_new W _
  refine ⟨rfl, fun i hi => ?_⟩
  rcases (by omega : i = 0 ∨ i = 1) with rfl | rfl
  · exact ⟨_, 0, s1, c1, rfl, by simp, by rw [cell_of_row _ _ _ _ _ _ hh]; rfl, h1.later hb (Nat.le_refl _), l1⟩
  · exact ⟨_, 0, s2, c2, rfl, by simp, by rw [cell_of_row _ _ _ _ _ _ hh]; rfl, h2.later hb (Nat.le_refl _), l2⟩
set_option maxRecDepth 20000 in
theorem two_any (ao bo : Option Addr) (n m c d : Nat) (zs ys : List Int) (w : World) (hx : Seen w ao n zs) (hy : Seen w bo m ys) (hc : n ≤ c) (hd : m ≤ d) (hm : n + m ≤ 35184372088832) :
    Calls Try.prog 63 #[.slice ao n c, .slice bo m d] w fun e w' => ∃ v, e = .returned v ∧ w'.ownsRow w.heap.size 5 1 v (zs ++ ys).length ((zs ++ ys).map (Value.int .u8)) ∧ Below w.heap.size w w' := by
  have HS : Hid (SeenP (w.alloc (.cells #[.slice ao n c, .slice bo m d] 22)) (some ⟨w.heap.size, 0, none⟩) 2 [zs, ys]) := seenP2 w ao bo n m c d zs ys hx hy hc hd
  have HE : Hid (([zs, ys] : List (List Int)).flatten = zs ++ ys ∧ (zs ++ ys).length ≤ 35184372088832) := ⟨by simp, by rw [List.length_append, hx.len, hy.len]; exact hm⟩
  have HB : Hid (Below w.heap.size w (w.alloc (.cells #[.slice ao n c, .slice bo m d] 22))) := (Below.refl _ _).alloc (Nat.le_refl _) _
  clear hx hy
  go_enter Try.func63, Try.ntmps63
  go_wp2_with fail
  refine (join_any _ 2 2 [zs, ys] _ HS.out (by decide) (by rw [HE.out.1]; exact HE.out.2)).mono ?_
  rintro e w1 ⟨v, rfl, o1, l1⟩
  rw [HE.out.1] at o1
  have o2 := ownsRow_base o1 HB.out.size
  have HO : Hid _ := o2
  have HL : Hid (Below w.heap.size w w1) := below_chain HB.out l1 HB.out.size
  clear o1 o2 l1
  go_wp2
  go_ret
  exact ⟨_, rfl, HO.out, HL.out⟩
end Go.Proofs.Ytcimiajkbgabiaa

namespace Go.Proofs.Ytcimiajkbgabiaa
open Go.RowKit
set_option linter.unusedVariables false
set_option linter.unusedSimpArgs false

theorem info_w : (Try.prog.info? 28).map (fun i => (i.zero, i.size, i.bytes)) = some (some (.int .u64 0), 1, 8) := by kernel_rfl
def Wds (zs : List Int) : Prop := ∀ z ∈ zs, Wd z
theorem Wds.at {zs : List Int} (h : Wds zs) (j : Nat) (hj : j < zs.length) : Wd (zs.getD j 0) := by
  have e : zs.getD j 0 = zs[j] := by simp [List.getD, hj]
  rw [e]; exact h _ (List.getElem_mem hj)
def w64s (l : List Int) : List Value := l.map (Value.int .u64)
theorem w64s_length (l : List Int) : (w64s l).length = l.length := List.length_map ..
theorem w64s_set (l : List Int) (j : Nat) (x : Int) : (w64s l).set j (.int .u64 x) = w64s (l.set j x) := by simp [w64s, List.map_set]
/-- A slice at ao of n numbers, which are zs. -/
structure SeenU (w : World) (ao : Option Addr) (n : Nat) (zs : List Int) : Prop where
  len : zs.length = n
  top : n ≤ 1000
  wd : Wds zs
  cells : 0 < n → ∃ b o, ao = some ⟨b, o, none⟩ ∧ b < w.heap.size ∧ ∀ i, i < n → w.cell? ⟨b, o + i, none⟩ = some (.int .u64 (zs.getD i 0))
theorem SeenU.later {w w' : World} {ao : Option Addr} {n : Nat} {zs : List Int} (h : SeenU w ao n zs) {B : Nat} (hb : Below B w w') (hB : w.heap.size ≤ B) : SeenU w' ao n zs :=
  ⟨h.len, h.top, h.wd, fun hn => by
    obtain ⟨b, o, e, hlt, hc⟩ := h.cells hn
    exact ⟨b, o, e, Nat.lt_of_lt_of_le hlt hb.size, fun i hi => (hb.cell (p := ⟨b, o + i, none⟩) (Nat.lt_of_lt_of_le hlt hB)).trans (hc i hi)⟩⟩
theorem SeenU.kept {S : Nat → Prop} {w w' : World} {ao : Option Addr} {n : Nat} {zs : List Int} (h : SeenU w ao n zs) (hk : Kept S w w') (hS : ∀ b, b < w.heap.size → ¬ S b) : SeenU w' ao n zs :=
  ⟨h.len, h.top, h.wd, fun hn => by
    obtain ⟨b, o, e, hlt, hc⟩ := h.cells hn
    exact ⟨b, o, e, Nat.lt_of_lt_of_le hlt hk.size, fun i hi => (hk.cell (p := ⟨b, o + i, none⟩) hlt (hS b hlt)).trans (hc i hi)⟩⟩
/-- Block g begins with the numbers zs, has room for cap, and may be written. -/
def RowU (w : World) (r cap : Nat) (zs : List Int) : Prop := ∃ rest : List Value, w.heap[r]? = some (.cells (w64s zs ++ rest).toArray 28 (0, 0)) ∧ zs.length + rest.length = cap
theorem RowU.cell {w : World} {g cap : Nat} {zs : List Int} (h : RowU w g cap zs) (j : Nat) (hj : j < zs.length) : w.cell? ⟨g, j, none⟩ = some (.int .u64 (zs.getD j 0)) := by
  obtain ⟨rest, h, _⟩ := h
  rw [cell_of_row w g j _ 28 (0, 0) h]
  simp [w64s, hj, List.getElem?_append]
theorem RowU.frozen {w : World} {g cap : Nat} {zs : List Int} (h : RowU w g cap zs) (j : Nat) : w.frozen? ⟨g, j, none⟩ = false := by
  obtain ⟨rest, h, _⟩ := h
  exact frozen_of_row w g j _ 28 h
theorem RowU.set {w : World} {g cap : Nat} {zs : List Int} (h : RowU w g cap zs) (j : Nat) (hj : j < zs.length) (z : Int) : RowU (w.setCell ⟨g, j, none⟩ (.int .u64 z)) g cap (zs.set j z) := by
  obtain ⟨rest, h, hc⟩ := h
  refine ⟨rest, ?_, by simpa using hc⟩
  rw [heap_setCell_same w g j _ 28 _ h, ← w64s_set]
  simp [w64s_length, hj]
theorem RowU.lt {w : World} {g cap : Nat} {zs : List Int} (h : RowU w g cap zs) : g < w.heap.size := by
  obtain ⟨rest, h, _⟩ := h
  rcases Nat.lt_or_ge g w.heap.size with h' | h'
  · exact h'
  · rw [Array.getElem?_eq_none h'] at h; cases h
theorem RowU.block {w w' : World} {r cap : Nat} {zs : List Int} (h : RowU w r cap zs) (e : w'.heap[r]? = w.heap[r]?) : RowU w' r cap zs := by
  obtain ⟨rest, h, hc⟩ := h
  exact ⟨rest, by rw [e]; exact h, hc⟩
theorem RowU.later {w w' : World} {r cap : Nat} {zs : List Int} (h : RowU w r cap zs) {B : Nat} (hb : Below B w w') (hB : w.heap.size ≤ B) : RowU w' r cap zs := h.block (hb.block r (Nat.lt_of_lt_of_le h.lt hB))
theorem RowU.drew {w : World} {r cap : Nat} {zs : List Int} (h : RowU w r cap zs) : RowU w.drew r cap zs := h
theorem RowU.of_own {w : World} {base r n cap : Nat} {zs : List Int} (h : w.ownsRow base 28 1 (.slice (some ⟨r, 0, none⟩) n cap) n (w64s zs)) : RowU w r cap zs ∧ base ≤ r ∧ n ≤ cap ∧ cap ≤ maxLen ∧ zs.length = n := by
  obtain ⟨hl, h⟩ := h
  rcases h with ⟨h, _⟩ | ⟨g', cap', cur, h, hb, hh, hc, hm, hs, ht⟩
  · cases h
  · simp only [Value.slice.injEq, Option.some.injEq, Addr.mk.injEq, and_true, true_and] at h
    obtain ⟨rfl, rfl⟩ := h
    rw [Nat.mul_one] at ht hs
    have hl' : zs.length = n := by simpa [w64s] using hl
    refine ⟨⟨cur.toList.drop n, ?_, ?_⟩, hb, hc, hm, hl'⟩
    · rw [← ht, List.take_append_drop]; simpa using hh
    · simp; omega
theorem RowU.own {w : World} {base r n cap : Nat} {zs : List Int} (h : RowU w r cap zs) (hl : zs.length = n) (hb : base ≤ r) (hm : cap ≤ maxLen) : w.ownsRow base 28 1 (.slice (some ⟨r, 0, none⟩) n cap) n (w64s zs) := by
  obtain ⟨rest, h, hc⟩ := h
  refine ⟨by rw [w64s_length]; omega, .inr ⟨r, cap, _, rfl, hb, h, by omega, hm, by simp [w64s_length]; omega, ?_⟩⟩
  rw [Nat.mul_one]
  simp [w64s_length, hl]
theorem RowU.seen {w : World} {g cap : Nat} {zs : List Int} (h : RowU w g cap zs) (ht : zs.length ≤ 1000) (hs : Wds zs) : SeenU w (some ⟨g, 0, none⟩) zs.length zs :=
  ⟨rfl, ht, hs, fun _ => ⟨g, 0, rfl, h.lt, fun i hi => by rw [Nat.zero_add]; exact h.cell i hi⟩⟩
theorem ownU {w : World} {base n : Nat} {v : Value} {zs : List Int} (hl : zs.length = n) (h : w.ownsRow base 28 1 v n (w64s zs)) :
    (v = .slice none 0 0 ∧ n = 0 ∧ zs = []) ∨ ∃ g cap, v = .slice (some ⟨g, 0, none⟩) n cap ∧ RowU w g cap zs ∧ base ≤ g ∧ n ≤ cap ∧ cap ≤ maxLen := by
  rcases h.2 with ⟨h1, h2⟩ | ⟨g, cap, cur, rfl, r⟩
  · left
    subst h2
    exact ⟨h1, rfl, List.length_eq_zero_iff.1 hl⟩
  · right
    have := RowU.of_own h
    exact ⟨g, cap, rfl, this.1, this.2.1, this.2.2.1, this.2.2.2.1⟩
/-- A slice of these numbers. -/
def isU (zs : List Int) (v : Value) (w : World) : Prop := ∃ vo n c, v = .slice vo n c ∧ SeenU w vo n zs
theorem isU_later (zs : List Int) : ∀ v w w', Below w.heap.size w w' → isU zs v w → isU zs v w' := fun _ _ _ hb ⟨b, o, c, h1, h2⟩ => ⟨b, o, c, h1, h2.later hb (Nat.le_refl _)⟩
theorem isU_own {w : World} {base n : Nat} {v : Value} {zs : List Int} (hl : zs.length = n) (ht : n ≤ 1000) (hs : Wds zs) (h : w.ownsRow base 28 1 v n (w64s zs)) : isU zs v w := by
  rcases ownU hl h with ⟨rfl, rfl, rfl⟩ | ⟨g, cap, rfl, hr, _, _, _⟩
  · exact ⟨none, 0, 0, rfl, rfl, Nat.zero_le _, (fun d hd => by cases hd), fun h => (by omega)⟩
  · subst hl
    exact ⟨_, _, cap, rfl, hr.seen ht hs⟩
/-- A number more. -/
theorem ownU_more {w wr w1 : World} {v v' : Value} {zs : List Int} {z : Int}
    (hb : Below w.heap.size w wr) (hown : wr.ownsRow w.heap.size 28 1 v zs.length (w64s zs))
    (hown' : w1.ownsRow w.heap.size 28 1 v' (zs.length + 1) (w64s zs ++ [.int .u64 z])) (hg : (wr.alloc (.cells #[.int .u64 z] 28)).grownBy w1 v.ownBlock) :
    w1.ownsRow w.heap.size 28 1 v' (zs ++ [z]).length (w64s (zs ++ [z])) ∧ Below w.heap.size w w1 := by
  constructor
  · rw [w64s, List.map_append, List.length_append]; exact hown'
  · exact (hb.alloc hb.size _).grown hg (by have := hb.size; simp; omega) (fun j hj => (hown.lt j hj).1)
theorem madeU (n : Nat) : (madeCells #[Value.int .u64 0] n) = (w64s (List.replicate n 0)).toArray := by
  apply Array.ext'
  rw [toList_madeCells_one]
  simp [w64s]
set_option maxHeartbeats 1000000 in
set_option maxRecDepth 20000 in
theorem rlittle_any (ao : Option Addr) (n c : Nat) (zs : List Int) (k : Nat) (hk : k ≤ 8) (w : World) (hx : Seen w ao n zs) :
    Calls Try.prog 120 #[.slice ao n c, .int .i64 k] w fun e w' => e = .returned (.tuple #[.int .u64 (leV k n zs), .int .i64 (fit n k)]) ∧ w = w' := by
  have t1 := hx.top
  rcases Nat.lt_trichotomy n k with h | h | h
  · rw [fit_short h, leV_no zs (by omega)]
    have h1 : (n : Int) < (k : Int) := by omega
    go_enter Try.func120, Try.ntmps120
    go_wp2
    go_ret2
    exact ⟨rfl, rfl⟩
  · subst h
    rw [fit_ok, leV_ok]
    have HL : Hid (zs.length = n) := hx.len
    have HB : Hid (Bytes zs) := hx.bytes
    go_enter Try.func120, Try.ntmps120
    go_wp2
    go_loopw [6, 7] (fun v i wr => ∃ (m : Nat) (I : Int), m ≤ n ∧ I + 1 = m ∧ i = .int .i64 I ∧ v = .int .u64 (le (zs.drop m)) ∧ wr = w) (fun _ i _ => (intOf i + 1).toNat)
    case atStart => exact ⟨n, (n : Int) - 1, Nat.le_refl _, by omega, rfl, by rw [List.drop_of_length_le (by have := HL.out; omega)]; rfl, rfl⟩
    case round =>
      obtain ⟨m, I, hm, hI, rfl, rfl, rfl⟩ := hrel
      by_cases hlt : 0 < m
      · obtain ⟨b, o, rfl, hb, hc⟩ := hx.cells (by omega)
        obtain ⟨p, rfl⟩ : ∃ p, m = p + 1 := ⟨m - 1, by omega⟩
        obtain rfl : I = (p : Int) := by omega
        have c1 := hc p (by omega)
        have hd := le_drop zs p (by have := HL.out; omega)
        have hbd := le_drop_bd zs HB.out n (p + 1) HL.out hk (by omega)
        have hz := HB.out.at p (by have := HL.out; omega)
        have hbd2 := le_bd (zs.drop p) (bytes_drop HB.out p)
        have hlt2 : le (zs.drop p) < 18446744073709551616 := by
          have : 256 ^ (zs.drop p).length ≤ 256 ^ 8 := Nat.pow_le_pow_right (by decide) (by rw [List.length_drop]; have := HL.out; omega)
          have h2 : (256 : Int) ^ (zs.drop p).length ≤ 256 ^ 8 := by
            show ((256 : Nat) : Int) ^ _ ≤ ((256 : Nat) : Int) ^ 8
            rw [← Int.natCast_pow, ← Int.natCast_pow]
            exact Int.ofNat_le.2 this
          omega
        obtain ⟨Z, hZ⟩ : ∃ Z, zs.getD p 0 = Z := ⟨_, rfl⟩
        obtain ⟨A, hA⟩ : ∃ A, le (zs.drop (p + 1)) = A := ⟨_, rfl⟩
        rw [hZ] at c1 hd hz
        rw [hA] at hd hbd
        rw [hd] at hlt2
        have HO : Hid (A * 256 + Z = le (zs.drop p)) := by show _ = _; rw [hd]; omega
        rw [hA]
        have w1 : A * 256 % 18446744073709551616 = A * 256 := by omega
        have w2 : (A * 256 + Z) % 18446744073709551616 = A * 256 + Z := by omega
        have i1 : (0 : Int) ≤ (p : Int) := by omega
        have i2 : (p : Int) < (n : Int) := by omega
        clear hZ hA hc hx hd hbd2
        go_wp2
        go_roundw
        case rel => exact ⟨p, (p : Int) - 1, by omega, by omega, by go_num, by rw [← HO.out], by first | rfl | trivial⟩
        case measure => simp [intOf] <;> omega
      · obtain rfl : m = 0 := by omega
        obtain rfl : I = -1 := by omega
        rw [List.drop_zero]
        obtain ⟨A, hA⟩ : ∃ A, le zs = A := ⟨_, rfl⟩
        rw [hA]
        have HA : Hid (le zs = A) := hA
        clear hx hA
        go_wp2
        go_ret2
        exact ⟨by rw [HA.out]; rfl, rfl⟩
  · rw [fit_rest h, leV_no zs (by omega)]
    have h1 : (k : Int) < (n : Int) := by omega
    go_enter Try.func120, Try.ntmps120
    go_wp2
    go_ret2
    exact ⟨rfl, rfl⟩

set_option maxHeartbeats 1000000 in
set_option maxRecDepth 20000 in
theorem rbytes_any (x : Int) (hv : Word x) (k : Nat) (hk : k ≤ 8) (w : World) :
    Calls Try.prog 86 #[.int .u64 x, .int .i64 k] w fun e w' => ∃ v, e = .returned v ∧ w'.ownsRow w.heap.size 5 1 v k ((leB k x).map (Value.int .u8)) ∧ Below w.heap.size w w' := by
  have A1 : Hid (∀ i, i < k → (leB k x).getD i 0 = x / 256 ^ i % 256) := fun i hi => leB_at _ _ _ hi
  have A4 : Hid ((leB k x).length = k) := leB_length _ _
  generalize leB k x = zm at *
  obtain ⟨i0, hi, hz0, hz1, hz2⟩ := info_parts info_byte
  go_enter Try.func86, Try.ntmps86
  go_wp2
  go_loopw [0, 5, 6] (fun u v i wr => ∃ m : Nat, m ≤ k ∧ u = .int .u64 (x / 256 ^ m) ∧ i = .int .i64 m ∧ wr.ownsRow w.heap.size 5 1 v m ((zm.map (Value.int .u8)).take m) ∧ Below w.heap.size w wr) (fun _ _ i _ => k - (intOf i).toNat)
  case atStart => exact ⟨0, Nat.zero_le _, by simp, rfl, by simpa using World.ownsRow_nil _ _ _ _, Below.refl _ _⟩
  case round =>
    obtain ⟨m, hm, rfl, rfl, hown, hbel⟩ := hrel
    have hq : 0 ≤ x / 256 ^ m ∧ x / 256 ^ m < 18446744073709551616 := by
      have hp : (0 : Int) < 256 ^ m := Int.pow_pos (by decide)
      have h1 := Int.ediv_nonneg hv.1 (Int.le_of_lt hp)
      have h2 : x / 256 ^ m ≤ x := Int.ediv_le_self _ hv.1
      have h3 := hv.2
      exact ⟨h1, by omega⟩
    have HP : Hid (x / 256 ^ (m + 1) = x / 256 ^ m / 256) := by
      show _ = _
      rw [Int.pow_succ, Int.ediv_ediv_of_nonneg (Int.le_of_lt (Int.pow_pos (by decide)))]
    by_cases hlt : m < k
    · have HZ : Hid (zm.getD m 0 = x / 256 ^ m % 256) := A1.out m hlt
      obtain ⟨Y, hY⟩ : ∃ Y, x / 256 ^ m = Y := ⟨_, rfl⟩
      have HY : Hid (x / 256 ^ m = Y) := hY
      rw [hY] at hq ⊢
      have e1 : Y % 256 % 256 = Y % 256 := by omega
      have hsz := hbel.size
      have i2 : (m : Int) < (k : Int) := by omega
      clear hY
      go_wp2_with (at_builtin; refine wpList_append_own _ rfl _ _ 22 rfl w.heap.size 5 i0 (.int .u8 0) 1 1 Try.underlying22 hi hz0 hz1 hz2 rfl (by decide) _ _ _ rfl (hown.alloc _) ⟨wr.heap.size, 0, none⟩ 1 1 [.int .u8 (Y % 256)] rfl rfl ?c1 ?c2 ?c3 ?c4 ?c5 ?_)
      case c1 => exact cell_one_new _ _ _
      case c2 => intro u hu; simp at hu; subst hu; rfl
      case c3 => unfold maxLen; omega
      case c4 => omega
      case c5 => simp; omega
      · intro v' w1 hown' hgrow _
        have R := step_own hbel hown (by have := A4.out; omega) (by rw [HZ.out, HY.out]) hown' hgrow
        clear hown' hgrow hown hbel
        go_wp2
        go_roundw
        case rel => exact ⟨m + 1, by omega, by rw [HP.out, HY.out], by go_num, R.1, R.2⟩
        case measure => simp [intOf]; omega
    · obtain rfl : m = k := by omega
      have HO : Hid (wr.ownsRow w.heap.size 5 1 u5 m ((zm.map (Value.int .u8)).take m)) := hown
      have HB : Hid _ := hbel
      clear hown hbel
      go_wp2
      go_ret
      refine ⟨_, rfl, ?_, HB.out⟩
      have h := HO.out
      rwa [List.take_of_length_le (by have := A4.out; simp; omega)] at h

theorem rnum_any (ao : Option Addr) (n c : Nat) (zs : List Int) (hn : n ≤ 8) (w : World) (hx : Seen w ao n zs) : Calls Try.prog 116 #[.slice ao n c] w fun e w' => e = .returned (.int .u64 (le zs)) ∧ w = w' := by
  have h := rlittle_any ao n c zs n hn w hx
  rw [leV_ok] at h
  go_enter Try.func116, Try.ntmps116
  go_wp2_with (go_at_call 120; refine h.mono ?_; rintro e w' ⟨rfl, rfl⟩)
  go_ret
  exact ⟨rfl, rfl⟩
theorem le4_wd (l : List Int) (hb : Bytes l) (hl : l.length = 4) : Wd (le l) := by
  have h := le_bd l hb
  rw [hl] at h
  exact ⟨h.1, h.2⟩
theorem wds_wd (zs : List Int) (k : Nat) (hb : Bytes zs) (hl : 4 * k ≤ zs.length) : Wds (wds zs k) := by
  intro z hz
  simp only [wds, List.mem_map, List.mem_range] at hz
  obtain ⟨t, ht, rfl⟩ := hz
  exact le4_wd _ (bytes_take (bytes_drop hb _) _) (by rw [List.length_take, List.length_drop]; omega)
theorem ownU_next {w wr w1 : World} {v v' : Value} {zs : List Int} {z : Int} {k : Nat} (hl : zs.length = k)
    (hb : Below w.heap.size w wr) (hown : wr.ownsRow w.heap.size 28 1 v k (w64s zs))
    (hown' : w1.ownsRow w.heap.size 28 1 v' (k + 1) (w64s zs ++ [.int .u64 z])) (hg : (wr.alloc (.cells #[.int .u64 z] 28)).grownBy w1 v.ownBlock) :
    w1.ownsRow w.heap.size 28 1 v' (k + 1) (w64s (zs ++ [z])) ∧ Below w.heap.size w w1 := by
  subst hl
  have R := ownU_more (zs := zs) (z := z) hb hown hown' hg
  rwa [List.length_append] at R
set_option maxHeartbeats 1000000 in
set_option maxRecDepth 20000 in
theorem words_any (ao : Option Addr) (K c : Nat) (zs : List Int) (hK : K ≤ 8) (w : World) (hx : Seen w ao (4 * K) zs) (hc : 4 * K ≤ c) :
    Calls Try.prog 104 #[.slice ao (4 * K) c] w fun e w' => ∃ v, e = .returned v ∧ isU (wds zs K) v w' ∧ Below w.heap.size w w' := by
  have HX : Hid (Seen w ao (4 * K) zs ∧ zs.length = 4 * K ∧ Bytes zs) := ⟨hx, hx.len, hx.bytes⟩
  obtain ⟨i0, hi, hz0, hz1, hz2⟩ := info_parts info_w
  clear hx
  go_enter Try.func104, Try.ntmps104
  go_wp2_with fail
  go_loopw [3, 4] (fun v i wr => ∃ k : Nat, k ≤ K ∧ i = .int .i64 (4 * (k : Int)) ∧ wr.ownsRow w.heap.size 28 1 v k (w64s (wds zs k)) ∧ Below w.heap.size w wr) (fun _ i _ => 4 * K - (intOf i).toNat)
  case atStart => exact ⟨0, Nat.zero_le _, rfl, World.ownsRow_nil _ _ _ _, Below.refl _ _⟩
  case round =>
    obtain ⟨k, hk, rfl, hown, hbel⟩ := hrel
    have hsz := hbel.size
    by_cases hlt : k < K
    · have i1 : 4 * (k : Int) + 4 ≤ 4 * (K : Int) := by omega
      have i2 : (0 : Int) ≤ 4 * (k : Int) := by omega
      have hsl : ∀ W, (Instr.sliceAt 22 (.slice ao (4 * K) c) (some (.int .i64 (4 * (k : Int)))) (some (.int .i64 (4 * (k : Int) + 4))) none).run Try.prog W = .ok (.slice (subA ao (4 * k) c) 4 (c - 4 * k)) W := fun W => by
        have := sl_lh ao (4 * K) c (4 * k) (4 * k + 4) (by omega) (by omega) W
        rw [Nat.add_sub_cancel_left] at this
        simpa using this
      have hs4 := (HX.out.1.later hbel (Nat.le_refl _)).sub (4 * k) (4 * k + 4) c (by omega) (by omega) hc
      rw [Nat.add_sub_cancel_left] at hs4
      have HS : Hid (Seen wr (subA ao (4 * k) c) 4 ((zs.drop (4 * k)).take 4)) := hs4
      obtain ⟨Z, HZ⟩ : ∃ Z, Hid (le ((zs.drop (4 * k)).take 4) = Z) := ⟨_, rfl⟩
      have HE : Hid (wds zs (k + 1) = wds zs k ++ [Z]) := by show _ = _; rw [wds_succ, ← HZ.out]; rfl
      clear hs4
      go_wp2_with fail
      refine (rnum_any _ 4 (c - 4 * k) _ (by decide) wr HS.out).mono ?_
      rintro e w' ⟨rfl, rfl⟩
      rw [HZ.out]
      go_wp2_with (at_builtin; refine wpList_append_own _ rfl _ _ 137 rfl w.heap.size 28 i0 (.int .u64 0) 1 8 Try.underlying137 hi hz0 hz1 hz2 rfl (by decide) _ _ _ rfl (hown.alloc _) ⟨wr.heap.size, 0, none⟩ 1 1 [.int .u64 Z] rfl rfl ?c1 ?c2 ?c3 ?c4 ?c5 ?_)
      try case c1 => exact one_new _ _ _
      case c2 => first | rfl | (intro u hu; simp at hu; subst hu; rfl)
      case c3 => unfold maxLen; omega
      case c4 => omega
      case c5 => first | omega | (simp; omega)
      · intro v' w1 hown' hgrow _
        have R := ownU_next (wds_length zs k) hbel hown hown' hgrow
        clear hown' hgrow hown hbel
        go_wp2_with fail
        exact ⟨⟨k + 1, by omega, by go_num, by rw [HE.out]; exact R.1, R.2⟩, by simp [intOf]; omega⟩
    · obtain rfl : K = k := by omega
      have i1 : ¬ 4 * (K : Int) + 4 ≤ 4 * (K : Int) := by omega
      have HO : Hid (isU (wds zs K) u3 wr ∧ Below w.heap.size w wr) := ⟨isU_own (wds_length zs K) (by omega) (wds_wd zs K HX.out.2.2 (by rw [HX.out.2.1]; exact Nat.le_refl _)) hown, hbel⟩
      clear hown hbel
      go_wp2_with fail
      go_ret
      exact ⟨_, rfl, HO.out⟩
end Go.Proofs.Ytcimiajkbgabiaa

namespace Go.Proofs.Ytcimiajkbgabiaa
open Go.RowKit
set_option linter.unusedVariables false
set_option linter.unusedSimpArgs false

def u64s (l : List Int) : List Value := l.map (Value.int .u64)
theorem u64s_length (l : List Int) : (u64s l).length = l.length := List.length_map ..
theorem u64s_one (l : List Int) : ∀ v ∈ u64s l, v.oneCell' = true := by
  intro v hv
  obtain ⟨z, _, rfl⟩ := List.mem_map.1 hv
  rfl
/-- A number in two words, in three, in four. -/
def pr (v : Int) : List Int := [v % 18446744073709551616, v / 18446744073709551616]
def nm (v : Int) : List Int := [v % 18446744073709551616, v / 18446744073709551616 % 18446744073709551616, v / 340282366920938463463374607431768211456]
def q4 (v : Int) : List Int := [v % 18446744073709551616, v / 18446744073709551616 % 18446744073709551616, v / 340282366920938463463374607431768211456 % 18446744073709551616, v / 6277101735386680763835789423207666416102355444464034512896]
/-- What stands from 2^130 on, five times, beside the rest. -/
def fold5 (v : Int) : Int := v % 1361129467683753853853498429727072845824 + 5 * (v / 1361129467683753853853498429727072845824)
/-- The prime. -/
abbrev prime : Int := 1361129467683753853853498429727072845819
theorem fold5_mod (v : Int) : fold5 v % prime = v % prime := by unfold fold5 prime; omega
theorem fold5_bd (v : Int) (h0 : 0 ≤ v) (h1 : v < 57896044618658097711785492504343953926634992332820282019728792003956564819968) : 0 ≤ fold5 v ∧ fold5 v < 1701411834604692317316873037158841057280 := by unfold fold5; omega
theorem and3 (x : Int) (h0 : 0 ≤ x) (h1 : x < 18446744073709551616) : bits .and .u64 x 3 = x % 4 := by
  rw [u64_and _ _ h0 h1 (by decide) (by decide)]
  obtain ⟨a, rfl⟩ := Int.eq_ofNat_of_zero_le h0
  have : a &&& 3 = a % 4 := Nat.and_two_pow_sub_one_eq_mod a 2
  simp only [Int.toNat_natCast, Int.reduceToNat, this]; omega
theorem andNot3 (x : Int) (h0 : 0 ≤ x) (h1 : x < 18446744073709551616) : bits .andNot .u64 x 3 = x - x % 4 := by
  rw [u64_andNot _ _ h0 h1 (by decide) (by decide)]
  obtain ⟨a, rfl⟩ := Int.eq_ofNat_of_zero_le h0
  simp only [Int.toNat_natCast, Int.reduceToNat, Nat.reduceSub]
  have e : a &&& 18446744073709551612 = a - a % 4 := by
    apply Nat.eq_of_testBit_eq
    intro i
    have e1 : a - a % 4 = 2 ^ 2 * (a / 4) := by omega
    rw [e1, Nat.testBit_and, Nat.testBit_two_pow_mul]
    have e2 : (18446744073709551612 : Nat) = 2 ^ 2 * (2 ^ 62 - 1) := by decide
    rw [e2, Nat.testBit_two_pow_mul, Nat.testBit_two_pow_sub_one]
    by_cases hi : 2 ≤ i
    · have e3 : (a / 4).testBit (i - 2) = a.testBit i := by
        rw [show (4 : Nat) = 2 ^ 2 from rfl, Nat.testBit_div_two_pow]; congr 1; omega
      simp only [hi, decide_true, Bool.true_and, e3, ge_iff_le]
      by_cases h62 : i - 2 < 62
      · simp [h62]
      · have : a.testBit i = false := Nat.testBit_lt_two_pow (Nat.lt_of_lt_of_le (by omega : a < 2 ^ 64) (Nat.pow_le_pow_right (by decide) (by omega)))
        simp [this]
    · simp [hi]
  rw [e]; omega
theorem or_high (x y : Int) (hx : 0 ≤ x ∧ x < 4611686018427387904) (hy : 0 ≤ y ∧ y < 4) : bits .or .u64 x (y * 4611686018427387904) = x + y * 4611686018427387904 := by
  rw [u64_or _ _ hx.1 (by omega) (by omega) (by omega)]
  obtain ⟨a, rfl⟩ := Int.eq_ofNat_of_zero_le hx.1
  obtain ⟨b, rfl⟩ := Int.eq_ofNat_of_zero_le hy.1
  have h := Nat.shiftLeft_add_eq_or_of_lt (i := 62) (b := a) (by omega) b
  have e1 : ((b : Int) * 4611686018427387904).toNat = b <<< 62 := by rw [Nat.shiftLeft_eq]; omega
  rw [e1, Int.toNat_natCast, Nat.or_comm, ← h, Nat.shiftLeft_eq]; omega
/-- The products of a number of three words and one of two. -/
theorem times_code (x0 x1 x2 r0 r1 : Int) (h0 : 0 ≤ x0 ∧ x0 < 18446744073709551616) (h1 : 0 ≤ x1 ∧ x1 < 18446744073709551616) (h2 : 0 ≤ x2 ∧ x2 < 8) (g0 : 0 ≤ r0 ∧ r0 < 1152921504606846976) (g1 : 0 ≤ r1 ∧ r1 < 1152921504606846976) :
    ∃ a b c d e f : Int, x0 * r0 = a ∧ x0 * r1 = b ∧ x1 * r0 = c ∧ x1 * r1 = d ∧ x2 * r0 = e ∧ x2 * r1 = f ∧
      (x0 + 18446744073709551616 * x1 + 340282366920938463463374607431768211456 * x2) * (r0 + 18446744073709551616 * r1) = a + 18446744073709551616 * (b + c) + 340282366920938463463374607431768211456 * (d + e) + 6277101735386680763835789423207666416102355444464034512896 * f ∧
      0 ≤ a ∧ a ≤ 21267647932558653966460912964485513216 ∧ 0 ≤ b ∧ b ≤ 21267647932558653966460912964485513216 ∧ 0 ≤ c ∧ c ≤ 21267647932558653966460912964485513216 ∧ 0 ≤ d ∧ d ≤ 21267647932558653966460912964485513216 ∧ 0 ≤ e ∧ e ≤ 8070450532247928832 ∧ 0 ≤ f ∧ f ≤ 8070450532247928832 := by
  have big : ∀ x r : Int, 0 ≤ x ∧ x < 18446744073709551616 → 0 ≤ r ∧ r < 1152921504606846976 → 0 ≤ x * r ∧ x * r ≤ 21267647932558653966460912964485513216 := by
    intro x r hx hr
    refine ⟨Int.mul_nonneg hx.1 hr.1, ?_⟩
    have := Int.mul_le_mul (Int.le_of_lt hx.2) (Int.le_of_lt hr.2) hr.1 (by decide)
    exact Int.le_trans this (by decide)
  have small : ∀ x r : Int, 0 ≤ x ∧ x < 8 → 0 ≤ r ∧ r < 1152921504606846976 → 0 ≤ x * r ∧ x * r ≤ 8070450532247928832 := by
    intro x r hx hr
    refine ⟨Int.mul_nonneg hx.1 hr.1, ?_⟩
    have := Int.mul_le_mul (show x ≤ 7 by omega) (Int.le_of_lt hr.2) hr.1 (by decide)
    exact Int.le_trans this (by decide)
  refine ⟨_, _, _, _, _, _, rfl, rfl, rfl, rfl, rfl, rfl, ?_, (big _ _ h0 g0).1, (big _ _ h0 g0).2, (big _ _ h0 g1).1, (big _ _ h0 g1).2, (big _ _ h1 g0).1, (big _ _ h1 g0).2, (big _ _ h1 g1).1, (big _ _ h1 g1).2, (small _ _ h2 g0).1, (small _ _ h2 g0).2, (small _ _ h2 g1).1, (small _ _ h2 g1).2⟩
  simp only [Int.add_mul, Int.mul_add]
  have e1 : x0 * (18446744073709551616 * r1) = 18446744073709551616 * (x0 * r1) := Int.mul_left_comm ..
  have e2 : 18446744073709551616 * x1 * r0 = 18446744073709551616 * (x1 * r0) := Int.mul_assoc ..
  have e3 : 18446744073709551616 * x1 * (18446744073709551616 * r1) = 340282366920938463463374607431768211456 * (x1 * r1) := by rw [Int.mul_assoc, Int.mul_left_comm x1, ← Int.mul_assoc]; rfl
  have e4 : 340282366920938463463374607431768211456 * x2 * r0 = 340282366920938463463374607431768211456 * (x2 * r0) := Int.mul_assoc ..
  have e5 : 340282366920938463463374607431768211456 * x2 * (18446744073709551616 * r1) = 6277101735386680763835789423207666416102355444464034512896 * (x2 * r1) := by rw [Int.mul_assoc, Int.mul_left_comm x2, ← Int.mul_assoc]; rfl
  rw [e1, e2, e3, e4, e5]; omega
end Go.Proofs.Ytcimiajkbgabiaa

namespace Go.Proofs.Ytcimiajkbgabiaa
open Go.RowKit
set_option linter.unusedVariables false
set_option linter.unusedSimpArgs false

/-- What a becomes by one more chunk, of number c. -/
def step5 (r a c : Int) : Int := fold5 ((a + c) * r)
/-- Behind the first k whole chunks. -/
def accK (r : Int) (m : List Int) : Nat → Int
  | 0 => 0
  | k + 1 => step5 r (accK r m k) (le ((m.drop (16 * k)).take 16) + 340282366920938463463374607431768211456)
def acc (r : Int) (m : List Int) : Int := accK r m (m.length / 16)
def rest16 (m : List Int) : List Int := m.drop (16 * (m.length / 16))
theorem rest16_length (m : List Int) : (rest16 m).length = m.length % 16 := by unfold rest16; rw [List.length_drop]; omega
theorem rest16_bytes {m : List Int} (h : Bytes m) : Bytes (rest16 m) := bytes_drop h _
theorem accK_app (r : Int) (m x : List Int) : ∀ k, 16 * k ≤ m.length → accK r (m ++ x) k = accK r m k
  | 0, _ => rfl
  | k + 1, h => by
    rw [accK, accK, accK_app r m x k (by omega)]
    have e : ((m ++ x).drop (16 * k)).take 16 = (m.drop (16 * k)).take 16 := by
      rw [List.drop_append_of_le_length (by omega), List.take_append_of_le_length (by rw [List.length_drop]; omega)]
    rw [e]
theorem acc_less (r : Int) (m x : List Int) (h : m.length % 16 + x.length < 16) : acc r (m ++ x) = acc r m ∧ rest16 (m ++ x) = rest16 m ++ x := by
  have e : (m ++ x).length / 16 = m.length / 16 := by rw [List.length_append]; omega
  constructor
  · rw [acc, e, accK_app r m x _ (by omega)]; rfl
  · rw [rest16, e, List.drop_append_of_le_length (by omega)]; rfl
theorem acc_full (r : Int) (m x : List Int) (h : m.length % 16 + x.length = 16) : acc r (m ++ x) = step5 r (acc r m) (le (rest16 m ++ x) + 340282366920938463463374607431768211456) ∧ rest16 (m ++ x) = [] := by
  have e : (m ++ x).length / 16 = m.length / 16 + 1 := by rw [List.length_append]; omega
  constructor
  · rw [acc, e, accK, accK_app r m x _ (by omega)]
    have e2 : ((m ++ x).drop (16 * (m.length / 16))).take 16 = rest16 m ++ x := by
      rw [List.drop_append_of_le_length (by omega), List.take_of_length_le (by rw [List.length_append, List.length_drop]; omega)]; rfl
    rw [e2]; rfl
  · rw [rest16, e]
    exact List.drop_eq_nil_of_le (by rw [List.length_append]; omega)
theorem prod_bd (x r : Int) (hx : 0 ≤ x ∧ x < 2722258935367507707706996859454145691648) (hr : 0 ≤ r ∧ r < 21267647932558653966460912964485513216) : 0 ≤ x * r ∧ x * r < 57896044618658097711785492504343953926634992332820282019728792003956564819968 := by
  refine ⟨Int.mul_nonneg hx.1 hr.1, ?_⟩
  have h1 := Int.mul_le_mul (show x ≤ 2722258935367507707706996859454145691647 by omega) (show r ≤ 21267647932558653966460912964485513215 by omega) hr.1 (by decide)
  have h2 : (2722258935367507707706996859454145691647 : Int) * 21267647932558653966460912964485513215 < 57896044618658097711785492504343953926634992332820282019728792003956564819968 := by decide
  omega
theorem step5_bd (r a c : Int) (hr : 0 ≤ r ∧ r < 21267647932558653966460912964485513216) (ha : 0 ≤ a ∧ a < 1701411834604692317316873037158841057280) (hc : 0 ≤ c ∧ c < 680564733841876926926749214863536422912) : 0 ≤ step5 r a c ∧ step5 r a c < 1701411834604692317316873037158841057280 := by
  have := prod_bd (a + c) r ⟨by omega, by omega⟩ hr
  exact fold5_bd _ this.1 this.2
theorem le16_bd (l : List Int) (hb : Bytes l) (hl : l.length ≤ 16) : 0 ≤ le l ∧ le l < 340282366920938463463374607431768211456 := by
  have h := le_bd l hb
  have : (256 : Int) ^ l.length ≤ 256 ^ 16 := by
    show ((256 : Nat) : Int) ^ _ ≤ ((256 : Nat) : Int) ^ 16
    rw [← Int.natCast_pow, ← Int.natCast_pow]
    exact Int.ofNat_le.2 (Nat.pow_le_pow_right (by decide) hl)
  have e : (256 : Int) ^ 16 = 340282366920938463463374607431768211456 := by decide
  omega
theorem accK_bd (r : Int) (m : List Int) (hr : 0 ≤ r ∧ r < 21267647932558653966460912964485513216) (hm : Bytes m) : ∀ k, 0 ≤ accK r m k ∧ accK r m k < 1701411834604692317316873037158841057280
  | 0 => ⟨by rw [accK]; decide, by rw [accK]; decide⟩
  | k + 1 => by
    rw [accK]
    have h := le16_bd ((m.drop (16 * k)).take 16) (bytes_take (bytes_drop hm _) _) (by rw [List.length_take]; omega)
    exact step5_bd r _ _ hr (accK_bd r m hr hm k) ⟨by omega, by omega⟩
theorem acc_bd (r : Int) (m : List Int) (hr : 0 ≤ r ∧ r < 21267647932558653966460912964485513216) (hm : Bytes m) : 0 ≤ acc r m ∧ acc r m < 1701411834604692317316873037158841057280 := accK_bd r m hr hm _
/-- Zeros. -/
def zs0 (k : Nat) : List Int := List.replicate k 0
theorem zs0_length (k : Nat) : (zs0 k).length = k := List.length_replicate
theorem zs0_bytes (k : Nat) : Bytes (zs0 k) := fun z hz => by
  obtain ⟨_, rfl⟩ := List.mem_replicate.1 hz
  decide
/-- The open chunk, as it lies in a poly; with the byte 01 behind what waits. -/
def openB (m : List Int) : List Int := rest16 m ++ zs0 (16 - m.length % 16)
def lastB (m : List Int) : List Int := rest16 m ++ (1 :: zs0 (15 - m.length % 16))
theorem openB_length (m : List Int) : (openB m).length = 16 := by rw [openB, List.length_append, rest16_length, zs0_length]; omega
theorem lastB_length (m : List Int) : (lastB m).length = 16 := by rw [lastB, List.length_append, rest16_length, List.length_cons, zs0_length]; omega
theorem openB_bytes {m : List Int} (h : Bytes m) : Bytes (openB m) := bytes_app (rest16_bytes h) (zs0_bytes _)
theorem lastB_bytes {m : List Int} (h : Bytes m) : Bytes (lastB m) := bytes_app (rest16_bytes h) (fun z hz => by
  rcases List.mem_cons.1 hz with rfl | hz
  · decide
  · exact zs0_bytes _ z hz)
theorem open_set (m : List Int) : (openB m).set (m.length % 16) 1 = lastB m := by
  have hl := rest16_length m
  rw [openB, lastB, List.set_append_right _ _ (by omega), hl, Nat.sub_self]
  have e : zs0 (16 - m.length % 16) = 0 :: zs0 (15 - m.length % 16) := by
    rw [zs0, zs0, show 16 - m.length % 16 = 15 - m.length % 16 + 1 by omega, List.replicate_succ]
  rw [e, List.set_cons_zero]
/-- What a becomes in the end. -/
def accE (r : Int) (m : List Int) : Int := if 0 < m.length % 16 then step5 r (acc r m) (le (lastB m)) else acc r m
theorem accE_bd (r : Int) (m : List Int) (hr : 0 ≤ r ∧ r < 21267647932558653966460912964485513216) (hm : Bytes m) : 0 ≤ accE r m ∧ accE r m < 1701411834604692317316873037158841057280 := by
  unfold accE
  split
  · have h := le16_bd (lastB m) (lastB_bytes hm) (by rw [lastB_length]; omega)
    exact step5_bd r _ _ hr (acc_bd r m hr hm) ⟨h.1, by omega⟩
  · exact acc_bd r m hr hm
/-- The code's number, and its bytes. -/
def codeN (r s : Int) (m : List Int) : Int := (accE r m % prime % 340282366920938463463374607431768211456 + s) % 340282366920938463463374607431768211456
def codeB (r s : Int) (m : List Int) : List Int := leB 16 (codeN r s m)
theorem codeB_length (r s : Int) (m : List Int) : (codeB r s m).length = 16 := leB_length _ _
theorem codeB_bytes (r s : Int) (m : List Int) : Bytes (codeB r s m) := leB_bytes _ _
theorem leB_split (a b : Nat) (v : Int) : leB a (v % 256 ^ a) ++ leB b (v / 256 ^ a) = leB (a + b) v := by
  induction a generalizing v with
  | zero => simp [leB]
  | succ a ih =>
    have hp : (0 : Int) < 256 ^ a := Int.pow_pos (by decide)
    rw [show a + 1 + b = (a + b) + 1 by omega, leB, leB, List.cons_append]
    have e : (256 : Int) ^ (a + 1) = 256 * 256 ^ a := by rw [Int.pow_succ, Int.mul_comm]
    have e1 : v % 256 ^ (a + 1) % 256 = v % 256 := by
      rw [e]; exact Int.emod_emod_of_dvd v ⟨_, rfl⟩
    have e2 : v % 256 ^ (a + 1) / 256 = v / 256 % 256 ^ a := by
      rw [e]
      have h1 := Int.mul_ediv_add_emod v 256
      have h2 := Int.mul_ediv_add_emod (v / 256) (256 ^ a)
      have b1 := Int.emod_nonneg (v / 256) (Int.ne_of_gt hp)
      have b2 := Int.emod_lt_of_pos (v / 256) hp
      have key : v = (256 * 256 ^ a) * (v / 256 / 256 ^ a) + (v % 256 + 256 * (v / 256 % 256 ^ a)) := by
        rw [Int.mul_assoc]; omega
      have g : v % (256 * 256 ^ a) = v % 256 + 256 * (v / 256 % 256 ^ a) := by
        conv => lhs; rw [key]
        rw [Int.mul_add_emod_self_left]
        exact Int.emod_eq_of_lt (by omega) (by omega)
      rw [g]; omega
    have e3 : v / 256 ^ (a + 1) = v / 256 / 256 ^ a := by
      rw [e, Int.ediv_ediv_of_nonneg (by decide)]
    rw [e1, e2, e3, ih]
theorem code_split (v : Int) : leB 8 (v % 18446744073709551616) ++ leB 8 (v / 18446744073709551616) = leB 16 v := leB_split 8 8 v
/-- r and s of a key. -/
def rLow (key : List Int) : Int := bits .and .u64 (le (key.take 8)) 1152921487695413247
def rHigh (key : List Int) : Int := bits .and .u64 (le ((key.drop 8).take 8)) 1152921487695413244
def rOf (key : List Int) : Int := rLow key + 18446744073709551616 * rHigh key
def sOf (key : List Int) : Int := le ((key.drop 16).take 16)
theorem and_le (x : Int) (c : Nat) (hx : 0 ≤ x ∧ x < 18446744073709551616) (hc : c < 1152921504606846976) : 0 ≤ bits .and .u64 x c ∧ bits .and .u64 x c < 1152921504606846976 := by
  rw [u64_and _ _ hx.1 hx.2 (by omega) (by omega)]
  have : x.toNat &&& (c : Int).toNat ≤ (c : Int).toNat := Nat.and_le_right
  omega
theorem le8_bd (l : List Int) (hb : Bytes l) (hl : l.length ≤ 8) : 0 ≤ le l ∧ le l < 18446744073709551616 := by
  have h := le_bd l hb
  have : (256 : Int) ^ l.length ≤ 256 ^ 8 := by
    show ((256 : Nat) : Int) ^ _ ≤ ((256 : Nat) : Int) ^ 8
    rw [← Int.natCast_pow, ← Int.natCast_pow]
    exact Int.ofNat_le.2 (Nat.pow_le_pow_right (by decide) hl)
  have e : (256 : Int) ^ 8 = 18446744073709551616 := by decide
  omega
theorem rLow_bd (key : List Int) (h : Bytes key) : 0 ≤ rLow key ∧ rLow key < 1152921504606846976 := and_le _ 1152921487695413247 (le8_bd _ (bytes_take h _) (by rw [List.length_take]; omega)) (by decide)
theorem rHigh_bd (key : List Int) (h : Bytes key) : 0 ≤ rHigh key ∧ rHigh key < 1152921504606846976 := and_le _ 1152921487695413244 (le8_bd _ (bytes_take (bytes_drop h _) _) (by rw [List.length_take]; omega)) (by decide)
theorem rOf_bd (key : List Int) (h : Bytes key) : 0 ≤ rOf key ∧ rOf key < 21267647932558653966460912964485513216 := by
  have h1 := rLow_bd key h
  have h2 := rHigh_bd key h
  unfold rOf; omega
theorem sOf_bd (key : List Int) (h : Bytes key) : 0 ≤ sOf key ∧ sOf key < 340282366920938463463374607431768211456 := le16_bd _ (bytes_take (bytes_drop h _) _) (by rw [List.length_take]; omega)
/-- The number of sixteen bytes, in two words. -/
theorem le_app (xs ys : List Int) : le (xs ++ ys) = le xs + 256 ^ xs.length * le ys := by
  induction xs with
  | nil => simp [le]
  | cons x xs ih => rw [List.cons_append, le, le, ih, List.length_cons, Int.pow_succ, Int.mul_comm (256 ^ xs.length) 256, Int.mul_add, Int.add_assoc, Int.mul_assoc]
theorem le_pr (cs : List Int) (hl : cs.length = 16) (hb : Bytes cs) : pr (le cs) = [le (cs.take 8), le ((cs.drop 8).take 8)] := by
  have e : le cs = le (cs.take 8) + 18446744073709551616 * le ((cs.drop 8).take 8) := by
    conv => lhs; rw [← List.take_append_drop 8 cs, le_app]
    have e1 : (cs.take 8).length = 8 := by rw [List.length_take]; omega
    have e2 : (cs.drop 8).take 8 = cs.drop 8 := List.take_of_length_le (by rw [List.length_drop]; omega)
    rw [e1, e2]; rfl
  have h1 := le8_bd (cs.take 8) (bytes_take hb _) (by rw [List.length_take]; omega)
  unfold pr
  rw [e]
  refine List.cons_eq_cons.2 ⟨by omega, List.cons_eq_cons.2 ⟨by omega, rfl⟩⟩
end Go.Proofs.Ytcimiajkbgabiaa

namespace Go.Proofs.Ytcimiajkbgabiaa
open Go.RowKit
set_option linter.unusedVariables false
set_option linter.unusedSimpArgs false

theorem le_nil : le [] = 0 := rfl
theorem le_one (x : Int) : le [x] = x := by simp [le]
theorem le_nonneg {ds : List Int} (h : ∀ d ∈ ds, 0 ≤ d) : 0 ≤ le ds := by
  induction ds with
  | nil => exact Int.le_refl _
  | cons d ds ih =>
    have := h d (by simp)
    have := ih (fun y hy => h y (by simp [hy]))
    simp only [le]; omega
theorem le_rep0 (n : Nat) : le (List.replicate n 0) = 0 := by
  induction n with
  | zero => rfl
  | succ n ih => rw [List.replicate_succ, le, ih]; rfl
theorem le_drop' (ds : List Int) (i : Nat) : le (ds.drop i) = ds.getD i 0 + 256 * le (ds.drop (i + 1)) := by
  by_cases h : i < ds.length
  · exact le_drop ds i h
  · rw [List.drop_eq_nil_of_le (by omega), List.drop_eq_nil_of_le (by omega)]
    simp [le, List.getD, show ds.length ≤ i by omega]
theorem le_take_succ (ds : List Int) (i : Nat) (hi : i < ds.length) : le (ds.take (i + 1)) = le (ds.take i) + 256 ^ i * ds.getD i 0 := by
  rw [List.take_succ_eq_append_getElem hi, le_app, le_one, List.length_take, Nat.min_eq_left (by omega)]
  simp [List.getD, hi]
theorem le_set (ds : List Int) (i : Nat) (x : Int) (hi : i < ds.length) : le (ds.set i (ds.getD i 0 + x)) = le ds + 256 ^ i * x := by
  induction ds generalizing i with
  | nil => simp at hi
  | cons d ds ih =>
    cases i with
    | zero => simp [le]; omega
    | succ i =>
      rw [List.set_cons_succ, List.getD_cons_succ, le, le, ih i (by simpa using hi), Int.pow_succ, Int.mul_comm (256 ^ i) 256, Int.mul_assoc, Int.mul_add]
      omega
theorem le_zero {ds : List Int} (h : ∀ d ∈ ds, 0 ≤ d) : le ds = 0 ↔ ∀ d ∈ ds, d = 0 := by
  induction ds with
  | nil => simp [le]
  | cons d ds ih =>
    have h1 := h d (by simp)
    have h2 := le_nonneg (ds := ds) (fun y hy => h y (by simp [hy]))
    have ih := ih (fun y hy => h y (by simp [hy]))
    simp only [le, List.mem_cons, forall_eq_or_imp]
    constructor
    · intro e
      exact ⟨by omega, ih.1 (by omega)⟩
    · rintro ⟨rfl, e⟩
      rw [ih.2 e]; rfl
/-- Carries handed on: behind i digits. -/
def CleanI (ds out : List Int) (c : Int) (i : Nat) : Prop := out.length = i ∧ Bytes out ∧ 0 ≤ c ∧ le out + 256 ^ i * (c + le (ds.drop i)) = le ds
theorem clean_zero (ds : List Int) : CleanI ds [] 0 0 := ⟨rfl, (fun z hz => by cases hz), Int.le_refl _, by simp [le]⟩
theorem clean_step {ds out : List Int} {c c1 : Int} {i : Nat} (h : CleanI ds out c i) (hc : c1 = c + ds.getD i 0) (h0 : 0 ≤ c1) : CleanI ds (out ++ [c1 % 256]) (c1 / 256) (i + 1) := by
  obtain ⟨h1, h2, h3, h4⟩ := h
  refine ⟨by simp [h1], bytes_app h2 (fun z hz => ?_), by omega, ?_⟩
  · simp at hz; subst hz; omega
  · rw [le_app, le_one, h1, Int.pow_succ, Int.mul_assoc, Int.add_assoc, ← Int.mul_add]
    rw [le_drop' ds i] at h4
    rw [← h4]
    congr 2
    omega
theorem clean_end {ds out : List Int} {i : Nat} (h : CleanI ds out 0 i) (hi : ds.length ≤ i) : le out = le ds := by
  have := h.2.2.2
  rw [List.drop_eq_nil_of_le hi, le_nil] at this
  simpa using this
theorem pow40 (t : Nat) (h : 6 ≤ t) : (1099511627776 : Int) / 256 ^ t = 0 := by
  obtain ⟨u, rfl⟩ : ∃ u, t = 6 + u := ⟨t - 6, by omega⟩
  have hp : (0 : Int) < 256 ^ u := Int.pow_pos (by decide)
  apply Int.ediv_eq_zero_of_lt (by decide)
  rw [Int.pow_add]
  have e : (256 : Int) ^ 6 = 281474976710656 := by decide
  rw [e]
  have : (281474976710656 : Int) * 1 ≤ 281474976710656 * 256 ^ u := Int.mul_le_mul_of_nonneg_left (by omega) (by decide)
  omega
theorem div40 (c : Int) (t : Nat) (h : c ≤ 1099511627776 / 256 ^ t) : c / 256 ≤ 1099511627776 / 256 ^ (t + 1) := by
  rw [Int.pow_succ, ← Int.ediv_ediv_of_nonneg (Int.le_of_lt (Int.pow_pos (by decide)))]
  exact Int.ediv_le_ediv (by decide) h
/-- What stands below the bit 130. -/
def lowL (ds : List Int) : List Int := ds.take 16 ++ (if 16 < ds.length then [ds.getD 16 0 % 4] else [])
/-- What stands from the bit 2 on. -/
def highL : List Int → List Int
  | [] => []
  | x :: t => (x / 4 + t.getD 0 0 % 4 * 64) :: highL t
theorem highL_length (ds : List Int) : (highL ds).length = ds.length := by
  induction ds with
  | nil => rfl
  | cons d ds ih => simp [highL, ih]
theorem highL_bytes (ds : List Int) (h : Bytes ds) : Bytes (highL ds) := by
  induction ds with
  | nil => intro z hz; cases hz
  | cons d ds ih =>
    intro z hz
    have hd := h d (by simp)
    simp only [highL, List.mem_cons] at hz
    rcases hz with rfl | hz
    · generalize ds.getD 0 0 = y
      omega
    · exact ih (fun y hy => h y (by simp [hy])) z hz
theorem highL_snoc (xs : List Int) (y : Int) (hx : 0 < xs.length) : highL (xs ++ [y]) = (highL xs).set (xs.length - 1) ((highL xs).getD (xs.length - 1) 0 + y % 4 * 64) ++ [y / 4] := by
  induction xs with
  | nil => simp at hx
  | cons x t ih =>
    cases t with
    | nil => simp [highL]
    | cons z t =>
      have := ih (by simp)
      rw [List.cons_append, highL, this]
      simp only [List.length_cons, Nat.add_sub_cancel, highL, List.cons_append, List.getD_cons_zero, List.set_cons_succ, List.getD_cons_succ]
theorem highL_le (ds : List Int) (h : Bytes ds) : le (highL ds) = le ds / 4 := by
  induction ds with
  | nil => rfl
  | cons d ds ih =>
    have hd := h d (by simp)
    rw [highL, le, le, ih (fun y hy => h y (by simp [hy]))]
    cases ds with
    | nil => simp [le]
    | cons y t =>
      rw [List.getD_cons_zero, le]
      generalize le t = L
      omega
theorem le_parts (ds : List Int) (h : Bytes ds) : ∃ A T : Int, le ds = A + 340282366920938463463374607431768211456 * T ∧ 0 ≤ A ∧ A < 340282366920938463463374607431768211456 ∧ A = le (ds.take 16) ∧ T = le (ds.drop 16) ∧ (ds.length ≤ 16 → T = 0) := by
  have b := le16_bd (ds.take 16) (bytes_take h _) (by rw [List.length_take]; omega)
  refine ⟨_, _, ?_, b.1, b.2, rfl, rfl, fun hl => by rw [List.drop_eq_nil_of_le hl]; rfl⟩
  by_cases hl : ds.length ≤ 16
  · rw [List.drop_eq_nil_of_le hl, List.take_of_length_le hl, le_nil]; omega
  · conv => lhs; rw [← List.take_append_drop 16 ds, le_app]
    rw [List.length_take, Nat.min_eq_left (by omega)]; rfl
theorem lowL_le (ds : List Int) (h : Bytes ds) : le (lowL ds) = le ds % 1361129467683753853853498429727072845824 := by
  obtain ⟨A, T, e, h0, h1, eA, eT, hT⟩ := le_parts ds h
  unfold lowL
  split
  · next hl =>
    rw [le_app, List.length_take, Nat.min_eq_left (by omega), le_one, ← eA, e]
    rw [le_drop' ds 16] at eT
    have hq : (256 : Int) ^ 16 = 340282366920938463463374607431768211456 := by decide
    rw [hq, eT]
    generalize le (ds.drop (16 + 1)) = L
    generalize ds.getD 16 0 = x
    omega
  · next hl =>
    rw [List.append_nil, ← eA, e, hT (by omega)]; omega
theorem lowL_bytes (ds : List Int) (h : Bytes ds) : Bytes (lowL ds) := by
  unfold lowL
  refine bytes_app (bytes_take h _) ?_
  split
  · intro z hz; simp at hz; subst hz
    generalize ds[16]?.getD 0 = x
    omega
  · intro z hz; cases hz
theorem lowL_length (ds : List Int) : (lowL ds).length ≤ 17 := by
  unfold lowL
  split <;> simp <;> omega
theorem high_le (ds : List Int) (h : Bytes ds) : le (highL (ds.drop 16)) = le ds / 1361129467683753853853498429727072845824 := by
  obtain ⟨A, T, e, h0, h1, eA, eT, hT⟩ := le_parts ds h
  rw [highL_le _ (bytes_drop h _), ← eT, e]; omega
/-- The accumulator, modulo the prime. -/
def docK (r : Int) (m : List Int) : Nat → Int
  | 0 => 0
  | k + 1 => ((docK r m k + (le ((m.drop (16 * k)).take 16) + 256 ^ ((m.drop (16 * k)).take 16).length)) * r) % prime
theorem step_mod (r a b c : Int) (h : a % prime = b) : step5 r a c % prime = ((b + c) * r) % prime := by
  rw [step5, fold5_mod, ← h, Int.mul_emod, Int.add_emod]
  conv => rhs; rw [Int.mul_emod, Int.add_emod, Int.emod_emod_of_dvd _ (Int.dvd_refl _)]
theorem accK_doc (r : Int) (m : List Int) : ∀ k, 16 * k ≤ m.length → accK r m k % prime = docK r m k
  | 0, _ => rfl
  | k + 1, h => by
    have hl : ((m.drop (16 * k)).take 16).length = 16 := by rw [List.length_take, List.length_drop]; omega
    rw [accK, docK, step_mod r _ _ _ (accK_doc r m k (by omega)), hl]
    rfl
theorem lastB_le (m : List Int) : le (lastB m) = le (rest16 m) + 256 ^ (rest16 m).length := by
  rw [lastB, le_app, le, zs0, le_rep0]; simp
theorem accE_doc (r : Int) (m : List Int) : accE r m % prime = docK r m ((m.length + 15) / 16) := by
  unfold accE
  split
  · next h =>
    have e : (m.length + 15) / 16 = m.length / 16 + 1 := by omega
    have e2 : (m.drop (16 * (m.length / 16))).take 16 = rest16 m := by
      rw [List.take_of_length_le (by rw [List.length_drop]; omega)]; rfl
    rw [e, docK, e2, step_mod r (acc r m) _ _ (accK_doc r m (m.length / 16) (by omega)), lastB_le]
  · next h =>
    have e : (m.length + 15) / 16 = m.length / 16 := by omega
    rw [e]; exact accK_doc r m _ (by omega)
theorem docK_bd (r : Int) (m : List Int) (k : Nat) : 0 ≤ docK r m k ∧ docK r m k < prime := by
  cases k with
  | zero => rw [docK]; decide
  | succ k => rw [docK]; exact ⟨Int.emod_nonneg _ (by decide), Int.emod_lt_of_pos _ (by decide)⟩
theorem code_doc (r s : Int) (m : List Int) : codeB r s m = leB 16 (docK r m ((m.length + 15) / 16) + s) := by
  have e : ∀ v : Int, leB 16 (v % 340282366920938463463374607431768211456) = leB 16 v := fun v => by
    have h1 := leB_split 16 0 v
    simpa [leB] using h1
  rw [codeB, codeN, accE_doc, e]
  have e2 : ∀ a : Int, leB 16 (a % 340282366920938463463374607431768211456 + s) = leB 16 (a + s) := fun a => by
    rw [← e (a % 340282366920938463463374607431768211456 + s), ← e (a + s)]
    congr 1
    omega
  exact e2 _
/-- The first digits of a sum are the bytes of its number. -/
theorem digits16 (ds : List Int) (h : Bytes ds) (hl : 16 ≤ ds.length) : ds.take 16 = leB 16 (le ds) := by
  have h1 := leB_le (ds.take 16) (bytes_take h _)
  rw [List.length_take, Nat.min_eq_left hl] at h1
  obtain ⟨A, T, e, h0, h2, eA, eT, hT⟩ := le_parts ds h
  have e1 : ∀ v : Int, leB 16 (v % 340282366920938463463374607431768211456) = leB 16 v := fun v => by
    have h1 := leB_split 16 0 v
    simpa [leB] using h1
  rw [← h1, ← eA, ← e1 (le ds), e]
  congr 1
  omega
/-- A number below 2^130, taken modulo the prime. -/
theorem last_mod (v : Int) (h0 : 0 ≤ v) (h1 : v < 1361129467683753853853498429727072845824) : v % prime = if 1361129467683753853853498429727072845824 ≤ v + 5 then (v + 5) % 1361129467683753853853498429727072845824 else v := by
  unfold prime; split <;> omega
end Go.Proofs.Ytcimiajkbgabiaa

namespace Go.Proofs.Ytcimiajkbgabiaa
open Go.RowKit
set_option linter.unusedVariables false
set_option linter.unusedSimpArgs false

theorem info_int : (Try.prog.info? 3).map (fun i => (i.zero, i.size, i.bytes)) = some (some (.int .i64 0), 1, 8) := by kernel_rfl
def i64s (l : List Int) : List Value := l.map (Value.int .i64)
theorem i64s_length (l : List Int) : (i64s l).length = l.length := List.length_map ..
theorem i64s_set (l : List Int) (j : Nat) (x : Int) : (i64s l).set j (.int .i64 x) = i64s (l.set j x) := by simp [i64s, List.map_set]
/-- Digits that are no numbers below 0 and not too great. -/
def Small (ds : List Int) : Prop := ∀ d ∈ ds, 0 ≤ d ∧ d ≤ 1073741824
theorem Small.at {zs : List Int} (h : Small zs) (j : Nat) (hj : j < zs.length) : 0 ≤ zs.getD j 0 ∧ zs.getD j 0 ≤ 1073741824 := by
  have e : zs.getD j 0 = zs[j] := by simp [List.getD, hj]
  rw [e]; exact h _ (List.getElem_mem hj)
theorem small_of_bytes {zs : List Int} (h : Bytes zs) : Small zs := fun d hd => by have := h d hd; omega
theorem Small.nn {zs : List Int} (h : Small zs) : ∀ d ∈ zs, 0 ≤ d := fun d hd => (h d hd).1
theorem bytes_nn {zs : List Int} (h : Bytes zs) : ∀ d ∈ zs, 0 ≤ d := fun d hd => (h d hd).1
/-- A slice at ao of n numbers, which are zs. -/
structure SeenN (w : World) (ao : Option Addr) (n : Nat) (zs : List Int) : Prop where
  len : zs.length = n
  top : n ≤ 1000
  small : Small zs
  cells : 0 < n → ∃ b o, ao = some ⟨b, o, none⟩ ∧ b < w.heap.size ∧ ∀ i, i < n → w.cell? ⟨b, o + i, none⟩ = some (.int .i64 (zs.getD i 0))
theorem SeenN.later {w w' : World} {ao : Option Addr} {n : Nat} {zs : List Int} (h : SeenN w ao n zs) {B : Nat} (hb : Below B w w') (hB : w.heap.size ≤ B) : SeenN w' ao n zs :=
  ⟨h.len, h.top, h.small, fun hn => by
    obtain ⟨b, o, e, hlt, hc⟩ := h.cells hn
    exact ⟨b, o, e, Nat.lt_of_lt_of_le hlt hb.size, fun i hi => (hb.cell (p := ⟨b, o + i, none⟩) (Nat.lt_of_lt_of_le hlt hB)).trans (hc i hi)⟩⟩
theorem SeenN.kept {S : Nat → Prop} {w w' : World} {ao : Option Addr} {n : Nat} {zs : List Int} (h : SeenN w ao n zs) (hk : Kept S w w') (hS : ∀ b, b < w.heap.size → ¬ S b) : SeenN w' ao n zs :=
  ⟨h.len, h.top, h.small, fun hn => by
    obtain ⟨b, o, e, hlt, hc⟩ := h.cells hn
    exact ⟨b, o, e, Nat.lt_of_lt_of_le hlt hk.size, fun i hi => (hk.cell (p := ⟨b, o + i, none⟩) hlt (hS b hlt)).trans (hc i hi)⟩⟩
/-- Block g begins with the numbers zs, has room for cap, and may be written. -/
def RowN (w : World) (r cap : Nat) (zs : List Int) : Prop := ∃ rest : List Value, w.heap[r]? = some (.cells (i64s zs ++ rest).toArray 3 (0, 0)) ∧ zs.length + rest.length = cap
theorem RowN.cell {w : World} {g cap : Nat} {zs : List Int} (h : RowN w g cap zs) (j : Nat) (hj : j < zs.length) : w.cell? ⟨g, j, none⟩ = some (.int .i64 (zs.getD j 0)) := by
  obtain ⟨rest, h, _⟩ := h
  rw [cell_of_row w g j _ 3 (0, 0) h]
  simp [i64s, hj, List.getElem?_append]
theorem RowN.frozen {w : World} {g cap : Nat} {zs : List Int} (h : RowN w g cap zs) (j : Nat) : w.frozen? ⟨g, j, none⟩ = false := by
  obtain ⟨rest, h, _⟩ := h
  exact frozen_of_row w g j _ 3 h
theorem RowN.set {w : World} {g cap : Nat} {zs : List Int} (h : RowN w g cap zs) (j : Nat) (hj : j < zs.length) (z : Int) : RowN (w.setCell ⟨g, j, none⟩ (.int .i64 z)) g cap (zs.set j z) := by
  obtain ⟨rest, h, hc⟩ := h
  refine ⟨rest, ?_, by simpa using hc⟩
  rw [heap_setCell_same w g j _ 3 _ h, ← i64s_set]
  simp [i64s_length, hj]
theorem RowN.lt {w : World} {g cap : Nat} {zs : List Int} (h : RowN w g cap zs) : g < w.heap.size := by
  obtain ⟨rest, h, _⟩ := h
  rcases Nat.lt_or_ge g w.heap.size with h' | h'
  · exact h'
  · rw [Array.getElem?_eq_none h'] at h; cases h
theorem RowN.block {w w' : World} {r cap : Nat} {zs : List Int} (h : RowN w r cap zs) (e : w'.heap[r]? = w.heap[r]?) : RowN w' r cap zs := by
  obtain ⟨rest, h, hc⟩ := h
  exact ⟨rest, by rw [e]; exact h, hc⟩
theorem RowN.later {w w' : World} {r cap : Nat} {zs : List Int} (h : RowN w r cap zs) {B : Nat} (hb : Below B w w') (hB : w.heap.size ≤ B) : RowN w' r cap zs := h.block (hb.block r (Nat.lt_of_lt_of_le h.lt hB))
theorem RowN.drew {w : World} {r cap : Nat} {zs : List Int} (h : RowN w r cap zs) : RowN w.drew r cap zs := h
theorem RowN.of_own {w : World} {base r n cap : Nat} {zs : List Int} (h : w.ownsRow base 3 1 (.slice (some ⟨r, 0, none⟩) n cap) n (i64s zs)) : RowN w r cap zs ∧ base ≤ r ∧ n ≤ cap ∧ cap ≤ maxLen ∧ zs.length = n := by
  obtain ⟨hl, h⟩ := h
  rcases h with ⟨h, _⟩ | ⟨g', cap', cur, h, hb, hh, hc, hm, hs, ht⟩
  · cases h
  · simp only [Value.slice.injEq, Option.some.injEq, Addr.mk.injEq, and_true, true_and] at h
    obtain ⟨rfl, rfl⟩ := h
    rw [Nat.mul_one] at ht hs
    have hl' : zs.length = n := by simpa [i64s] using hl
    refine ⟨⟨cur.toList.drop n, ?_, ?_⟩, hb, hc, hm, hl'⟩
    · rw [← ht, List.take_append_drop]; simpa using hh
    · simp; omega
theorem RowN.own {w : World} {base r n cap : Nat} {zs : List Int} (h : RowN w r cap zs) (hl : zs.length = n) (hb : base ≤ r) (hm : cap ≤ maxLen) : w.ownsRow base 3 1 (.slice (some ⟨r, 0, none⟩) n cap) n (i64s zs) := by
  obtain ⟨rest, h, hc⟩ := h
  refine ⟨by rw [i64s_length]; omega, .inr ⟨r, cap, _, rfl, hb, h, by omega, hm, by simp [i64s_length]; omega, ?_⟩⟩
  rw [Nat.mul_one]
  simp [i64s_length, hl]
theorem RowN.seen {w : World} {g cap : Nat} {zs : List Int} (h : RowN w g cap zs) (ht : zs.length ≤ 1000) (hs : Small zs) : SeenN w (some ⟨g, 0, none⟩) zs.length zs :=
  ⟨rfl, ht, hs, fun _ => ⟨g, 0, rfl, h.lt, fun i hi => by rw [Nat.zero_add]; exact h.cell i hi⟩⟩
theorem ownN {w : World} {base n : Nat} {v : Value} {zs : List Int} (hl : zs.length = n) (h : w.ownsRow base 3 1 v n (i64s zs)) :
    (v = .slice none 0 0 ∧ n = 0 ∧ zs = []) ∨ ∃ g cap, v = .slice (some ⟨g, 0, none⟩) n cap ∧ RowN w g cap zs ∧ base ≤ g ∧ n ≤ cap ∧ cap ≤ maxLen := by
  rcases h.2 with ⟨h1, h2⟩ | ⟨g, cap, cur, rfl, r⟩
  · left
    subst h2
    exact ⟨h1, rfl, List.length_eq_zero_iff.1 hl⟩
  · right
    have := RowN.of_own h
    exact ⟨g, cap, rfl, this.1, this.2.1, this.2.2.1, this.2.2.2.1⟩
/-- A slice of these numbers. -/
def isN (zs : List Int) (v : Value) (w : World) : Prop := ∃ vo n c, v = .slice vo n c ∧ SeenN w vo n zs
theorem isN_later (zs : List Int) : ∀ v w w', Below w.heap.size w w' → isN zs v w → isN zs v w' := fun _ _ _ hb ⟨b, o, c, h1, h2⟩ => ⟨b, o, c, h1, h2.later hb (Nat.le_refl _)⟩
theorem isN_own {w : World} {base n : Nat} {v : Value} {zs : List Int} (hl : zs.length = n) (ht : n ≤ 1000) (hs : Small zs) (h : w.ownsRow base 3 1 v n (i64s zs)) : isN zs v w := by
  rcases ownN hl h with ⟨rfl, rfl, rfl⟩ | ⟨g, cap, rfl, hr, _, _, _⟩
  · exact ⟨none, 0, 0, rfl, rfl, Nat.zero_le _, (fun d hd => by cases hd), fun h => (by omega)⟩
  · subst hl
    exact ⟨_, _, cap, rfl, hr.seen ht hs⟩
/-- A number more. -/
theorem ownN_more {w wr w1 : World} {v v' : Value} {zs : List Int} {z : Int}
    (hb : Below w.heap.size w wr) (hown : wr.ownsRow w.heap.size 3 1 v zs.length (i64s zs))
    (hown' : w1.ownsRow w.heap.size 3 1 v' (zs.length + 1) (i64s zs ++ [.int .i64 z])) (hg : (wr.alloc (.cells #[.int .i64 z] 3)).grownBy w1 v.ownBlock) :
    w1.ownsRow w.heap.size 3 1 v' (zs ++ [z]).length (i64s (zs ++ [z])) ∧ Below w.heap.size w w1 := by
  constructor
  · rw [i64s, List.map_append, List.length_append]; exact hown'
  · exact (hb.alloc hb.size _).grown hg (by have := hb.size; simp; omega) (fun j hj => (hown.lt j hj).1)
theorem madeN (n : Nat) : (madeCells #[Value.int .i64 0] n) = (i64s (List.replicate n 0)).toArray := by
  apply Array.ext'
  rw [toList_madeCells_one]
  simp [i64s]
theorem tq256 (c : Int) (h : 0 ≤ c) : c.tdiv 256 = c / 256 ∧ c.tmod 256 = c % 256 := ⟨Int.tdiv_eq_ediv_of_nonneg h, Int.tmod_eq_emod_of_nonneg h⟩
theorem clean_len (n i : Nat) (c : Int) (h0 : 0 < c) (h : ∃ t, i = n + t ∧ c ≤ 1099511627776 / 256 ^ t) : i ≤ n + 5 := by
  obtain ⟨t, rfl, hc⟩ := h
  rcases Nat.lt_or_ge t 6 with h6 | h6
  · omega
  · rw [pow40 t h6] at hc; omega
set_option maxHeartbeats 1000000 in
set_option maxRecDepth 20000 in
theorem clean_any (ao : Option Addr) (n c : Nat) (ds : List Int) (w : World) (hx : SeenN w ao n ds) (hn : n ≤ 900) :
    Calls Try.prog 108 #[.slice ao n c] w fun e w' => ∃ v, e = .returned v ∧ ∃ es, isN es v w' ∧ Bytes es ∧ le es = le ds ∧ n ≤ es.length ∧ es.length ≤ n + 6 ∧ Below w.heap.size w w' := by
  have HX : Hid (SeenN w ao n ds ∧ ds.length = n) := ⟨hx, hx.len⟩
  obtain ⟨i0, hi, hz0, hz1, hz2⟩ := info_parts info_int
  clear hx
  go_enter Try.func108, Try.ntmps108
  go_wp2
  go_loopw [3, 4, 5] (fun v c i wr => ∃ (k : Nat) (C : Int) (out : List Int), i = .int .i64 k ∧ c = .int .i64 C ∧ CleanI ds out C k ∧ C ≤ 1099511627776 ∧ (n ≤ k → ∃ t, k = n + t ∧ C ≤ 1099511627776 / 256 ^ t) ∧ k ≤ n + 6 ∧ wr.ownsRow w.heap.size 3 1 v k (i64s out) ∧ Below w.heap.size w wr) (fun _ c i _ => (n - (intOf i).toNat) * 1099511627780 + (intOf c).toNat)
  case atStart => exact ⟨0, 0, [], rfl, rfl, clean_zero ds, by decide, fun h => ⟨0, by omega, by simp⟩, by omega, World.ownsRow_nil _ _ _ _, Below.refl _ _⟩
  case round =>
    obtain ⟨k, C, out, rfl, rfl, hcl, hC, ht, hk6, hown, hbel⟩ := hrel
    have hC0 := hcl.2.2.1
    have hol := hcl.1
    have HC : Hid (CleanI ds out C k ∧ (n ≤ k → ∃ t, k = n + t ∧ C ≤ 1099511627776 / 256 ^ t)) := ⟨hcl, ht⟩
    have hsz := hbel.size
    have i1 : (0 : Int) ≤ (k : Int) := by omega
    clear hcl ht
    by_cases hlt : k < n
    · obtain ⟨b, o, rfl, hb, hc⟩ := HX.out.1.cells (by omega)
      have c1 := (hbel.cell (p := ⟨b, o + k, none⟩) hb).trans (hc k hlt)
      have hs := HX.out.1.small.at k (by rw [HX.out.2]; exact hlt)
      have hst := fun h => clean_step HC.out.1 (c1 := C + ds.getD k 0) rfl h
      obtain ⟨D, hD⟩ : ∃ D, ds.getD k 0 = D := ⟨_, rfl⟩
      rw [hD] at c1 hs hst
      have HN : Hid (CleanI ds (out ++ [(C + D) % 256]) ((C + D) / 256) (k + 1)) := hst (by omega)
      have q1 := (tq256 (C + D) (by omega)).1
      have q2 := (tq256 (C + D) (by omega)).2
      have i2 : (k : Int) < (n : Int) := by omega
      clear hc hst hD
      go_wp2_with (at_builtin; refine wpList_append_own _ rfl _ _ 139 rfl w.heap.size 3 i0 (.int .i64 0) 1 8 Try.underlying139 hi hz0 hz1 hz2 rfl (by decide) _ _ _ rfl (hown.alloc _) ⟨wr.heap.size, 0, none⟩ 1 1 [.int .i64 ((C + D) % 256)] rfl rfl ?c1 ?c2 ?c3 ?c4 ?c5 ?_)
      case c1 => exact one_new _ _ _
      case c2 => first | rfl | (intro u hu; simp at hu; subst hu; rfl)
      case c3 => unfold maxLen; omega
      case c4 => omega
      case c5 => first | omega | (simp; omega)
      · intro v' w1 hown' hgrow _
        rw [← hol] at hown hown'
        have R := ownN_more hbel hown hown' hgrow
        clear hown' hgrow hown hbel c1
        go_wp2
        refine ⟨⟨k + 1, (C + D) / 256, out ++ [(C + D) % 256], by go_num, rfl, HN.out, by omega, fun h => ⟨0, by omega, by simp; omega⟩, by omega, ?_, R.2⟩, ?_⟩
        · have := R.1; rw [List.length_append, hol] at this; exact this
        · simp [intOf]; omega
    · have i2 : ¬ (k : Int) < (n : Int) := by omega
      obtain ⟨t, HT⟩ : ∃ t, Hid (k = n + t ∧ C ≤ 1099511627776 / 256 ^ t) := by
        obtain ⟨t, h1, h2⟩ := HC.out.2 (by omega)
        exact ⟨t, ⟨h1, h2⟩⟩
      by_cases hp : 0 < C
      · have hle := clean_len n k C hp ⟨t, HT.out⟩
        have e0 : ds.getD k 0 = 0 := by simp [List.getD, show ds.length ≤ k by rw [HX.out.2]; omega]
        have hst := clean_step HC.out.1 (c1 := C) (by rw [e0]; omega) hC0
        have HN : Hid (CleanI ds (out ++ [C % 256]) (C / 256) (k + 1) ∧ C / 256 ≤ 1099511627776 / 256 ^ (t + 1)) := ⟨hst, div40 C t HT.out.2⟩
        have q1 := (tq256 C hC0).1
        have q2 := (tq256 C hC0).2
        clear hst e0
        go_wp2_with (at_builtin; refine wpList_append_own _ rfl _ _ 139 rfl w.heap.size 3 i0 (.int .i64 0) 1 8 Try.underlying139 hi hz0 hz1 hz2 rfl (by decide) _ _ _ rfl (hown.alloc _) ⟨wr.heap.size, 0, none⟩ 1 1 [.int .i64 (C % 256)] rfl rfl ?c1 ?c2 ?c3 ?c4 ?c5 ?_)
        try case c1 => exact one_new _ _ _
        case c2 => first | rfl | (intro u hu; simp at hu; subst hu; rfl)
        case c3 => unfold maxLen; omega
        case c4 => omega
        case c5 => first | omega | (simp; omega)
        · intro v' w1 hown' hgrow _
          rw [← hol] at hown hown'
          have R := ownN_more hbel hown hown' hgrow
          clear hown' hgrow hown hbel
          go_wp2
          refine ⟨⟨k + 1, C / 256, out ++ [C % 256], by go_num, rfl, HN.out.1, by omega, fun h => ⟨t + 1, by have := HT.out.1; omega, HN.out.2⟩, by omega, ?_, R.2⟩, ?_⟩
          · have := R.1; rw [List.length_append, hol] at this; exact this
          · simp [intOf]; omega
      · obtain rfl : C = 0 := by omega
        have HO : Hid (isN out u3 wr ∧ Below w.heap.size w wr ∧ k ≤ n + 6 ∧ n ≤ k) := ⟨isN_own hol (by omega) (small_of_bytes HC.out.1.2.1) hown, hbel, hk6, by omega⟩
        clear hown hbel
        go_wp2
        go_ret
        exact ⟨_, rfl, out, HO.out.1, HC.out.1.2.1, clean_end HC.out.1 (by rw [HX.out.2]; exact HO.out.2.2.2), by rw [hol]; exact HO.out.2.2.2, by rw [hol]; exact HO.out.2.2.1, HO.out.2.1⟩
end Go.Proofs.Ytcimiajkbgabiaa
