/- The document's stream (trystref05): plus, against, left, Quarter. -/
import Derived.Test.YtpjnimmclncdoaaSQuart
import Derived.Test.YtpjnimmclncdoaaSHeld
namespace Go.Proofs.Ytpjnimmclncdoaa
open Go.RowKit
set_option linter.unusedVariables false
set_option linter.unusedSimpArgs false

abbrev Wd (x : Int) : Prop := 0 ≤ x ∧ x < 4294967296
theorem or_sum (q r n : Nat) (h : r < 2 ^ n) : (q * 2 ^ n) ||| r = q * 2 ^ n + r := by
  rw [Nat.mul_comm, Nat.two_pow_add_eq_or_of_lt h]
theorem rotl_sum (x : Int) (n : Nat) (hx : Wd x) (hn : TurnL n) : rotl x n = x * 2 ^ n % 4294967296 + x / 2 ^ (32 - n) ∧ Wd (rotl x n) := by
  obtain ⟨X, rfl⟩ : ∃ X : Nat, x = (X : Int) := ⟨x.toNat, by omega⟩
  have hX : X < 4294967296 := by omega
  rcases hn with rfl | rfl | rfl | rfl
  all_goals
    unfold rotl
    rw [u32_or _ _ (by omega) (by omega) (by omega) (by omega)]
    suffices h : _ = _ from ⟨h, by rw [h]; constructor <;> omega⟩
    first
    | (have e : ((X : Int) * 2 ^ 16 % 4294967296).toNat = (X % 65536) * 2 ^ 16 := by omega
       have e2 : ((X : Int) / 2 ^ (32 - 16)).toNat = X / 65536 := by omega
       rw [e, e2, or_sum _ _ 16 (by omega)]; omega)
    | (have e : ((X : Int) * 2 ^ 12 % 4294967296).toNat = (X % 1048576) * 2 ^ 12 := by omega
       have e2 : ((X : Int) / 2 ^ (32 - 12)).toNat = X / 1048576 := by omega
       rw [e, e2, or_sum _ _ 12 (by omega)]; omega)
    | (have e : ((X : Int) * 2 ^ 8 % 4294967296).toNat = (X % 16777216) * 2 ^ 8 := by omega
       have e2 : ((X : Int) / 2 ^ (32 - 8)).toNat = X / 16777216 := by omega
       rw [e, e2, or_sum _ _ 8 (by omega)]; omega)
    | (have e : ((X : Int) * 2 ^ 7 % 4294967296).toNat = (X % 33554432) * 2 ^ 7 := by omega
       have e2 : ((X : Int) / 2 ^ (32 - 7)).toNat = X / 33554432 := by omega
       rw [e, e2, or_sum _ _ 7 (by omega)]; omega)
theorem xor_64 (x y : Int) (hx : Wd x) (hy : Wd y) : bits .xor .u64 x y = bits .xor .u32 x y ∧ Wd (bits .xor .u32 x y) := by
  have h1 : x.toNat ^^^ y.toNat < 2 ^ 32 := Nat.xor_lt_two_pow (by omega) (by omega)
  rw [u64_xor x y hx.1 (by omega) hy.1 (by omega), u32_xor x y hx.1 hx.2 hy.1 hy.2]
  exact ⟨rfl, by omega, by omega⟩
theorem rplus_any (a b : Int) (ha : Wd a) (hb : Wd b) (w : World) : Calls Try.prog 25 #[.int .u64 a, .int .u64 b] w fun e w' => e = .returned (.int .u64 ((a + b) % 4294967296)) ∧ w = w' := by
  go_enter Try.func25, Try.ntmps25
  go_wp2_with fail
  go_ret
  exact ⟨rfl, rfl⟩
theorem ragainst_any (a b : Int) (ha : Wd a) (hb : Wd b) (w : World) : Calls Try.prog 19 #[.int .u64 a, .int .u64 b] w fun e w' => e = .returned (.int .u64 (bits .xor .u32 a b)) ∧ w = w' := by
  rw [← (xor_64 a b ha hb).1]
  go_enter Try.func19, Try.ntmps19
  go_wp2_with fail
  go_ret
  exact ⟨rfl, rfl⟩
theorem rleft_any (a : Int) (n : Nat) (ha : Wd a) (hn : TurnL n) (w : World) : Calls Try.prog 31 #[.int .u64 a, .int .i64 n] w fun e w' => e = .returned (.int .u64 (rotl a n)) ∧ ∃ q, w' = w.drewN q := by
  have hr := (rotl_sum a n ha hn).1
  rw [hr]
  clear hr
  rcases hn with rfl | rfl | rfl | rfl
  all_goals
    go_enter Try.func31, Try.ntmps31
    go_wp2_with fail
    go_quiet (fail)
    go_wp2_with fail
    go_ret
    refine ⟨?_, _, rfl⟩
    simp
def q64s (zs : List Int) : List Value := zs.map (Value.int .u64)
theorem q64s_length (zs : List Int) : (q64s zs).length = zs.length := by simp [q64s]
theorem q64s_one (zs : List Int) : ∀ v ∈ q64s zs, v.oneCell' = true := one_ints _ _
theorem u64s_set (zs : List Int) (j : Nat) (z : Int) : (q64s zs).set j (.int .u64 z) = q64s (zs.set j z) := by simp [q64s, List.map_set]
theorem u64s_cell {w : World} {g : Nat} {t : TypeId} {zs : List Int} (h : Blk w g t (q64s zs)) (j : Nat) (hj : j < zs.length) : w.cell? ⟨g, j, none⟩ = some (.int .u64 (zs.getD j 0)) := by
  rw [h.cell]; simp [q64s, hj, List.getD]
theorem zero4q : (Try.prog.info? 64).map (fun i => (i.zero, i.size)) = some (some (.agg (q64s [0, 0, 0, 0]).toArray), 4) := by kernel_rfl
theorem size4q : (Try.prog.info? 64).map (·.size) = some 4 := by kernel_rfl
def turnsV : List Value := [.int .i64 16, .int .i64 12, .int .i64 8, .int .i64 7]
theorem zero4i : (Try.prog.info? 74).map (fun i => (i.zero, i.size)) = some (some (.agg ([.int .i64 0, .int .i64 0, .int .i64 0, .int .i64 0] : List Value).toArray), 4) := by kernel_rfl
theorem size4i : (Try.prog.info? 74).map (·.size) = some 4 := by kernel_rfl
def rq (q : Q4) : Nat → Q4
  | 0 => q
  | 1 => halfQ q 16 12
  | _ => quarter q
theorem half_wd (q : Q4) (n m : Nat) (ha : Wd q.a) (hb : Wd q.b) (hc : Wd q.c) (hd : Wd q.d) (hn : TurnL n) (hm : TurnL m) : Wd (halfQ q n m).a ∧ Wd (halfQ q n m).b ∧ Wd (halfQ q n m).c ∧ Wd (halfQ q n m).d := by
  have h1 : Wd ((q.a + q.b) % 4294967296) := by constructor <;> omega
  have h2 : Wd (halfD q n) := (rotl_sum _ n (xor_64 _ _ hd h1).2 hn).2
  have h3 : Wd (halfC q n) := by unfold halfC; constructor <;> omega
  exact ⟨h1, (rotl_sum _ m (xor_64 _ _ hb h3).2 hm).2, h3, h2⟩
set_option maxRecDepth 20000 in
set_option maxHeartbeats 2000000 in
theorem rq_any (q : Q4) (ha : Wd q.a) (hb : Wd q.b) (hc : Wd q.c) (hd : Wd q.d) (w : World) :
    Calls Try.prog 23 #[.agg (q64s q.list).toArray] w fun e w' => e = .returned (.agg (q64s (quarter q).list).toArray) ∧ Below w.heap.size w w' := by
  have HW : Hid (Wd q.a ∧ Wd q.b ∧ Wd q.c ∧ Wd q.d) := ⟨ha, hb, hc, hd⟩
  clear ha hb hc hd
  go_enter Try.func23, Try.ntmps23
  go_wp2_with (first | (refine wpList_box_new rfl 64 _ rfl (q64s q.list) rfl ?_; intro w1 b1 s1 l1) | (refine wpList_alloc_new rfl 64 rfl 4 _ zero4q ?_; intro w2 b2 s2 l2) | (refine wpList_alloc_new rfl 74 rfl 4 _ zero4i ?_; intro w3 b3 s3 l3) | (refine wpList_store_blk rfl 74 74 _ _ rfl _ rfl _ turnsV rfl b3 rfl size4i (by intro v hv; simp [turnsV] at hv; rcases hv with rfl | rfl | rfl | rfl <;> rfl) ?_; intro w4 b4 s4 k4))
  have HB : Hid (Blk w4 w.heap.size 64 (q64s q.list) ∧ Blk w4 (w.heap.size + 1) 64 (q64s [0, 0, 0, 0]) ∧ Blk w4 (w.heap.size + 1 + 1) 74 turnsV ∧ Below w.heap.size w w4 ∧ w4.heap.size = w.heap.size + 3) := by
    rw [s1] at b2
    rw [s2, s1] at b4
    exact ⟨((b1.later l2 (by omega)).later l3 (by omega)).kept k4 (by omega), (b2.later l3 (by omega)).kept k4 (by omega), b4, below_kept (below_chain (below_chain l1 l2 (by omega)) l3 (by omega)) k4 (by omega) (fun j hj => by omega), by omega⟩
  try rw [s2, s1]
  clear b1 s1 l1 b2 s2 l2 b3 s3 l3 b4 s4 k4
  go_loopw [4] (fun i wr => ∃ r : Nat, r ≤ 2 ∧ i = .int .i64 (2 * (r : Int)) ∧ Blk wr w.heap.size 64 (q64s (rq q r).list) ∧ Blk wr (w.heap.size + 1 + 1) 74 turnsV ∧ Kept (fun b => b = w.heap.size) w4 wr) (fun i _ => 4 - (intOf i).toNat)
  case atStart => exact ⟨0, by omega, rfl, HB.out.1, HB.out.2.2.1, Kept.refl _ _⟩
  case round =>
    obtain ⟨r, hr, rfl, hb, ht, hkp⟩ := hrel
    rcases (by omega : r = 0 ∨ r = 1 ∨ r = 2) with rfl | rfl | rfl
    · rw [show 2 * ((0 : Nat) : Int) = 0 from rfl]
      obtain ⟨ha, hB, hc, hd⟩ := HW.out
      obtain ⟨⟨a, b, c, d⟩, hp⟩ : ∃ p, rq q 0 = p := ⟨_, rfl⟩
      have HP : Hid (rq q 0 = ⟨a, b, c, d⟩) := hp
      rw [show q = ⟨a, b, c, d⟩ from hp] at ha hB hc hd
      rw [hp] at hb
      have BR : Hid (Blk wr w.heap.size 64 (q64s [a, b, c, d]) ∧ Blk wr (w.heap.size + 1 + 1) 74 turnsV ∧ Kept (fun b => b = w.heap.size) w4 wr) := ⟨hb, ht, hkp⟩
      clear hb ht hkp hp
      have hb : Wd b := hB
      have p1 := u64s_cell BR.out.1 0 (by simp)
      have q1 := u64s_cell BR.out.1 1 (by simp)
      have f1 := BR.out.1.frozen 0
      simp only [List.getD_cons_zero, List.getD_cons_succ] at p1 q1
      go_wp2_with (go_at_call 25; refine (rplus_any a b ha hb _).mono ?_; rintro e w' ⟨rfl, rfl⟩)
      have B1 : Hid (Blk (wr.setCell ⟨w.heap.size, 0, none⟩ (.int .u64 ((a + b) % 4294967296))) w.heap.size 64 (q64s [(a + b) % 4294967296, b, c, d]) ∧ Blk (wr.setCell ⟨w.heap.size, 0, none⟩ (.int .u64 ((a + b) % 4294967296))) (w.heap.size + 1 + 1) 74 turnsV ∧ Kept (fun b => b = w.heap.size) w4 (wr.setCell ⟨w.heap.size, 0, none⟩ (.int .u64 ((a + b) % 4294967296)))) := ⟨BR.out.1.set 0 (.int .u64 ((a + b) % 4294967296)), BR.out.2.1.other (show w.heap.size + 1 + 1 ≠ w.heap.size by omega) _, BR.out.2.2.setCell rfl _⟩
      obtain ⟨x1, hx1⟩ : ∃ x, World.setCell wr ⟨w.heap.size, 0, none⟩ (.int .u64 ((a + b) % 4294967296)) = x := ⟨_, rfl⟩
      rw [hx1] at B1 ⊢
      clear hx1 p1 q1 f1
      obtain ⟨A, hA⟩ : ∃ x, (a + b) % 4294967296 = x := ⟨_, rfl⟩
      have wA : Wd A := by rw [← hA]; constructor <;> omega
      rw [hA] at B1 ⊢
      have HA : Hid ((a + b) % 4294967296 = A) := hA
      clear hA
      obtain ⟨d2, hd2⟩ : ∃ x, x1.drew = x := ⟨_, rfl⟩
      have Bd2 : Hid (Blk d2 w.heap.size 64 (q64s [A, b, c, d]) ∧ Blk d2 (w.heap.size + 1 + 1) 74 turnsV ∧ Kept (fun b => b = w.heap.size) w4 d2) := by rw [← hd2]; exact ⟨B1.out.1.drew, B1.out.2.1.drew, B1.out.2.2.drew⟩
      have HS2 : Hid (d2.cell? ⟨w.heap.size, 3, none⟩ = some (.int .u64 d) ∧ d2.cell? ⟨w.heap.size, 0, none⟩ = some (.int .u64 A) ∧ d2.cell? ⟨w.heap.size + 1 + 1, 0, none⟩ = some (.int .i64 16)) := ⟨u64s_cell Bd2.out.1 3 (by simp), u64s_cell Bd2.out.1 0 (by simp), by rw [Bd2.out.2.1.cell]; rfl⟩
      refine wp_region_noPanic (till_region 10 (fun W => W.cell? ⟨w.heap.size, 3, none⟩ = some (.int .u64 d) ∧ W.cell? ⟨w.heap.size, 0, none⟩ = some (.int .u64 A) ∧ W.cell? ⟨w.heap.size + 1 + 1, 0, none⟩ = some (.int .i64 16)) (by kernel_rfl) ?_)
      change wpTill _ _ _ _ _ _ _ _ x1.drew
      rw [hd2]
      clear hd2
      refine tTake 0 (some 16) (.pointer (some ⟨w.heap.size, 3, none⟩)) rfl rfl (by kernel_rfl) (by kernel_rfl) (by kernel_rfl) (by decide) (fun _ _ _ h => h) (by rfl) (fun _ => by go_simp) HS2.out ?_
      simp only [Act.put, List.setIfInBounds_toArray, List.set_cons_zero, List.set_cons_succ]
      refine tLoad 1 (some 17) (.int .u64 d) rfl rfl (by kernel_rfl) (by kernel_rfl) (by kernel_rfl) (by decide) (by kernel_rfl) (by kernel_rfl) (fun _ _ _ h => h) (by rfl) (fun W' hS' => by obtain ⟨s1, s2, s3⟩ := hS'; go_simp) HS2.out ?_
      simp only [Act.put, List.setIfInBounds_toArray, List.set_cons_zero, List.set_cons_succ]
      refine tTake 2 (some 18) (.pointer (some ⟨w.heap.size, 0, none⟩)) rfl rfl (by kernel_rfl) (by kernel_rfl) (by kernel_rfl) (by decide) (fun _ _ _ h => h) (by rfl) (fun _ => by go_simp) HS2.out ?_
      simp only [Act.put, List.setIfInBounds_toArray, List.set_cons_zero, List.set_cons_succ]
      refine tLoad 3 (some 19) (.int .u64 A) rfl rfl (by kernel_rfl) (by kernel_rfl) (by kernel_rfl) (by decide) (by kernel_rfl) (by kernel_rfl) (fun _ _ _ h => h) (by rfl) (fun W' hS' => by obtain ⟨s1, s2, s3⟩ := hS'; go_simp) HS2.out ?_
      simp only [Act.put, List.setIfInBounds_toArray, List.set_cons_zero, List.set_cons_succ]
      refine tTake 5 (some 21) (.int .i64 0) rfl rfl (by kernel_rfl) (by kernel_rfl) (by kernel_rfl) (by decide) (fun _ _ _ h => h) (by rfl) (fun _ => by rfl) HS2.out ?_
      simp only [Act.put, List.setIfInBounds_toArray, List.set_cons_zero, List.set_cons_succ]
      refine tTake 6 (some 22) (.pointer (some ⟨w.heap.size + 1 + 1, 0, none⟩)) rfl rfl (by kernel_rfl) (by kernel_rfl) (by kernel_rfl) (by decide) (fun _ _ _ h => h) (by rfl) (fun _ => by go_simp) HS2.out ?_
      simp only [Act.put, List.setIfInBounds_toArray, List.set_cons_zero, List.set_cons_succ]
      refine tLoad 7 (some 23) (.int .i64 16) rfl rfl (by kernel_rfl) (by kernel_rfl) (by kernel_rfl) (by decide) (by kernel_rfl) (by kernel_rfl) (fun _ _ _ h => h) (by rfl) (fun W' hS' => by obtain ⟨s1, s2, s3⟩ := hS'; go_simp) HS2.out ?_
      simp only [Act.put, List.setIfInBounds_toArray, List.set_cons_zero, List.set_cons_succ]
      refine till_ready 4 (by kernel_rfl) rfl (fun K hK => ?_)
      go_simp
      go_wp2_with (go_at_call 19; refine (ragainst_any _ _ hd wA _).mono ?_; rintro e w' ⟨rfl, rfl⟩)
      refine ⟨HS2.out, ?_⟩
      refine till_ready 8 (by kernel_rfl) rfl (fun K hK => ?_)
      go_simp
      go_wp2_with (go_at_call 31; refine (rleft_any _ 16 (xor_64 _ _ hd wA).2 (by simp [TurnL]) _).mono ?_; rintro e w' ⟨rfl, qq, rfl⟩)
      refine ⟨HS2.out, ?_⟩
      refine tTake 9 (some 25) (.pointer (some ⟨w.heap.size, 3, none⟩)) rfl rfl (by kernel_rfl) (by kernel_rfl) (by kernel_rfl) (by decide) (fun _ _ _ h => h) (by rfl) (fun _ => by go_simp) HS2.out ?_
      simp only [Act.put, List.setIfInBounds_toArray, List.set_cons_zero, List.set_cons_succ]
      refine till_at (by kernel_rfl) ?_
      have Be2 : Blk (d2.drewN qq) w.heap.size 64 (q64s [A, b, c, d]) := Bd2.out.1.drewN qq
      have c2 := u64s_cell Be2 3 (by simp)
      have f2 := Be2.frozen 3
      have B2 : Hid (Blk ((d2.drewN qq).setCell ⟨w.heap.size, 3, none⟩ (.int .u64 (rotl (bits .xor .u32 d A) 16))) w.heap.size 64 (q64s [A, b, c, rotl (bits .xor .u32 d A) 16]) ∧ Blk ((d2.drewN qq).setCell ⟨w.heap.size, 3, none⟩ (.int .u64 (rotl (bits .xor .u32 d A) 16))) (w.heap.size + 1 + 1) 74 turnsV ∧ Kept (fun b => b = w.heap.size) w4 ((d2.drewN qq).setCell ⟨w.heap.size, 3, none⟩ (.int .u64 (rotl (bits .xor .u32 d A) 16)))) := ⟨Be2.set 3 (.int .u64 (rotl (bits .xor .u32 d A) 16)), (Bd2.out.2.1.drewN qq).other (show w.heap.size + 1 + 1 ≠ w.heap.size by omega) _, (Bd2.out.2.2.drewN qq).setCell rfl _⟩
      clear Be2
      refine wpAny_ready (rs := [10]) (by kernel_rfl) (by simp) (AllReady.cons rfl (fun K hK => ?_) AllReady.nil)
      go_simp
      refine hK _ _ ?_
      clear hK K
      change wpAny _ _ _ _ _ _ _ (World.setCell (d2.drewN qq) ⟨w.heap.size, 3, none⟩ (.int .u64 (rotl (bits .xor .u32 d A) 16)))
      obtain ⟨x2, hx2⟩ : ∃ x, World.setCell (d2.drewN qq) ⟨w.heap.size, 3, none⟩ (.int .u64 (rotl (bits .xor .u32 d A) 16)) = x := ⟨_, rfl⟩
      rw [hx2] at B2 ⊢
      clear hx2 c2 f2 HS2 Bd2
      refine wpAny_done (by kernel_rfl) (NoPanic.normal ?_) _
      obtain ⟨D, hD⟩ : ∃ x, rotl (bits .xor .u32 d A) 16 = x := ⟨_, rfl⟩
      have wD : Wd D := by rw [← hD]; exact (rotl_sum _ 16 (xor_64 _ _ hd wA).2 (by simp [TurnL])).2
      rw [hD] at B2 ⊢
      have HD : Hid (rotl (bits .xor .u32 d A) 16 = D) := hD
      clear hD
      have p3 := u64s_cell B2.out.1 2 (by simp)
      have q3 := u64s_cell B2.out.1 3 (by simp)
      have f3 := B2.out.1.frozen 2
      simp only [List.getD_cons_zero, List.getD_cons_succ] at p3 q3
      go_wp2_with (go_at_call 25; refine (rplus_any c D hc wD _).mono ?_; rintro e w' ⟨rfl, rfl⟩)
      have B3 : Hid (Blk (x2.setCell ⟨w.heap.size, 2, none⟩ (.int .u64 ((c + D) % 4294967296))) w.heap.size 64 (q64s [A, b, (c + D) % 4294967296, D]) ∧ Blk (x2.setCell ⟨w.heap.size, 2, none⟩ (.int .u64 ((c + D) % 4294967296))) (w.heap.size + 1 + 1) 74 turnsV ∧ Kept (fun b => b = w.heap.size) w4 (x2.setCell ⟨w.heap.size, 2, none⟩ (.int .u64 ((c + D) % 4294967296)))) := ⟨B2.out.1.set 2 (.int .u64 ((c + D) % 4294967296)), B2.out.2.1.other (show w.heap.size + 1 + 1 ≠ w.heap.size by omega) _, B2.out.2.2.setCell rfl _⟩
      obtain ⟨x3, hx3⟩ : ∃ x, World.setCell x2 ⟨w.heap.size, 2, none⟩ (.int .u64 ((c + D) % 4294967296)) = x := ⟨_, rfl⟩
      rw [hx3] at B3 ⊢
      clear hx3 p3 q3 f3
      obtain ⟨C, hC⟩ : ∃ x, (c + D) % 4294967296 = x := ⟨_, rfl⟩
      have wC : Wd C := by rw [← hC]; constructor <;> omega
      rw [hC] at B3 ⊢
      have HC : Hid ((c + D) % 4294967296 = C) := hC
      clear hC
      obtain ⟨d4, hd4⟩ : ∃ x, x3.drew = x := ⟨_, rfl⟩
      have Bd4 : Hid (Blk d4 w.heap.size 64 (q64s [A, b, C, D]) ∧ Blk d4 (w.heap.size + 1 + 1) 74 turnsV ∧ Kept (fun b => b = w.heap.size) w4 d4) := by rw [← hd4]; exact ⟨B3.out.1.drew, B3.out.2.1.drew, B3.out.2.2.drew⟩
      have HS4 : Hid (d4.cell? ⟨w.heap.size, 1, none⟩ = some (.int .u64 b) ∧ d4.cell? ⟨w.heap.size, 2, none⟩ = some (.int .u64 C) ∧ d4.cell? ⟨w.heap.size + 1 + 1, 1, none⟩ = some (.int .i64 12)) := ⟨u64s_cell Bd4.out.1 1 (by simp), u64s_cell Bd4.out.1 2 (by simp), by rw [Bd4.out.2.1.cell]; rfl⟩
      refine wp_region_noPanic (till_region 11 (fun W => W.cell? ⟨w.heap.size, 1, none⟩ = some (.int .u64 b) ∧ W.cell? ⟨w.heap.size, 2, none⟩ = some (.int .u64 C) ∧ W.cell? ⟨w.heap.size + 1 + 1, 1, none⟩ = some (.int .i64 12)) (by kernel_rfl) ?_)
      change wpTill _ _ _ _ _ _ _ _ x3.drew
      rw [hd4]
      clear hd4
      refine tTake 0 (some 32) (.pointer (some ⟨w.heap.size, 1, none⟩)) rfl rfl (by kernel_rfl) (by kernel_rfl) (by kernel_rfl) (by decide) (fun _ _ _ h => h) (by rfl) (fun _ => by go_simp) HS4.out ?_
      simp only [Act.put, List.setIfInBounds_toArray, List.set_cons_zero, List.set_cons_succ]
      refine tLoad 1 (some 33) (.int .u64 b) rfl rfl (by kernel_rfl) (by kernel_rfl) (by kernel_rfl) (by decide) (by kernel_rfl) (by kernel_rfl) (fun _ _ _ h => h) (by rfl) (fun W' hS' => by obtain ⟨s1, s2, s3⟩ := hS'; go_simp) HS4.out ?_
      simp only [Act.put, List.setIfInBounds_toArray, List.set_cons_zero, List.set_cons_succ]
      refine tTake 2 (some 34) (.pointer (some ⟨w.heap.size, 2, none⟩)) rfl rfl (by kernel_rfl) (by kernel_rfl) (by kernel_rfl) (by decide) (fun _ _ _ h => h) (by rfl) (fun _ => by go_simp) HS4.out ?_
      simp only [Act.put, List.setIfInBounds_toArray, List.set_cons_zero, List.set_cons_succ]
      refine tLoad 3 (some 35) (.int .u64 C) rfl rfl (by kernel_rfl) (by kernel_rfl) (by kernel_rfl) (by decide) (by kernel_rfl) (by kernel_rfl) (fun _ _ _ h => h) (by rfl) (fun W' hS' => by obtain ⟨s1, s2, s3⟩ := hS'; go_simp) HS4.out ?_
      simp only [Act.put, List.setIfInBounds_toArray, List.set_cons_zero, List.set_cons_succ]
      refine tTake 5 (some 37) (.int .i64 0) rfl rfl (by kernel_rfl) (by kernel_rfl) (by kernel_rfl) (by decide) (fun _ _ _ h => h) (by rfl) (fun _ => by rfl) HS4.out ?_
      simp only [Act.put, List.setIfInBounds_toArray, List.set_cons_zero, List.set_cons_succ]
      refine tTake 6 (some 38) (.int .i64 1) rfl rfl (by kernel_rfl) (by kernel_rfl) (by kernel_rfl) (by decide) (fun _ _ _ h => h) (by rfl) (fun _ => by go_simp; rfl) HS4.out ?_
      simp only [Act.put, List.setIfInBounds_toArray, List.set_cons_zero, List.set_cons_succ]
      refine tTake 7 (some 39) (.pointer (some ⟨w.heap.size + 1 + 1, 1, none⟩)) rfl rfl (by kernel_rfl) (by kernel_rfl) (by kernel_rfl) (by decide) (fun _ _ _ h => h) (by rfl) (fun _ => by go_simp) HS4.out ?_
      simp only [Act.put, List.setIfInBounds_toArray, List.set_cons_zero, List.set_cons_succ]
      refine tLoad 8 (some 40) (.int .i64 12) rfl rfl (by kernel_rfl) (by kernel_rfl) (by kernel_rfl) (by decide) (by kernel_rfl) (by kernel_rfl) (fun _ _ _ h => h) (by rfl) (fun W' hS' => by obtain ⟨s1, s2, s3⟩ := hS'; go_simp) HS4.out ?_
      simp only [Act.put, List.setIfInBounds_toArray, List.set_cons_zero, List.set_cons_succ]
      refine till_ready 4 (by kernel_rfl) rfl (fun K hK => ?_)
      go_simp
      go_wp2_with (go_at_call 19; refine (ragainst_any _ _ hb wC _).mono ?_; rintro e w' ⟨rfl, rfl⟩)
      refine ⟨HS4.out, ?_⟩
      refine till_ready 9 (by kernel_rfl) rfl (fun K hK => ?_)
      go_simp
      go_wp2_with (go_at_call 31; refine (rleft_any _ 12 (xor_64 _ _ hb wC).2 (by simp [TurnL]) _).mono ?_; rintro e w' ⟨rfl, qq, rfl⟩)
      refine ⟨HS4.out, ?_⟩
      refine tTake 10 (some 42) (.pointer (some ⟨w.heap.size, 1, none⟩)) rfl rfl (by kernel_rfl) (by kernel_rfl) (by kernel_rfl) (by decide) (fun _ _ _ h => h) (by rfl) (fun _ => by go_simp) HS4.out ?_
      simp only [Act.put, List.setIfInBounds_toArray, List.set_cons_zero, List.set_cons_succ]
      refine till_at (by kernel_rfl) ?_
      have Be4 : Blk (d4.drewN qq) w.heap.size 64 (q64s [A, b, C, D]) := Bd4.out.1.drewN qq
      have c4 := u64s_cell Be4 1 (by simp)
      have f4 := Be4.frozen 1
      have B4 : Hid (Blk ((d4.drewN qq).setCell ⟨w.heap.size, 1, none⟩ (.int .u64 (rotl (bits .xor .u32 b C) 12))) w.heap.size 64 (q64s [A, rotl (bits .xor .u32 b C) 12, C, D]) ∧ Blk ((d4.drewN qq).setCell ⟨w.heap.size, 1, none⟩ (.int .u64 (rotl (bits .xor .u32 b C) 12))) (w.heap.size + 1 + 1) 74 turnsV ∧ Kept (fun b => b = w.heap.size) w4 ((d4.drewN qq).setCell ⟨w.heap.size, 1, none⟩ (.int .u64 (rotl (bits .xor .u32 b C) 12)))) := ⟨Be4.set 1 (.int .u64 (rotl (bits .xor .u32 b C) 12)), (Bd4.out.2.1.drewN qq).other (show w.heap.size + 1 + 1 ≠ w.heap.size by omega) _, (Bd4.out.2.2.drewN qq).setCell rfl _⟩
      clear Be4
      refine wpAny_ready (rs := [11]) (by kernel_rfl) (by simp) (AllReady.cons rfl (fun K hK => ?_) AllReady.nil)
      go_simp
      refine hK _ _ ?_
      clear hK K
      change wpAny _ _ _ _ _ _ _ (World.setCell (d4.drewN qq) ⟨w.heap.size, 1, none⟩ (.int .u64 (rotl (bits .xor .u32 b C) 12)))
      obtain ⟨x4, hx4⟩ : ∃ x, World.setCell (d4.drewN qq) ⟨w.heap.size, 1, none⟩ (.int .u64 (rotl (bits .xor .u32 b C) 12)) = x := ⟨_, rfl⟩
      rw [hx4] at B4 ⊢
      clear hx4 c4 f4 HS4 Bd4
      refine wpAny_done (by kernel_rfl) (NoPanic.normal ?_) _
      go_wp2_with fail
      refine ⟨⟨1, by omega, by go_num, ?_, B4.out.2⟩, by simp [intOf]⟩
      have e : rq q 1 = ⟨A, rotl (bits .xor .u32 b C) 12, C, D⟩ := by
        show halfQ (rq q 0) 16 12 = _
        rw [HP.out, halfQ, halfC, halfD, HA.out, HD.out, HC.out]
      rw [e]; exact B4.out.1
    · rw [show 2 * ((1 : Nat) : Int) = 2 from rfl]
      obtain ⟨ha, hB, hc, hd⟩ := half_wd q 16 12 HW.out.1 HW.out.2.1 HW.out.2.2.1 HW.out.2.2.2 (by simp [TurnL]) (by simp [TurnL])
      obtain ⟨⟨a, b, c, d⟩, hp⟩ : ∃ p, rq q 1 = p := ⟨_, rfl⟩
      have HP : Hid (rq q 1 = ⟨a, b, c, d⟩) := hp
      rw [show halfQ q 16 12 = ⟨a, b, c, d⟩ from hp] at ha hB hc hd
      rw [hp] at hb
      have BR : Hid (Blk wr w.heap.size 64 (q64s [a, b, c, d]) ∧ Blk wr (w.heap.size + 1 + 1) 74 turnsV ∧ Kept (fun b => b = w.heap.size) w4 wr) := ⟨hb, ht, hkp⟩
      clear hb ht hkp hp
      have hb : Wd b := hB
      have p1 := u64s_cell BR.out.1 0 (by simp)
      have q1 := u64s_cell BR.out.1 1 (by simp)
      have f1 := BR.out.1.frozen 0
      simp only [List.getD_cons_zero, List.getD_cons_succ] at p1 q1
      go_wp2_with (go_at_call 25; refine (rplus_any a b ha hb _).mono ?_; rintro e w' ⟨rfl, rfl⟩)
      have B1 : Hid (Blk (wr.setCell ⟨w.heap.size, 0, none⟩ (.int .u64 ((a + b) % 4294967296))) w.heap.size 64 (q64s [(a + b) % 4294967296, b, c, d]) ∧ Blk (wr.setCell ⟨w.heap.size, 0, none⟩ (.int .u64 ((a + b) % 4294967296))) (w.heap.size + 1 + 1) 74 turnsV ∧ Kept (fun b => b = w.heap.size) w4 (wr.setCell ⟨w.heap.size, 0, none⟩ (.int .u64 ((a + b) % 4294967296)))) := ⟨BR.out.1.set 0 (.int .u64 ((a + b) % 4294967296)), BR.out.2.1.other (show w.heap.size + 1 + 1 ≠ w.heap.size by omega) _, BR.out.2.2.setCell rfl _⟩
      obtain ⟨x1, hx1⟩ : ∃ x, World.setCell wr ⟨w.heap.size, 0, none⟩ (.int .u64 ((a + b) % 4294967296)) = x := ⟨_, rfl⟩
      rw [hx1] at B1 ⊢
      clear hx1 p1 q1 f1
      obtain ⟨A, hA⟩ : ∃ x, (a + b) % 4294967296 = x := ⟨_, rfl⟩
      have wA : Wd A := by rw [← hA]; constructor <;> omega
      rw [hA] at B1 ⊢
      have HA : Hid ((a + b) % 4294967296 = A) := hA
      clear hA
      obtain ⟨d2, hd2⟩ : ∃ x, x1.drew = x := ⟨_, rfl⟩
      have Bd2 : Hid (Blk d2 w.heap.size 64 (q64s [A, b, c, d]) ∧ Blk d2 (w.heap.size + 1 + 1) 74 turnsV ∧ Kept (fun b => b = w.heap.size) w4 d2) := by rw [← hd2]; exact ⟨B1.out.1.drew, B1.out.2.1.drew, B1.out.2.2.drew⟩
      have HS2 : Hid (d2.cell? ⟨w.heap.size, 3, none⟩ = some (.int .u64 d) ∧ d2.cell? ⟨w.heap.size, 0, none⟩ = some (.int .u64 A) ∧ d2.cell? ⟨w.heap.size + 1 + 1, 2, none⟩ = some (.int .i64 8)) := ⟨u64s_cell Bd2.out.1 3 (by simp), u64s_cell Bd2.out.1 0 (by simp), by rw [Bd2.out.2.1.cell]; rfl⟩
      refine wp_region_noPanic (till_region 10 (fun W => W.cell? ⟨w.heap.size, 3, none⟩ = some (.int .u64 d) ∧ W.cell? ⟨w.heap.size, 0, none⟩ = some (.int .u64 A) ∧ W.cell? ⟨w.heap.size + 1 + 1, 2, none⟩ = some (.int .i64 8)) (by kernel_rfl) ?_)
      change wpTill _ _ _ _ _ _ _ _ x1.drew
      rw [hd2]
      clear hd2
      refine tTake 0 (some 16) (.pointer (some ⟨w.heap.size, 3, none⟩)) rfl rfl (by kernel_rfl) (by kernel_rfl) (by kernel_rfl) (by decide) (fun _ _ _ h => h) (by rfl) (fun _ => by go_simp) HS2.out ?_
      simp only [Act.put, List.setIfInBounds_toArray, List.set_cons_zero, List.set_cons_succ]
      refine tLoad 1 (some 17) (.int .u64 d) rfl rfl (by kernel_rfl) (by kernel_rfl) (by kernel_rfl) (by decide) (by kernel_rfl) (by kernel_rfl) (fun _ _ _ h => h) (by rfl) (fun W' hS' => by obtain ⟨s1, s2, s3⟩ := hS'; go_simp) HS2.out ?_
      simp only [Act.put, List.setIfInBounds_toArray, List.set_cons_zero, List.set_cons_succ]
      refine tTake 2 (some 18) (.pointer (some ⟨w.heap.size, 0, none⟩)) rfl rfl (by kernel_rfl) (by kernel_rfl) (by kernel_rfl) (by decide) (fun _ _ _ h => h) (by rfl) (fun _ => by go_simp) HS2.out ?_
      simp only [Act.put, List.setIfInBounds_toArray, List.set_cons_zero, List.set_cons_succ]
      refine tLoad 3 (some 19) (.int .u64 A) rfl rfl (by kernel_rfl) (by kernel_rfl) (by kernel_rfl) (by decide) (by kernel_rfl) (by kernel_rfl) (fun _ _ _ h => h) (by rfl) (fun W' hS' => by obtain ⟨s1, s2, s3⟩ := hS'; go_simp) HS2.out ?_
      simp only [Act.put, List.setIfInBounds_toArray, List.set_cons_zero, List.set_cons_succ]
      refine tTake 5 (some 21) (.int .i64 2) rfl rfl (by kernel_rfl) (by kernel_rfl) (by kernel_rfl) (by decide) (fun _ _ _ h => h) (by rfl) (fun _ => by rfl) HS2.out ?_
      simp only [Act.put, List.setIfInBounds_toArray, List.set_cons_zero, List.set_cons_succ]
      refine tTake 6 (some 22) (.pointer (some ⟨w.heap.size + 1 + 1, 2, none⟩)) rfl rfl (by kernel_rfl) (by kernel_rfl) (by kernel_rfl) (by decide) (fun _ _ _ h => h) (by rfl) (fun _ => by go_simp) HS2.out ?_
      simp only [Act.put, List.setIfInBounds_toArray, List.set_cons_zero, List.set_cons_succ]
      refine tLoad 7 (some 23) (.int .i64 8) rfl rfl (by kernel_rfl) (by kernel_rfl) (by kernel_rfl) (by decide) (by kernel_rfl) (by kernel_rfl) (fun _ _ _ h => h) (by rfl) (fun W' hS' => by obtain ⟨s1, s2, s3⟩ := hS'; go_simp) HS2.out ?_
      simp only [Act.put, List.setIfInBounds_toArray, List.set_cons_zero, List.set_cons_succ]
      refine till_ready 4 (by kernel_rfl) rfl (fun K hK => ?_)
      go_simp
      go_wp2_with (go_at_call 19; refine (ragainst_any _ _ hd wA _).mono ?_; rintro e w' ⟨rfl, rfl⟩)
      refine ⟨HS2.out, ?_⟩
      refine till_ready 8 (by kernel_rfl) rfl (fun K hK => ?_)
      go_simp
      go_wp2_with (go_at_call 31; refine (rleft_any _ 8 (xor_64 _ _ hd wA).2 (by simp [TurnL]) _).mono ?_; rintro e w' ⟨rfl, qq, rfl⟩)
      refine ⟨HS2.out, ?_⟩
      refine tTake 9 (some 25) (.pointer (some ⟨w.heap.size, 3, none⟩)) rfl rfl (by kernel_rfl) (by kernel_rfl) (by kernel_rfl) (by decide) (fun _ _ _ h => h) (by rfl) (fun _ => by go_simp) HS2.out ?_
      simp only [Act.put, List.setIfInBounds_toArray, List.set_cons_zero, List.set_cons_succ]
      refine till_at (by kernel_rfl) ?_
      have Be2 : Blk (d2.drewN qq) w.heap.size 64 (q64s [A, b, c, d]) := Bd2.out.1.drewN qq
      have c2 := u64s_cell Be2 3 (by simp)
      have f2 := Be2.frozen 3
      have B2 : Hid (Blk ((d2.drewN qq).setCell ⟨w.heap.size, 3, none⟩ (.int .u64 (rotl (bits .xor .u32 d A) 8))) w.heap.size 64 (q64s [A, b, c, rotl (bits .xor .u32 d A) 8]) ∧ Blk ((d2.drewN qq).setCell ⟨w.heap.size, 3, none⟩ (.int .u64 (rotl (bits .xor .u32 d A) 8))) (w.heap.size + 1 + 1) 74 turnsV ∧ Kept (fun b => b = w.heap.size) w4 ((d2.drewN qq).setCell ⟨w.heap.size, 3, none⟩ (.int .u64 (rotl (bits .xor .u32 d A) 8)))) := ⟨Be2.set 3 (.int .u64 (rotl (bits .xor .u32 d A) 8)), (Bd2.out.2.1.drewN qq).other (show w.heap.size + 1 + 1 ≠ w.heap.size by omega) _, (Bd2.out.2.2.drewN qq).setCell rfl _⟩
      clear Be2
      refine wpAny_ready (rs := [10]) (by kernel_rfl) (by simp) (AllReady.cons rfl (fun K hK => ?_) AllReady.nil)
      go_simp
      refine hK _ _ ?_
      clear hK K
      change wpAny _ _ _ _ _ _ _ (World.setCell (d2.drewN qq) ⟨w.heap.size, 3, none⟩ (.int .u64 (rotl (bits .xor .u32 d A) 8)))
      obtain ⟨x2, hx2⟩ : ∃ x, World.setCell (d2.drewN qq) ⟨w.heap.size, 3, none⟩ (.int .u64 (rotl (bits .xor .u32 d A) 8)) = x := ⟨_, rfl⟩
      rw [hx2] at B2 ⊢
      clear hx2 c2 f2 HS2 Bd2
      refine wpAny_done (by kernel_rfl) (NoPanic.normal ?_) _
      obtain ⟨D, hD⟩ : ∃ x, rotl (bits .xor .u32 d A) 8 = x := ⟨_, rfl⟩
      have wD : Wd D := by rw [← hD]; exact (rotl_sum _ 8 (xor_64 _ _ hd wA).2 (by simp [TurnL])).2
      rw [hD] at B2 ⊢
      have HD : Hid (rotl (bits .xor .u32 d A) 8 = D) := hD
      clear hD
      have p3 := u64s_cell B2.out.1 2 (by simp)
      have q3 := u64s_cell B2.out.1 3 (by simp)
      have f3 := B2.out.1.frozen 2
      simp only [List.getD_cons_zero, List.getD_cons_succ] at p3 q3
      go_wp2_with (go_at_call 25; refine (rplus_any c D hc wD _).mono ?_; rintro e w' ⟨rfl, rfl⟩)
      have B3 : Hid (Blk (x2.setCell ⟨w.heap.size, 2, none⟩ (.int .u64 ((c + D) % 4294967296))) w.heap.size 64 (q64s [A, b, (c + D) % 4294967296, D]) ∧ Blk (x2.setCell ⟨w.heap.size, 2, none⟩ (.int .u64 ((c + D) % 4294967296))) (w.heap.size + 1 + 1) 74 turnsV ∧ Kept (fun b => b = w.heap.size) w4 (x2.setCell ⟨w.heap.size, 2, none⟩ (.int .u64 ((c + D) % 4294967296)))) := ⟨B2.out.1.set 2 (.int .u64 ((c + D) % 4294967296)), B2.out.2.1.other (show w.heap.size + 1 + 1 ≠ w.heap.size by omega) _, B2.out.2.2.setCell rfl _⟩
      obtain ⟨x3, hx3⟩ : ∃ x, World.setCell x2 ⟨w.heap.size, 2, none⟩ (.int .u64 ((c + D) % 4294967296)) = x := ⟨_, rfl⟩
      rw [hx3] at B3 ⊢
      clear hx3 p3 q3 f3
      obtain ⟨C, hC⟩ : ∃ x, (c + D) % 4294967296 = x := ⟨_, rfl⟩
      have wC : Wd C := by rw [← hC]; constructor <;> omega
      rw [hC] at B3 ⊢
      have HC : Hid ((c + D) % 4294967296 = C) := hC
      clear hC
      obtain ⟨d4, hd4⟩ : ∃ x, x3.drew = x := ⟨_, rfl⟩
      have Bd4 : Hid (Blk d4 w.heap.size 64 (q64s [A, b, C, D]) ∧ Blk d4 (w.heap.size + 1 + 1) 74 turnsV ∧ Kept (fun b => b = w.heap.size) w4 d4) := by rw [← hd4]; exact ⟨B3.out.1.drew, B3.out.2.1.drew, B3.out.2.2.drew⟩
      have HS4 : Hid (d4.cell? ⟨w.heap.size, 1, none⟩ = some (.int .u64 b) ∧ d4.cell? ⟨w.heap.size, 2, none⟩ = some (.int .u64 C) ∧ d4.cell? ⟨w.heap.size + 1 + 1, 3, none⟩ = some (.int .i64 7)) := ⟨u64s_cell Bd4.out.1 1 (by simp), u64s_cell Bd4.out.1 2 (by simp), by rw [Bd4.out.2.1.cell]; rfl⟩
      refine wp_region_noPanic (till_region 11 (fun W => W.cell? ⟨w.heap.size, 1, none⟩ = some (.int .u64 b) ∧ W.cell? ⟨w.heap.size, 2, none⟩ = some (.int .u64 C) ∧ W.cell? ⟨w.heap.size + 1 + 1, 3, none⟩ = some (.int .i64 7)) (by kernel_rfl) ?_)
      change wpTill _ _ _ _ _ _ _ _ x3.drew
      rw [hd4]
      clear hd4
      refine tTake 0 (some 32) (.pointer (some ⟨w.heap.size, 1, none⟩)) rfl rfl (by kernel_rfl) (by kernel_rfl) (by kernel_rfl) (by decide) (fun _ _ _ h => h) (by rfl) (fun _ => by go_simp) HS4.out ?_
      simp only [Act.put, List.setIfInBounds_toArray, List.set_cons_zero, List.set_cons_succ]
      refine tLoad 1 (some 33) (.int .u64 b) rfl rfl (by kernel_rfl) (by kernel_rfl) (by kernel_rfl) (by decide) (by kernel_rfl) (by kernel_rfl) (fun _ _ _ h => h) (by rfl) (fun W' hS' => by obtain ⟨s1, s2, s3⟩ := hS'; go_simp) HS4.out ?_
      simp only [Act.put, List.setIfInBounds_toArray, List.set_cons_zero, List.set_cons_succ]
      refine tTake 2 (some 34) (.pointer (some ⟨w.heap.size, 2, none⟩)) rfl rfl (by kernel_rfl) (by kernel_rfl) (by kernel_rfl) (by decide) (fun _ _ _ h => h) (by rfl) (fun _ => by go_simp) HS4.out ?_
      simp only [Act.put, List.setIfInBounds_toArray, List.set_cons_zero, List.set_cons_succ]
      refine tLoad 3 (some 35) (.int .u64 C) rfl rfl (by kernel_rfl) (by kernel_rfl) (by kernel_rfl) (by decide) (by kernel_rfl) (by kernel_rfl) (fun _ _ _ h => h) (by rfl) (fun W' hS' => by obtain ⟨s1, s2, s3⟩ := hS'; go_simp) HS4.out ?_
      simp only [Act.put, List.setIfInBounds_toArray, List.set_cons_zero, List.set_cons_succ]
      refine tTake 5 (some 37) (.int .i64 2) rfl rfl (by kernel_rfl) (by kernel_rfl) (by kernel_rfl) (by decide) (fun _ _ _ h => h) (by rfl) (fun _ => by rfl) HS4.out ?_
      simp only [Act.put, List.setIfInBounds_toArray, List.set_cons_zero, List.set_cons_succ]
      refine tTake 6 (some 38) (.int .i64 3) rfl rfl (by kernel_rfl) (by kernel_rfl) (by kernel_rfl) (by decide) (fun _ _ _ h => h) (by rfl) (fun _ => by go_simp; rfl) HS4.out ?_
      simp only [Act.put, List.setIfInBounds_toArray, List.set_cons_zero, List.set_cons_succ]
      refine tTake 7 (some 39) (.pointer (some ⟨w.heap.size + 1 + 1, 3, none⟩)) rfl rfl (by kernel_rfl) (by kernel_rfl) (by kernel_rfl) (by decide) (fun _ _ _ h => h) (by rfl) (fun _ => by go_simp) HS4.out ?_
      simp only [Act.put, List.setIfInBounds_toArray, List.set_cons_zero, List.set_cons_succ]
      refine tLoad 8 (some 40) (.int .i64 7) rfl rfl (by kernel_rfl) (by kernel_rfl) (by kernel_rfl) (by decide) (by kernel_rfl) (by kernel_rfl) (fun _ _ _ h => h) (by rfl) (fun W' hS' => by obtain ⟨s1, s2, s3⟩ := hS'; go_simp) HS4.out ?_
      simp only [Act.put, List.setIfInBounds_toArray, List.set_cons_zero, List.set_cons_succ]
      refine till_ready 4 (by kernel_rfl) rfl (fun K hK => ?_)
      go_simp
      go_wp2_with (go_at_call 19; refine (ragainst_any _ _ hb wC _).mono ?_; rintro e w' ⟨rfl, rfl⟩)
      refine ⟨HS4.out, ?_⟩
      refine till_ready 9 (by kernel_rfl) rfl (fun K hK => ?_)
      go_simp
      go_wp2_with (go_at_call 31; refine (rleft_any _ 7 (xor_64 _ _ hb wC).2 (by simp [TurnL]) _).mono ?_; rintro e w' ⟨rfl, qq, rfl⟩)
      refine ⟨HS4.out, ?_⟩
      refine tTake 10 (some 42) (.pointer (some ⟨w.heap.size, 1, none⟩)) rfl rfl (by kernel_rfl) (by kernel_rfl) (by kernel_rfl) (by decide) (fun _ _ _ h => h) (by rfl) (fun _ => by go_simp) HS4.out ?_
      simp only [Act.put, List.setIfInBounds_toArray, List.set_cons_zero, List.set_cons_succ]
      refine till_at (by kernel_rfl) ?_
      have Be4 : Blk (d4.drewN qq) w.heap.size 64 (q64s [A, b, C, D]) := Bd4.out.1.drewN qq
      have c4 := u64s_cell Be4 1 (by simp)
      have f4 := Be4.frozen 1
      have B4 : Hid (Blk ((d4.drewN qq).setCell ⟨w.heap.size, 1, none⟩ (.int .u64 (rotl (bits .xor .u32 b C) 7))) w.heap.size 64 (q64s [A, rotl (bits .xor .u32 b C) 7, C, D]) ∧ Blk ((d4.drewN qq).setCell ⟨w.heap.size, 1, none⟩ (.int .u64 (rotl (bits .xor .u32 b C) 7))) (w.heap.size + 1 + 1) 74 turnsV ∧ Kept (fun b => b = w.heap.size) w4 ((d4.drewN qq).setCell ⟨w.heap.size, 1, none⟩ (.int .u64 (rotl (bits .xor .u32 b C) 7)))) := ⟨Be4.set 1 (.int .u64 (rotl (bits .xor .u32 b C) 7)), (Bd4.out.2.1.drewN qq).other (show w.heap.size + 1 + 1 ≠ w.heap.size by omega) _, (Bd4.out.2.2.drewN qq).setCell rfl _⟩
      clear Be4
      refine wpAny_ready (rs := [11]) (by kernel_rfl) (by simp) (AllReady.cons rfl (fun K hK => ?_) AllReady.nil)
      go_simp
      refine hK _ _ ?_
      clear hK K
      change wpAny _ _ _ _ _ _ _ (World.setCell (d4.drewN qq) ⟨w.heap.size, 1, none⟩ (.int .u64 (rotl (bits .xor .u32 b C) 7)))
      obtain ⟨x4, hx4⟩ : ∃ x, World.setCell (d4.drewN qq) ⟨w.heap.size, 1, none⟩ (.int .u64 (rotl (bits .xor .u32 b C) 7)) = x := ⟨_, rfl⟩
      rw [hx4] at B4 ⊢
      clear hx4 c4 f4 HS4 Bd4
      refine wpAny_done (by kernel_rfl) (NoPanic.normal ?_) _
      go_wp2_with fail
      refine ⟨⟨2, by omega, by go_num, ?_, B4.out.2⟩, by simp [intOf]⟩
      have e : rq q 2 = ⟨A, rotl (bits .xor .u32 b C) 7, C, D⟩ := by
        show halfQ (rq q 1) 8 7 = _
        rw [HP.out, halfQ, halfC, halfD, HA.out, HD.out, HC.out]
      rw [e]; exact B4.out.1
    · rw [show 2 * ((2 : Nat) : Int) = 4 from rfl]
      have X3 : Hid (Blk wr w.heap.size 64 (q64s (quarter q).list)) := hb
      have X4 : Hid (Blk wr (w.heap.size + 1) 64 (q64s [0, 0, 0, 0])) := HB.out.2.1.kept hkp (by omega)
      have X5 : Hid (Below w.heap.size w wr) := below_kept HB.out.2.2.2.1 hkp (by have := HB.out.2.2.2.2; omega) (fun j hj => by omega)
      clear hb ht hkp
      go_wp2_with (first | (refine wpList_load_blk rfl 64 _ rfl _ rfl (q64s (quarter q).list) _ X3.out Try.underlying64 rfl size4q ?_) | (refine wpList_store_blk rfl 64 64 _ _ rfl _ rfl _ (q64s (quarter q).list) rfl X4.out rfl size4q (q64s_one _) ?_; intro w5 b5 s5 k5))
      exact ret_blk rfl (w.heap.size + 1) (q64s (quarter q).list) _ rfl b5 Try.underlying64 rfl size4q rfl ⟨rfl, below_kept X5.out k5 X5.out.size (fun j hj => by omega)⟩
end Go.Proofs.Ytpjnimmclncdoaa
