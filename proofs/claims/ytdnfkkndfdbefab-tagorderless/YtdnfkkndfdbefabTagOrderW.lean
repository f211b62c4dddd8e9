/- The walk of TagOrderless. -/
import Derived.Test.YtdnfkkndfdbefabTIsS
import Derived.Test.YtdnfkkndfdbefabTOrder
import Derived.Test.YtdnfkkndfdbefabTWithin
namespace Go.Proofs.Ytdnfkkndfdbefab
open Go.RowKit Go.Joins
set_option linter.unusedVariables false
set_option linter.unusedSimpArgs false

def cCells (S : List Int) (ao : Option Addr) (n c : Nat) (I K : Int) : List Value := u8s S ++ [.slice ao n c, .int .i64 I, .int .i64 K]
theorem cCells_S (S : List Int) (ao : Option Addr) (n c : Nat) (I K : Int) (i : Nat) (hi : i < S.length) : (cCells S ao n c I K)[i]? = some (.int .u8 (S.getD i 0)) := by
  rw [cCells, List.getElem?_append_left (by rw [u8s_length]; exact hi)]
  simp [u8s, List.getD, hi]
theorem cCells_M (S : List Int) (ao : Option Addr) (n c : Nat) (I K : Int) (hS : S.length = 16) : (cCells S ao n c I K)[16]? = some (.slice ao n c) ∧ (cCells S ao n c I K)[17]? = some (.int .i64 I) ∧ (cCells S ao n c I K)[18]? = some (.int .i64 K) := by
  refine ⟨?_, ?_, ?_⟩ <;> · rw [cCells, List.getElem?_append_right (by rw [u8s_length, hS]; decide), u8s_length, hS]; rfl
theorem key_set (S : List Int) (k : Nat) (hk : k < 16) (hS : S.length = 16) : ((1 :: zs0 15) ++ (S.take k ++ zs0 (16 - k))).set (16 + k) (S.getD k 0) = (1 :: zs0 15) ++ (S.take (k + 1) ++ zs0 (16 - (k + 1))) := by
  have e : zs0 (16 - k) = 0 :: zs0 (16 - (k + 1)) := by
    rw [zs0, zs0, show 16 - k = 16 - (k + 1) + 1 by omega, List.replicate_succ]
  have hl : (S.take k).length = k := by rw [List.length_take]; omega
  have e2 : S.getD k 0 = S[k]'(by omega) := by simp [List.getD, show k < S.length by omega]
  have e3 : (1 :: zs0 15 : List Int).length = 16 := rfl
  rw [List.set_append_right _ _ (by rw [e3]; omega), e3, Nat.add_sub_cancel_left, List.set_append_right _ _ (by omega), hl, Nat.sub_self, e, List.set_cons_zero, List.take_succ_eq_append_getElem (by omega : k < S.length), e2, List.append_assoc, List.singleton_append]
theorem zeroKey' : (Try.prog.info? 23).map (fun i => (i.zero, i.size)) = some (some (.agg (u8s (zs0 32)).toArray), 32) := by kernel_rfl
set_option maxRecDepth 20000 in
set_option maxHeartbeats 4000000 in
theorem order_walk (S : List Int) (ao : Option Addr) (n c : Nat) (I K : Int) (m : List Int) (w : World) (hS : S.length = 16) (hSb : Bytes S) (hx : Seen w ao n m) (hc : n ≤ c) (hI : -9223372036854775808 ≤ I ∧ I < 9223372036854775808) (hK : -9223372036854775808 ≤ K ∧ K < 9223372036854775808) :
    Calls Try.prog 4 #[.agg (cCells S ao n c I K).toArray] w fun e w' => e = .returned (.bool true) ∧ Below w.heap.size w w' := by
  have HS : Hid (S.length = 16 ∧ Bytes S ∧ Seen w ao n m ∧ m.length = n) := ⟨hS, hSb, hx, hx.len⟩
  have ht := hx.top
  clear hS hSb hx
  go_enter Try.func4, Try.ntmps4
  go_wp2_with (first | (refine wpList_box_new rfl 33 (.tmp 0) rfl (cCells S ao n c I K) rfl ?_; intro w1 b1 s1 l1) | (go_at_call 8; refine (works_any _).mono ?_; rintro e w2 ⟨rfl, l2⟩) | (refine wpList_alloc_new rfl 23 rfl 32 _ zeroKey' ?_; intro w3 b3 s3 l3; have cz : w3.cell? ⟨w2.heap.size, 0, none⟩ = some (.int .u8 0) := b3.cell 0; have fz := b3.frozen 0))
  obtain ⟨G, hG⟩ : ∃ G, w2.heap.size = G := ⟨_, rfl⟩
  rw [hG] at b3 l3 cz fz ⊢
  have HB : Hid (Blk (w3.setCell ⟨G, 0, none⟩ (.int .u8 1)) G 23 (u8s ((1 :: zs0 15) ++ (S.take 0 ++ zs0 16))) ∧ Blk (w3.setCell ⟨G, 0, none⟩ (.int .u8 1)) w.heap.size 33 (cCells S ao n c I K) ∧ Below w.heap.size w (w3.setCell ⟨G, 0, none⟩ (.int .u8 1)) ∧ w.heap.size < G) := by
    have q2 := l2.size
    have kk := (Kept.refl (fun x => x = G) w3).setCell (p := ⟨G, 0, none⟩) rfl (.int .u8 1)
    refine ⟨b3.set 0 (.int .u8 1), ((b1.later l2 (by omega)).later l3 (by omega)).kept kk (by omega), below_kept (below_chain (below_chain l1 l2 (by omega)) (hG ▸ l3) (by omega)) kk (by omega) (fun j hj => by omega), by omega⟩
  obtain ⟨w4, hw4⟩ : ∃ W, w3.setCell ⟨G, 0, none⟩ (.int .u8 1) = W := ⟨_, rfl⟩
  rw [hw4] at HB ⊢
  clear b1 s1 l1 l2 b3 s3 l3 cz fz hw4 hG
  go_loopw [4] (fun i wr => ∃ k : Nat, k ≤ 16 ∧ i = .int .i64 k ∧ Blk wr G 23 (u8s ((1 :: zs0 15) ++ (S.take k ++ zs0 (16 - k)))) ∧ Kept (fun x => x = G) w4 wr) (fun i _ => 16 - (intOf i).toNat)
  case atStart => exact ⟨0, by omega, rfl, HB.out.1, Kept.refl _ _⟩
  case round =>
    obtain ⟨k, hk, rfl, hblk, hkp⟩ := hrel
    by_cases hlt : k < 16
    · have ca : wr.cell? ⟨w.heap.size, k, none⟩ = some (.int .u8 (S.getD k 0)) := ((HB.out.2.1.kept hkp (by have := HB.out.2.2.2; omega)).cell k).trans (cCells_S S ao n c I K k (by rw [HS.out.1]; exact hlt))
      have hkl : ((1 :: zs0 15) ++ (S.take k ++ zs0 (16 - k)) : List Int).length = 32 := by
        have e3 : (1 :: zs0 15 : List Int).length = 16 := rfl
        rw [List.length_append, List.length_append, e3, List.length_take, HS.out.1, zs0_length]; omega
      have cg := u8s_cell hblk (16 + k) (by rw [hkl]; omega)
      have fg := hblk.frozen (16 + k)
      have HQ : Hid (Blk wr G 23 (u8s ((1 :: zs0 15) ++ (S.take k ++ zs0 (16 - k)))) ∧ Kept (fun x => x = G) w4 wr ∧ ((1 :: zs0 15) ++ (S.take k ++ zs0 (16 - k)) : List Int).set (16 + k) (S.getD k 0) = (1 :: zs0 15) ++ (S.take (k + 1) ++ zs0 (16 - (k + 1)))) := ⟨hblk, hkp, key_set S k hlt HS.out.1⟩
      obtain ⟨z, hz⟩ : ∃ z, S.getD k 0 = z := ⟨_, rfl⟩
      obtain ⟨z0, hz0⟩ : ∃ z, ((1 :: zs0 15) ++ (S.take k ++ zs0 (16 - k)) : List Int).getD (16 + k) 0 = z := ⟨_, rfl⟩
      rw [hz] at ca HQ
      rw [hz0] at cg
      have i1 : (k : Int) < 16 := by omega
      have i3 : (0 : Int) ≤ (k : Int) := by omega
      clear hblk hkp hz hz0 hkl
      go_wp2_with fail
      go_roundw
      case rel =>
        have R := HQ.out.1.set (16 + k) (.int .u8 z)
        rw [u8s_set, HQ.out.2.2] at R
        exact ⟨k + 1, by omega, by go_num, R, HQ.out.2.1.setCell rfl _⟩
      case measure => simp [intOf]; omega
    · obtain rfl : k = 16 := by omega
      obtain ⟨Q, hQ⟩ : ∃ z, oneKey S = z := ⟨_, rfl⟩
      have X0 : Hid (Blk wr G 23 (u8s Q) ∧ Blk wr w.heap.size 33 (cCells S ao n c I K) ∧ Below w.heap.size w wr ∧ w.heap.size < G ∧ Q.length = 32 ∧ Bytes Q ∧ oneKey S = Q) := by
        have e1 : (1 :: zs0 15) ++ (S.take 16 ++ zs0 (16 - 16)) = Q := by rw [← hQ, oneKey, List.take_of_length_le (by rw [HS.out.1]; omega)]; simp [zs0]
        rw [e1] at hblk
        refine ⟨hblk, HB.out.2.1.kept hkp (by have := HB.out.2.2.2; omega), below_kept HB.out.2.2.1 hkp HB.out.2.2.1.size (fun j hj => by have := HB.out.2.2.2; omega), HB.out.2.2.2, ?_, ?_, hQ⟩
        · rw [← hQ, oneKey, List.length_append, HS.out.1]; rfl
        · rw [← hQ]
          exact bytes_app (fun z hz => by rcases List.mem_cons.1 hz with rfl | h; decide; exact zs0_bytes _ z h) HS.out.2.1
      have HU : Hid ((Try.prog.info? 23).map (·.size) = some (u8s Q).length) := by show _ = _; rw [u8s_length, X0.out.2.2.2.2.1]; exact sizeKey
      obtain ⟨N, hN⟩ : ∃ N, n / 16 = N := ⟨_, rfl⟩
      have n1 : (n : Int).tdiv 16 = (N : Int) := by rw [Int.tdiv_eq_ediv_of_nonneg (by omega)]; omega
      have n2 : (n : Int) / 16 = (N : Int) := by omega
      have hN16 : 16 * N ≤ n := by omega
      have hsl : ∀ W, (Instr.sliceAt 24 (.slice ao n c) none (some (.int .i64 (16 * (N : Int)))) none).run Try.prog W = .ok (.slice (subA ao 0 c) (16 * N) c) W := fun W => by
        have := sl_h ao n c (16 * N) (by omega) W
        simpa using this
      obtain ⟨a, ha⟩ : ∃ a, m.take (16 * N) = a := ⟨_, rfl⟩
      have hal : a.length = 16 * N := by rw [← ha, List.length_take, HS.out.2.2.2]; omega
      have HA : Hid (Seen wr (subA ao 0 c) (16 * N) a ∧ Bytes a ∧ a.length = 16 * N ∧ a.length ≤ 140737488355328) := by
        have q := (HS.out.2.2.1.later X0.out.2.2.1 (Nat.le_refl _)).sub 0 (16 * N) c (by omega) hN16 hc
        rw [Nat.sub_zero, List.drop_zero, ha] at q
        exact ⟨q, q.bytes, hal, by omega⟩
      have c16 : wr.cell? ⟨w.heap.size, 16, none⟩ = some (.slice ao n c) := (X0.out.2.1.cell 16).trans (cCells_M S ao n c I K HS.out.1).1
      have hN43 : N ≤ 8796093022208 := by omega
      clear hblk hkp hN ha hal hQ
      go_wp2_with fail
      refine (copyB_any (subA ao 0 c) (16 * N) c a _ HA.out.1).mono ?_
      rintro e w5 ⟨v5, rfl, o5, l5⟩
      rw [← HA.out.2.2.1] at o5
      obtain ⟨va, ca, rfl, s5, hca, hva1, hva2, hva3⟩ := own_data HA.out.2.1 HA.out.2.2.2 o5
      have X5 : Hid (Blk w5 G 23 (u8s Q) ∧ Blk w5 w.heap.size 33 (cCells S ao n c I K) ∧ Below w.heap.size w w5 ∧ Seen w5 va a.length a ∧ a.length ≤ ca) := ⟨X0.out.1.later l5 X0.out.1.lt, X0.out.2.1.later l5 X0.out.2.1.lt, below_chain X0.out.2.2.1 l5 X0.out.2.2.1.size, s5, hca⟩
      clear o5 l5 s5 hca hva1 hva2 hva3
      go_wp2_with fail
      refine (copyB_any va a.length ca a _ X5.out.2.2.2.1).mono ?_
      rintro e w6 ⟨v6, rfl, o6, l6⟩
      obtain ⟨vb, cb, rfl, s6, hcb, hvb1, hb6, hvb3⟩ := own_data HA.out.2.1 HA.out.2.2.2 o6
      have X6 : Hid (Blk w6 G 23 (u8s Q) ∧ Blk w6 w.heap.size 33 (cCells S ao n c I K) ∧ Below w.heap.size w w6 ∧ Seen w6 va a.length a ∧ a.length ≤ ca ∧ Seen w6 vb a.length a ∧ a.length ≤ cb ∧ (∀ b o, vb = some ⟨b, o, none⟩ → w5.heap.size ≤ b ∧ o = 0 ∧ RowAt w6 b a)) := ⟨X5.out.1.later l6 X5.out.1.lt, X5.out.2.1.later l6 X5.out.2.1.lt, below_chain X5.out.2.2.1 l6 X5.out.2.2.1.size, X5.out.2.2.2.1.later l6 (Nat.le_refl _), X5.out.2.2.2.2, s6, hcb, fun b o e => ⟨(hb6 b o e).1, (hb6 b o e).2.2.1, (hb6 b o e).2.2.2⟩⟩
      have X5s : Hid (G < w5.heap.size ∧ w.heap.size < w5.heap.size ∧ ∀ b o, 0 < a.length → va = some ⟨b, o, none⟩ → b < w5.heap.size) := ⟨X5.out.1.lt, X5.out.2.1.lt, X5.out.2.2.2.1.old (Nat.le_refl _)⟩
      clear o6 l6 s6 hcb hb6 X5 hvb1 hvb3
      by_cases hN0 : 0 < N
      · have i0 : (0 : Int) < (N : Int) := by omega
        have c17 : w6.cell? ⟨w.heap.size, 17, none⟩ = some (.int .i64 I) := (X6.out.2.1.cell 17).trans (cCells_M S ao n c I K HS.out.1).2.1
        have c18 : w6.cell? ⟨w.heap.size, 18, none⟩ = some (.int .i64 K) := (X6.out.2.1.cell 18).trans (cCells_M S ao n c I K HS.out.1).2.2
        obtain ⟨ba, oa, rfl, hba, hcela⟩ := X6.out.2.2.2.1.cells (by rw [HA.out.2.2.1]; omega)
        obtain ⟨B, oB, rfl, hbB, hcB⟩ := X6.out.2.2.2.2.2.1.cells (by rw [HA.out.2.2.1]; omega)
        obtain ⟨hB5, rfl, hrow⟩ := X6.out.2.2.2.2.2.2.2 B oB rfl
        have hba5 := X5s.out.2.2 ba oa (by rw [HA.out.2.2.1]; omega) rfl
        have HR : Hid (RowAt w6 B a ∧ (∀ i, i < a.length → w6.cell? ⟨ba, oa + i, none⟩ = some (.int .u8 (a.getD i 0))) ∧ ba ≠ B ∧ ba < w6.heap.size ∧ G ≠ B ∧ w.heap.size ≠ B ∧ w.heap.size < w5.heap.size ∧ w5.heap.size ≤ B ∧ a.length = 16 * N) := ⟨hrow, hcela, by omega, hba, by have := X5s.out.1; omega, by have := X5s.out.2.1; omega, X5s.out.2.1, hB5, HA.out.2.2.1⟩
        clear hba hcela hbB hB5 hrow hba5 hcB
        go_wp2_with fail
        refine (within_any I N hN0 (by omega) _).mono ?_
        rintro e w' ⟨X, hX, rfl, rfl⟩
        have hx16 : 16 * (X : Int) = ((16 * X : Nat) : Int) := by omega
        obtain ⟨x, hx⟩ : ∃ x, 16 * X = x := ⟨_, rfl⟩
        rw [hx] at hx16
        go_wp2_with fail
        refine (within_any K N hN0 (by omega) _).mono ?_
        rintro e w' ⟨Y, hY, rfl, rfl⟩
        have hy16 : 16 * (Y : Int) = ((16 * Y : Nat) : Int) := by omega
        obtain ⟨y, hy⟩ : ∃ y, 16 * Y = y := ⟨_, rfl⟩
        rw [hy] at hy16
        go_wp2_with fail
        have HXY : Hid (16 * X = x ∧ 16 * Y = y ∧ X < N ∧ Y < N) := ⟨hx, hy, hX, hY⟩
        have hxL : x + 16 ≤ a.length := by rw [HR.out.2.2.2.2.2.2.2.2]; omega
        have hyL : y + 16 ≤ a.length := by rw [HR.out.2.2.2.2.2.2.2.2]; omega
        clear hx hy hX hY hx16 hy16
        go_loopw [10] (fun i wr => ∃ k : Nat, k ≤ 16 ∧ i = .int .i64 k ∧ RowAt wr B (swapL a x y k) ∧ Kept (fun z => z = B) w6 wr) (fun i _ => 16 - (intOf i).toNat)
        case atStart => exact ⟨0, by omega, rfl, by rw [swapL_zero]; exact HR.out.1, Kept.refl _ _⟩
        case round =>
          obtain ⟨k, hk, rfl, hrow, hkp⟩ := hrel
          by_cases hlt : k < 16
          · have c1 := (hkp.cell (p := ⟨ba, oa + (y + k), none⟩) HR.out.2.2.2.1 HR.out.2.2.1).trans (HR.out.2.1 (y + k) (by omega))
            have c2 := (hkp.cell (p := ⟨ba, oa + (x + k), none⟩) HR.out.2.2.2.1 HR.out.2.2.1).trans (HR.out.2.1 (x + k) (by omega))
            have d1 := hrow.cell (x + k) (by rw [swapL_length]; omega)
            have f1 := hrow.frozen (x + k)
            have HQ : Hid (RowAt wr B (swapL a x y k) ∧ Kept (fun z => z = B) w6 wr ∧ ((swapL a x y k).set (x + k) (a.getD (y + k) 0)).set (y + k) (a.getD (x + k) 0) = swapL a x y (k + 1)) := ⟨hrow, hkp, by
              have := swapL_succ a X Y k hlt (by rw [HXY.out.1]; omega) (by rw [HXY.out.2.1]; omega)
              rw [HXY.out.1, HXY.out.2.1] at this
              exact this⟩
            obtain ⟨p1, hp1⟩ : ∃ z, a.getD (y + k) 0 = z := ⟨_, rfl⟩
            obtain ⟨p2, hp2⟩ : ∃ z, a.getD (x + k) 0 = z := ⟨_, rfl⟩
            rw [hp1] at c1 HQ
            rw [hp2] at c2 HQ
            have R1 := HQ.out.1.set (x + k) (by rw [swapL_length]; omega) p1
            have d2 := R1.cell (y + k) (by rw [List.length_set, swapL_length]; omega)
            have f2 := R1.frozen (y + k)
            have e2 : (wr.setCell ⟨B, x + k, none⟩ (.int .u8 p1)).cell? ⟨ba, oa + (x + k), none⟩ = some (.int .u8 p2) := by
              rw [World.cell?_of_block (w := wr) (Below.heap_setCell _ _ _ _ (fun e => HR.out.2.2.1 e))]; exact c2
            have i1 : (k : Int) < 16 := by omega
            have i3 : (0 : Int) ≤ (k : Int) := by omega
            have ha47 : a.length ≤ 140737488355328 := HA.out.2.2.2
            have j1 : (x : Int) + (k : Int) < (a.length : Int) := by omega
            have j2 : (y : Int) + (k : Int) < (a.length : Int) := by omega
            have HR1 : Hid (RowAt (wr.setCell ⟨B, x + k, none⟩ (.int .u8 p1)) B ((swapL a x y k).set (x + k) p1)) := R1
            clear hrow hkp hp1 hp2 R1
            go_wp2_with fail
            go_roundw
            case rel =>
              have R2 := HR1.out.set (y + k) (by rw [List.length_set, swapL_length]; omega) p2
              rw [HQ.out.2.2] at R2
              exact ⟨k + 1, by omega, by go_num, R2, (HQ.out.2.1.setCell rfl _).setCell rfl _⟩
            case measure => simp [intOf]; omega
          · obtain rfl : k = 16 := by omega
            have hord := order_tag S a N X Y HR.out.2.2.2.2.2.2.2.2 HXY.out.2.2.1 HXY.out.2.2.2
            rw [HXY.out.1, HXY.out.2.1] at hord
            obtain ⟨b, hb'⟩ : ∃ b, swapL a x y 16 = b := ⟨_, rfl⟩
            have hbl : b.length = a.length := by rw [← hb', swapL_length]
            have hbb : Bytes b := by rw [← hb']; exact swapL_bytes a HA.out.2.1 x y 16
            rw [hb'] at hrow hord
            have Z : Hid (Blk wr G 23 (u8s Q) ∧ Below w.heap.size w wr ∧ Seen wr (some ⟨ba, oa, none⟩) a.length a ∧ a.length ≤ ca ∧ Seen wr (some ⟨B, 0, none⟩) a.length b ∧ a.length ≤ cb) := by
              refine ⟨X6.out.1.kept hkp HR.out.2.2.2.2.1, below_kept X6.out.2.2.1 hkp X6.out.2.2.1.size (fun j hj => by have := HR.out.2.2.2.2.2.2; omega), X6.out.2.2.2.1.kept hkp (fun b' o' _ e => by cases e; exact HR.out.2.2.1), X6.out.2.2.2.2.1, ?_, X6.out.2.2.2.2.2.2.1⟩
              have q := Seen.of_row (n := a.length) hrow (by omega) HA.out.2.2.2 hbb
              rwa [List.take_of_length_le (by omega)] at q
            have HT : Hid (tagB Q a = tagB Q b) := by show _ = _; rw [← X0.out.2.2.2.2.2.2]; exact hord
            clear hrow hkp hord hb' hbl
            go_wp2_with fail
            try simp only [Act.put, List.setIfInBounds_toArray, List.set_cons_zero, List.set_cons_succ]
            obtain ⟨A, hA⟩ : ∃ z, tagB Q a = z := ⟨_, rfl⟩
            have HAA : Hid (tagB Q a = A ∧ tagB Q b = A ∧ A.length = 16) := ⟨hA, by rw [← HT.out]; exact hA, by rw [← hA]; exact tagB_length _ _⟩
            have hq : ∀ W, (Op.equalIn 10000 26 (.agg (u8s A).toArray) (.agg (u8s A).toArray)).run Try.prog W = .ok true W := equal_self 9998 A HAA.out.2.2
            clear hA
            refine region_inv [.val (.agg (u8s Q).toArray), .val (.slice (some ⟨ba, oa, none⟩) a.length ca), .any (isP 1 [a]) (isP_later _ _), .val (.agg (u8s A).toArray), .val (.agg (u8s Q).toArray), .val (.slice (some ⟨B, 0, none⟩) a.length cb), .any (isP 1 [b]) (isP_later _ _), .val (.agg (u8s A).toArray), .val (.bool true)] (by kernel_rfl) (by kernel_rfl) (by kernel_rfl) ?_ ?_
            · refine Steps'.cons ?_ (Steps'.cons ?_ (Steps'.cons ?_ (Steps'.cons ?_ (Steps'.cons ?_ (Steps'.cons ?_ (Steps'.cons ?_ (Steps'.cons ?_ (Steps'.cons ?_ (Steps'.one _ _ _ _ _ _ _)))))))))
              · intro ax wx hb hs hd
                have h3 : ax.tmps.getD 3 undef = (.pointer (some ⟨G, 0, none⟩)) := hs 3 (by kernel_rfl)
                exact Does.load 23 (.tmp 3) rfl G 0 h3 (u8s Q) _ ((Blk.later Z.out.1 hb (Blk.lt Z.out.1)).whole) Try.underlying23 rfl HU.out
              · intro ax wx hb hs hd
                have h6 : ax.tmps.getD 6 undef = (.slice (some ⟨ba, oa, none⟩) a.length ca) := hs 6 (by kernel_rfl)
                refine Does.value (.slice (some ⟨ba, oa, none⟩) a.length ca) ?_ rfl
                go_simp
              · intro ax wx hb hs hd
                have h76 : ax.tmps.getD 76 undef = (.slice (some ⟨ba, oa, none⟩) a.length ca) := hd 1 76 rfl (by kernel_rfl) (by decide)
                exact Does.rows1 _ rfl (some ⟨ba, oa, none⟩) a.length ca a (by simp only [List.map_toArray, List.map_cons, List.map_nil, Act.eval, h76]) (Z.out.2.2.1.later hb (Nat.le_refl _)) Z.out.2.2.2.1
              · intro ax wx hb hs hd
                have h75 : ax.tmps.getD 75 undef = (.agg (u8s Q).toArray) := hd 0 75 rfl (by kernel_rfl) (by decide)
                obtain ⟨bb, cc, h77, s2⟩ : isP 1 [a] (ax.tmps.getD 77 undef) wx := hd 2 77 rfl (by kernel_rfl) (by decide)
                refine Does.call 5 #[(.agg (u8s Q).toArray), .slice (some ⟨bb, 0, none⟩) 1 cc] (by go_simp) ?_
                have q := tsum_any Q X0.out.2.2.2.2.1 X0.out.2.2.2.2.2.1 _ 1 cc _ wx s2 (by decide)
                rw [show ([a] : List (List Int)).flatten = a by simp, HAA.out.1] at q
                refine q.mono ?_
                rintro e w' ⟨rfl, l⟩
                exact ⟨_, rfl, rfl, l⟩
              · intro ax wx hb hs hd
                have h3 : ax.tmps.getD 3 undef = (.pointer (some ⟨G, 0, none⟩)) := hs 3 (by kernel_rfl)
                exact Does.load 23 (.tmp 3) rfl G 0 h3 (u8s Q) _ ((Blk.later Z.out.1 hb (Blk.lt Z.out.1)).whole) Try.underlying23 rfl HU.out
              · intro ax wx hb hs hd
                have h7 : ax.tmps.getD 7 undef = (.slice (some ⟨B, 0, none⟩) a.length cb) := hs 7 (by kernel_rfl)
                refine Does.value (.slice (some ⟨B, 0, none⟩) a.length cb) ?_ rfl
                go_simp
              · intro ax wx hb hs hd
                have h80 : ax.tmps.getD 80 undef = (.slice (some ⟨B, 0, none⟩) a.length cb) := hd 5 80 rfl (by kernel_rfl) (by decide)
                exact Does.rows1 _ rfl (some ⟨B, 0, none⟩) a.length cb b (by simp only [List.map_toArray, List.map_cons, List.map_nil, Act.eval, h80]) (Z.out.2.2.2.2.1.later hb (Nat.le_refl _)) Z.out.2.2.2.2.2
              · intro ax wx hb hs hd
                have h79 : ax.tmps.getD 79 undef = (.agg (u8s Q).toArray) := hd 4 79 rfl (by kernel_rfl) (by decide)
                obtain ⟨bb, cc, h81, s2⟩ : isP 1 [b] (ax.tmps.getD 81 undef) wx := hd 6 81 rfl (by kernel_rfl) (by decide)
                refine Does.call 5 #[(.agg (u8s Q).toArray), .slice (some ⟨bb, 0, none⟩) 1 cc] (by go_simp) ?_
                have q := tsum_any Q X0.out.2.2.2.2.1 X0.out.2.2.2.2.2.1 _ 1 cc _ wx s2 (by decide)
                rw [show ([b] : List (List Int)).flatten = b by simp, HAA.out.2.1] at q
                refine q.mono ?_
                rintro e w' ⟨rfl, l⟩
                exact ⟨_, rfl, rfl, l⟩
              · intro ax wx hb hs hd
                have h78 : ax.tmps.getD 78 undef = (.agg (u8s A).toArray) := hd 3 78 rfl (by kernel_rfl) (by decide)
                have h82 : ax.tmps.getD 82 undef = (.agg (u8s A).toArray) := hd 7 82 rfl (by kernel_rfl) (by decide)
                refine Does.value _ ?_ rfl
                go_simp
            · intro wx hb
              refine @Ends.val _ _ _ _ _ _ _ _ _ (.agg (u8s Q).toArray) rfl ?_
              refine @Ends.val _ _ _ _ _ _ _ _ _ (.slice (some ⟨ba, oa, none⟩) a.length ca) rfl ?_
              refine @Ends.any _ _ _ _ _ _ _ _ _ (isP 1 [a]) (isP_later _ _) rfl ?_
              intro v2 p2
              refine @Ends.val _ _ _ _ _ _ _ _ _ (.agg (u8s A).toArray) rfl ?_
              refine @Ends.val _ _ _ _ _ _ _ _ _ (.agg (u8s Q).toArray) rfl ?_
              refine @Ends.val _ _ _ _ _ _ _ _ _ (.slice (some ⟨B, 0, none⟩) a.length cb) rfl ?_
              refine @Ends.any _ _ _ _ _ _ _ _ _ (isP 1 [b]) (isP_later _ _) rfl ?_
              intro v6 p6
              refine @Ends.val _ _ _ _ _ _ _ _ _ (.agg (u8s A).toArray) rfl ?_
              refine @Ends.val _ _ _ _ _ _ _ _ _ (.bool true) rfl ?_
              refine @Ends.one _ _ _ _ _ _ _ ?_
              simp only [Act.put, List.setIfInBounds_toArray, List.set_cons_zero, List.set_cons_succ]
              refine last_assign (.tmp 83) rfl (some 2) rfl _ rfl ?_
              simp only [Act.put, List.setIfInBounds_toArray, List.set_cons_zero, List.set_cons_succ]
              have XB : Hid (Below w.heap.size w wx) := below_chain Z.out.2.1 hb Z.out.2.1.size
              clear hb
              go_wp2_with fail
              go_ret
              exact ⟨rfl, XB.out⟩
      · obtain rfl : N = 0 := by omega
        have i0 : ¬ (0 : Int) < ((0 : Nat) : Int) := by omega
        have Z : Hid (Blk w6 G 23 (u8s Q) ∧ Below w.heap.size w w6 ∧ Seen w6 va a.length a ∧ a.length ≤ ca ∧ Seen w6 vb a.length a ∧ a.length ≤ cb) := ⟨X6.out.1, X6.out.2.2.1, X6.out.2.2.2.1, X6.out.2.2.2.2.1, X6.out.2.2.2.2.2.1, X6.out.2.2.2.2.2.2.1⟩
        go_wp2_with fail
        try simp only [Act.put, List.setIfInBounds_toArray, List.set_cons_zero, List.set_cons_succ]
        obtain ⟨A, hA⟩ : ∃ z, tagB Q a = z := ⟨_, rfl⟩
        have HAA : Hid (tagB Q a = A ∧ tagB Q a = A ∧ A.length = 16) := ⟨hA, hA, by rw [← hA]; exact tagB_length _ _⟩
        have hq : ∀ W, (Op.equalIn 10000 26 (.agg (u8s A).toArray) (.agg (u8s A).toArray)).run Try.prog W = .ok true W := equal_self 9998 A HAA.out.2.2
        clear hA
        refine region_inv [.val (.agg (u8s Q).toArray), .val (.slice va a.length ca), .any (isP 1 [a]) (isP_later _ _), .val (.agg (u8s A).toArray), .val (.agg (u8s Q).toArray), .val (.slice vb a.length cb), .any (isP 1 [a]) (isP_later _ _), .val (.agg (u8s A).toArray), .val (.bool true)] (by kernel_rfl) (by kernel_rfl) (by kernel_rfl) ?_ ?_
        · refine Steps'.cons ?_ (Steps'.cons ?_ (Steps'.cons ?_ (Steps'.cons ?_ (Steps'.cons ?_ (Steps'.cons ?_ (Steps'.cons ?_ (Steps'.cons ?_ (Steps'.cons ?_ (Steps'.one _ _ _ _ _ _ _)))))))))
          · intro ax wx hb hs hd
            have h3 : ax.tmps.getD 3 undef = (.pointer (some ⟨G, 0, none⟩)) := hs 3 (by kernel_rfl)
            exact Does.load 23 (.tmp 3) rfl G 0 h3 (u8s Q) _ ((Blk.later Z.out.1 hb (Blk.lt Z.out.1)).whole) Try.underlying23 rfl HU.out
          · intro ax wx hb hs hd
            have h6 : ax.tmps.getD 6 undef = (.slice va a.length ca) := hs 6 (by kernel_rfl)
            refine Does.value (.slice va a.length ca) ?_ rfl
            go_simp
          · intro ax wx hb hs hd
            have h76 : ax.tmps.getD 76 undef = (.slice va a.length ca) := hd 1 76 rfl (by kernel_rfl) (by decide)
            exact Does.rows1 _ rfl va a.length ca a (by simp only [List.map_toArray, List.map_cons, List.map_nil, Act.eval, h76]) (Z.out.2.2.1.later hb (Nat.le_refl _)) Z.out.2.2.2.1
          · intro ax wx hb hs hd
            have h75 : ax.tmps.getD 75 undef = (.agg (u8s Q).toArray) := hd 0 75 rfl (by kernel_rfl) (by decide)
            obtain ⟨bb, cc, h77, s2⟩ : isP 1 [a] (ax.tmps.getD 77 undef) wx := hd 2 77 rfl (by kernel_rfl) (by decide)
            refine Does.call 5 #[(.agg (u8s Q).toArray), .slice (some ⟨bb, 0, none⟩) 1 cc] (by go_simp) ?_
            have q := tsum_any Q X0.out.2.2.2.2.1 X0.out.2.2.2.2.2.1 _ 1 cc _ wx s2 (by decide)
            rw [show ([a] : List (List Int)).flatten = a by simp, HAA.out.1] at q
            refine q.mono ?_
            rintro e w' ⟨rfl, l⟩
            exact ⟨_, rfl, rfl, l⟩
          · intro ax wx hb hs hd
            have h3 : ax.tmps.getD 3 undef = (.pointer (some ⟨G, 0, none⟩)) := hs 3 (by kernel_rfl)
            exact Does.load 23 (.tmp 3) rfl G 0 h3 (u8s Q) _ ((Blk.later Z.out.1 hb (Blk.lt Z.out.1)).whole) Try.underlying23 rfl HU.out
          · intro ax wx hb hs hd
            have h7 : ax.tmps.getD 7 undef = (.slice vb a.length cb) := hs 7 (by kernel_rfl)
            refine Does.value (.slice vb a.length cb) ?_ rfl
            go_simp
          · intro ax wx hb hs hd
            have h80 : ax.tmps.getD 80 undef = (.slice vb a.length cb) := hd 5 80 rfl (by kernel_rfl) (by decide)
            exact Does.rows1 _ rfl vb a.length cb a (by simp only [List.map_toArray, List.map_cons, List.map_nil, Act.eval, h80]) (Z.out.2.2.2.2.1.later hb (Nat.le_refl _)) Z.out.2.2.2.2.2
          · intro ax wx hb hs hd
            have h79 : ax.tmps.getD 79 undef = (.agg (u8s Q).toArray) := hd 4 79 rfl (by kernel_rfl) (by decide)
            obtain ⟨bb, cc, h81, s2⟩ : isP 1 [a] (ax.tmps.getD 81 undef) wx := hd 6 81 rfl (by kernel_rfl) (by decide)
            refine Does.call 5 #[(.agg (u8s Q).toArray), .slice (some ⟨bb, 0, none⟩) 1 cc] (by go_simp) ?_
            have q := tsum_any Q X0.out.2.2.2.2.1 X0.out.2.2.2.2.2.1 _ 1 cc _ wx s2 (by decide)
            rw [show ([a] : List (List Int)).flatten = a by simp, HAA.out.2.1] at q
            refine q.mono ?_
            rintro e w' ⟨rfl, l⟩
            exact ⟨_, rfl, rfl, l⟩
          · intro ax wx hb hs hd
            have h78 : ax.tmps.getD 78 undef = (.agg (u8s A).toArray) := hd 3 78 rfl (by kernel_rfl) (by decide)
            have h82 : ax.tmps.getD 82 undef = (.agg (u8s A).toArray) := hd 7 82 rfl (by kernel_rfl) (by decide)
            refine Does.value _ ?_ rfl
            go_simp
        · intro wx hb
          refine @Ends.val _ _ _ _ _ _ _ _ _ (.agg (u8s Q).toArray) rfl ?_
          refine @Ends.val _ _ _ _ _ _ _ _ _ (.slice va a.length ca) rfl ?_
          refine @Ends.any _ _ _ _ _ _ _ _ _ (isP 1 [a]) (isP_later _ _) rfl ?_
          intro v2 p2
          refine @Ends.val _ _ _ _ _ _ _ _ _ (.agg (u8s A).toArray) rfl ?_
          refine @Ends.val _ _ _ _ _ _ _ _ _ (.agg (u8s Q).toArray) rfl ?_
          refine @Ends.val _ _ _ _ _ _ _ _ _ (.slice vb a.length cb) rfl ?_
          refine @Ends.any _ _ _ _ _ _ _ _ _ (isP 1 [a]) (isP_later _ _) rfl ?_
          intro v6 p6
          refine @Ends.val _ _ _ _ _ _ _ _ _ (.agg (u8s A).toArray) rfl ?_
          refine @Ends.val _ _ _ _ _ _ _ _ _ (.bool true) rfl ?_
          refine @Ends.one _ _ _ _ _ _ _ ?_
          simp only [Act.put, List.setIfInBounds_toArray, List.set_cons_zero, List.set_cons_succ]
          refine last_assign (.tmp 83) rfl (some 2) rfl _ rfl ?_
          simp only [Act.put, List.setIfInBounds_toArray, List.set_cons_zero, List.set_cons_succ]
          have XB : Hid (Below w.heap.size w wx) := below_chain Z.out.2.1 hb Z.out.2.1.size
          clear hb
          go_wp2_with fail
          go_ret
          exact ⟨rfl, XB.out⟩
end Go.Proofs.Ytdnfkkndfdbefab
