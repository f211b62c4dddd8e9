/- The document's digest (trystref03): Sum; and that it is the program's. -/
import Derived.Test.YtiimjhahblmggaaDoorRDRound
import Derived.Test.YtiimjhahblmggaaDoorRDPad
namespace Go.Proofs.YtiimjhahblmggaaDoor
open Go.RowKit
set_option linter.unusedVariables false
set_option linter.unusedSimpArgs false

theorem set_rest (r : List Int) (F : Nat) (hr : r.length = F) (hF : F < 64) : (r ++ zer (64 - F)).set F 128 = r ++ ([128] ++ zer (63 - F)) := by
  subst hr
  rw [List.set_append_right _ _ (Nat.le_refl _), Nat.sub_self, show 64 - r.length = (63 - r.length) + 1 by omega]
  rfl
/-- The words behind all blocks of the padded bytes are those behind the padding. -/
theorem pad_comp (zs : List Int) : comp (padL zs) ((padL zs).length / 64) = padF (comp zs (zs.length / 64)) (openB zs) zs.length (zs.length % 64) := by
  obtain ⟨E, hE⟩ : ∃ E, be8 (IntKind.u64.wrap (8 * (zs.length : Int))) = E := ⟨_, rfl⟩
  have hEl : E.length = 8 := by rw [← hE]; exact be8_length _
  have hlen := padL_length zs
  have hrest := rest_length zs
  obtain ⟨r, hr⟩ : ∃ r, zs.drop (64 * (zs.length / 64)) = r := ⟨_, rfl⟩
  obtain ⟨F, hF⟩ : ∃ F, zs.length % 64 = F := ⟨_, rfl⟩
  obtain ⟨q, hq⟩ : ∃ q, zs.length / 64 = q := ⟨_, rfl⟩
  have hP : padL zs = zs ++ ([128] ++ zer (padZ zs.length) ++ E) := by rw [padL, hE]; simp
  have hd : (padL zs).drop (64 * q) = r ++ ([128] ++ zer (padZ zs.length) ++ E) := by rw [hP, List.drop_append_of_le_length (by omega), ← hq, hr]
  have hc : comp (padL zs) q = comp zs q := by rw [hP]; exact comp_app _ _ _ (by omega)
  have ho : (openB zs).set F 128 = r ++ ([128] ++ zer (63 - F)) := by
    rw [openB, hr, hF]
    exact set_rest r F (by rw [← hr, hrest, hF]) (by omega)
  have hrl : r.length = F := by rw [← hr, hrest, hF]
  rw [hF, hq, padF, ho, hE]
  by_cases h : 56 ≤ F
  · have hz : padZ zs.length = (63 - F) + 56 := by unfold padZ; omega
    rw [if_pos h, show (padL zs).length / 64 = q + 1 + 1 by rw [hlen, hz]; omega, comp, comp, hc, hd]
    have e1 : (r ++ ([128] ++ zer (padZ zs.length) ++ E)) = (r ++ ([128] ++ zer (63 - F))) ++ (zer 56 ++ E) := by rw [hz, zer_add]; simp
    have e2 : (r ++ ([128] ++ zer (63 - F))).length = 64 := by simp [zer_length]; omega
    have e3 : (padL zs).drop (64 * (q + 1)) = zer 56 ++ E := by
      rw [show 64 * (q + 1) = 64 * q + 64 by omega, ← List.drop_drop, hd, e1, List.drop_append_of_le_length (by omega), List.drop_eq_nil_of_le (by omega), List.nil_append]
    rw [e3, e1, List.take_append_of_le_length (by omega), List.take_of_length_le (by omega), List.take_of_length_le (l := zer 56 ++ E) (by simp [zer_length, hEl])]
    rfl
  · have hz : padZ zs.length = 55 - F := by unfold padZ; omega
    rw [if_neg h, show (padL zs).length / 64 = q + 1 by rw [hlen, hz]; omega, comp, hc, hd, hz, List.take_of_length_le (by simp [zer_length, hEl]; omega)]
    congr 1
    rw [← List.append_assoc, ← List.append_assoc]
    congr 1
    rw [show 63 - F = (55 - F) + 8 by omega, zer_add, ← List.append_assoc, ← List.append_assoc, List.take_append_of_le_length (by simp [zer_length]; omega), List.take_of_length_le (by simp [zer_length]; omega)]
theorem sha_pad (zs : List Int) : sha zs = bytesF (comp (padL zs) ((padL zs).length / 64)) 32 := by rw [pad_comp, sha]
theorem comp_step (P : List Int) (j : Nat) : comp P (j + 1) = mixF (comp P j) (blockAt P (64 * j)) := rfl
set_option maxRecDepth 20000 in
set_option maxHeartbeats 2000000 in
theorem rsum_any (ao : Option Addr) (n c : Nat) (zs : List Int) (w : World) (hx : Seen w ao n zs) (hn : n ≤ 35184372088832) :
    Calls Tryd.prog 33 #[.slice ao n c] w fun e w' => e = .returned (.agg (u8s (sha zs)).toArray) ∧ Below w.heap.size w w' := by
  have HX : Hid (Seen w ao n zs ∧ Bytes zs) := ⟨hx, hx.bytes⟩
  have HQ : Hid (sha zs = bytesF (comp (padL zs) ((padL zs).length / 64)) 32 ∧ (padL zs).length % 64 = 0 ∧ (padL zs).length ≤ 35184372088960) := ⟨sha_pad zs, by rw [padL_length]; exact padZ_fits _, by rw [padL_length, hx.len]; unfold padZ; omega⟩
  obtain ⟨P, hP⟩ : ∃ P, padL zs = P := ⟨_, rfl⟩
  have HP : Hid (padL zs = P ∧ Bytes P) := ⟨hP, by rw [← hP]; exact padL_bytes _ hx.bytes⟩
  rw [hP] at HQ
  clear hx hP
  go_enter Tryd.func33, Tryd.ntmps33
  go_wp2_with (first | (refine wpList_alloc_new rfl 28 rfl 32 _ zeroAH ?_; intro w1 b1 s1 l1) | (go_at_call 41; refine (padded_any ao n c zs _ (HX.out.1.later l1 (Nat.le_refl _)) hn).mono ?_; rintro e w2 ⟨v2, rfl, o2, l2⟩; rw [HP.out.1] at o2; obtain ⟨vo, vc, rfl, s2, hvc, _, hvb, _⟩ := own_data HP.out.2 (by have := HQ.out.2.2; omega) o2; clear o2) | (go_at_call 42; refine (begin_any _).mono ?_; rintro e w3 ⟨rfl, l3⟩) | (refine wpList_alloc_new rfl 79 rfl 8 _ zero8w ?_; intro w4 b4 s4 l4) | (refine wpList_store_blk rfl 79 79 _ _ rfl _ rfl _ (u32s iv) rfl b4 rfl size8w (u32s_one _) ?_; intro w5 b5 s5 k5))
  have z2 := l2.size
  have z3 := l3.size
  have HB : Hid (Blk w5 w.heap.size 28 (u8s (zer 32)) ∧ Seen w5 vo P.length P ∧ (∀ b o, 0 < P.length → vo = some ⟨b, o, none⟩ → b ≠ w3.heap.size) ∧ Blk w5 w3.heap.size 79 (u32s (comp P 0)) ∧ Below w.heap.size w w5 ∧ w.heap.size + 1 ≤ w3.heap.size) := by
    have hne : ∀ b o, 0 < P.length → vo = some ⟨b, o, none⟩ → b ≠ w3.heap.size := fun b o _ e => by have := (hvb b o e).2.1; omega
    exact ⟨(((b1.later l2 (by omega)).later l3 (by omega)).later l4 (by omega)).kept k5 (by omega), ((s2.later l3 (Nat.le_refl _)).later l4 (Nat.le_refl _)).kept k5 hne, hne, b5, below_kept (below_chain (below_chain (below_chain l1 l2 (by omega)) l3 (by omega)) l4 (by omega)) k5 (by omega) (fun j hj => by omega), by omega⟩
  clear b1 s1 l1 l2 s2 hvb l3 b4 s4 l4 b5 s5 k5 z2 z3
  obtain ⟨N, hN⟩ : ∃ N, P.length / 64 = N := ⟨_, rfl⟩
  have hPN : P.length = 64 * N := by have := HQ.out.2.1; omega
  have HN : Hid (P.length = 64 * N ∧ P.length / 64 = N) := ⟨hPN, hN⟩
  have hPb : P.length ≤ 35184372088960 := HQ.out.2.2
  clear hN hPN
  go_loopw [5] (fun i wr => ∃ j : Nat, j ≤ N ∧ i = .int .i64 (64 * (j : Int)) ∧ Blk wr w3.heap.size 79 (u32s (comp P j)) ∧ Kept (fun b => b = w3.heap.size) w5 wr) (fun i _ => P.length - (intOf i).toNat)
  case atStart => exact ⟨0, Nat.zero_le _, rfl, HB.out.2.2.2.1, Kept.refl _ _⟩
  case round =>
    obtain ⟨j, hj, rfl, hb, hkp⟩ := hrel
    have hPN := HN.out.1
    by_cases hlt : j < N
    · have i1 : (64 * (j : Int)) < (P.length : Int) := by omega
      have e64 : (64 * (j : Int)) = ((64 * j : Nat) : Int) := by omega
      have X1 : Hid (Blk wr w3.heap.size 79 (u32s (comp P j)) ∧ Kept (fun b => b = w3.heap.size) w5 wr ∧ Seen wr vo P.length P ∧ w3.heap.size < wr.heap.size) := ⟨hb, hkp, HB.out.2.1.kept hkp HB.out.2.2.1, hb.lt⟩
      have u3 : (Tryd.prog.info? 79).map (·.size) = some (u32s (comp P j)).length := by rw [u32s_length, comp_length]; exact size8w
      have HE : Hid ((64 * (j : Int)) = ((64 * j : Nat) : Int) ∧ 64 * j + 64 ≤ P.length) := ⟨e64, by omega⟩
      clear hb hkp e64 hPN
      go_wp2_with (first | (refine wpList_load_blk rfl 79 _ rfl _ rfl (u32s (comp P j)) _ X1.out.1 Tryd.underlying79 rfl u3 ?_) | (go_at_call 43; rw [HE.out.1]; refine (rround_any (comp P j) (comp_length _ _) vo P.length vc P (64 * j) HE.out.2 _ X1.out.2.2.1).mono ?_; rintro e w6 ⟨rfl, l6⟩) | (refine wpList_store_blk rfl 79 79 _ _ rfl _ rfl _ (u32s (comp P (j + 1))) rfl (X1.out.1.later l6 X1.out.2.2.2) (by rw [u32s_length, u32s_length, comp_length, comp_length]) (by rw [u32s_length, comp_length]; exact size8w) (u32s_one _) ?_; intro w7 b7 s7 k7))
      exact ⟨⟨j + 1, by omega, by go_num, b7, (X1.out.2.1.trans (Kept.new _ l6)).trans k7⟩, by simp [intOf]; have := HE.out.2; omega⟩
    · obtain rfl : j = N := by omega
      have hst : (comp P j).length = 8 := comp_length _ _
      have X1 : Hid (Blk wr w3.heap.size 79 (u32s (comp P j)) ∧ Blk wr w.heap.size 28 (u8s (zer 32)) ∧ Below w.heap.size w wr ∧ w.heap.size + 1 ≤ w3.heap.size ∧ sha zs = bytesF (comp P j) 32) := ⟨hb, HB.out.1.kept hkp (by have := HB.out.2.2.2.2.2; omega), below_kept HB.out.2.2.2.2.1 hkp HB.out.2.2.2.2.1.size (fun j hj => by have := HB.out.2.2.2.2.2; omega), HB.out.2.2.2.2.2, by rw [HQ.out.1, HN.out.2]⟩
      obtain ⟨st, hste⟩ : ∃ st, comp P j = st := ⟨_, rfl⟩
      rw [hste] at X1 hst
      have HS : Hid (st.length = 8) := hst
      have e64 : (64 * (j : Int)) = (P.length : Int) := by omega
      rw [e64]
      clear hb hkp hPN hst hste e64
      obtain ⟨wq, rfl⟩ : ∃ wq, wq = wr := ⟨_, rfl⟩
      go_wp2_with (first | (refine wpList_alloc_new rfl 28 rfl 32 _ zeroAH ?_; intro w6 b6 s6 l6))
      have X6 : Hid (Blk w6 w3.heap.size 79 (u32s st) ∧ Blk w6 w.heap.size 28 (u8s (zer 32)) ∧ Blk w6 wq.heap.size 28 (u8s (zer 32)) ∧ Below w.heap.size w w6 ∧ w.heap.size + 1 ≤ w3.heap.size ∧ w3.heap.size < wq.heap.size) := by
        have q := X1.out.1.lt
        have q2 := X1.out.2.2.2.1
        exact ⟨X1.out.1.later l6 q, X1.out.2.1.later l6 (by omega), b6, below_chain X1.out.2.2.1 l6 X1.out.2.2.1.size, q2, q⟩
      clear b6 s6 l6
      go_loopw [7] (fun i wr => ∃ k : Nat, k ≤ 32 ∧ i = .int .i64 k ∧ Blk wr wq.heap.size 28 (u8s (bytesF st k ++ List.replicate (32 - k) 0)) ∧ Kept (fun b => b = wq.heap.size) w6 wr) (fun i _ => 32 - (intOf i).toNat)
      case atStart => exact ⟨0, by decide, rfl, X6.out.2.2.1, Kept.refl _ _⟩
      case round =>
        obtain ⟨k, hk, rfl, hb, hkp⟩ := hrel
        have o1 := X6.out.2.2.2.2.1
        have o2 := X6.out.2.2.2.2.2
        by_cases hlt : k < 32
        · have c0 := u32s_cell (X6.out.1.kept hkp (by omega)) (k / 4) (by have := HS.out; omega)
          have cs := u8s_cell hb k (by simp [bytesF_length]; omega)
          have fs := hb.frozen k
          have i1 : (0 : Int) ≤ (k : Int) := by omega
          have i2 : (k : Int) < 32 := by omega
          have i3 : (k : Int).tdiv 4 = ((k / 4 : Nat) : Int) := by rw [Int.tdiv_eq_ediv_of_nonneg i1]; omega
          have i4 : (k : Int).tmod 4 = ((k % 4 : Nat) : Int) := by rw [Int.tmod_eq_emod_of_nonneg i1]; omega
          have i5 : ((k / 4 : Nat) : Int) < 8 := by omega
          have i6 : (0 : Int) ≤ 24 - 8 * ((k % 4 : Nat) : Int) := by omega
          have i7 : (24 - 8 * ((k % 4 : Nat) : Int)).toNat = 24 - 8 * (k % 4) := by omega
          obtain ⟨y, hy⟩ : ∃ y, st.getD (k / 4) 0 = y := ⟨_, rfl⟩
          have HY : Hid (byteF st k = y / 2 ^ (24 - 8 * (k % 4)) % 256) := by show _ = _; rw [byteF, hy]
          rw [hy] at c0
          obtain ⟨q, hq⟩ : ∃ q, k / 4 = q := ⟨_, rfl⟩
          obtain ⟨r, hr⟩ : ∃ r, k % 4 = r := ⟨_, rfl⟩
          have HR : Hid (r < 4) := by show r < 4; omega
          rw [hq] at i3 i5 c0
          rw [hr] at i4 i6 i7 HY
          have X0 : Hid (Blk wr wq.heap.size 28 (u8s (bytesF st k ++ List.replicate (32 - k) 0)) ∧ Kept (fun b => b = wq.heap.size) w6 wr) := ⟨hb, hkp⟩
          clear hb hy hq hr hkp
          go_wp2
          have R1 := X0.out.1.set k (.int .u8 (byteF st k))
          rw [u8s_set, show 32 - k = (32 - (k + 1)) + 1 by omega] at R1
          have e := set_next (bytesF st k) (32 - (k + 1)) (byteF st k) 0
          rw [bytesF_length] at e
          rw [e, ← bytesF_succ, HY.out] at R1
          exact ⟨⟨k + 1, by omega, by go_num, R1, X0.out.2.setCell (S := fun b => b = wq.heap.size) rfl _⟩, by simp [intOf]; omega⟩
        · obtain rfl : k = 32 := by omega
          rw [show ((32 : Nat) : Int) = 32 from rfl]
          rw [show 32 - 32 = 0 from rfl, List.replicate_zero, List.append_nil, ← X1.out.2.2.2.2] at hb
          have X3 : Hid (Blk wr wq.heap.size 28 (u8s (sha zs)) ∧ Blk wr w.heap.size 28 (u8s (zer 32)) ∧ Below w.heap.size w wr) := ⟨hb, X6.out.2.1.kept hkp (by omega), below_kept X6.out.2.2.2.1 hkp X6.out.2.2.2.1.size (fun j hj => by omega)⟩
          clear hb hkp
          go_wp2_with (first | (refine wpList_load_blk rfl 28 _ rfl _ rfl (u8s (sha zs)) _ X3.out.1 Tryd.underlying28 rfl (by rw [u8s_length, sha_length]; exact sizeAH) ?_) | (refine wpList_store_blk rfl 28 28 _ _ rfl _ rfl _ (u8s (sha zs)) rfl X3.out.2.1 (by rw [u8s_length, sha_length, u8s_length, zer_length]) (by rw [u8s_length, sha_length]; exact sizeAH) (u8s_one _) ?_; intro wA bA sA kA))
          exact ret_blk rfl w.heap.size (u8s (sha zs)) _ rfl bA Tryd.underlying28 rfl (by rw [u8s_length, sha_length]; exact sizeAH) rfl ⟨rfl, below_kept X3.out.2.2 kA X3.out.2.2.size (fun j hj => by omega)⟩
end Go.Proofs.YtiimjhahblmggaaDoor
