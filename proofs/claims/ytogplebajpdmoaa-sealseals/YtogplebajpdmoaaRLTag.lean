/- Layer seal, the document's: tag, Box, Seal. -/
import Derived.Test.YtogplebajpdmoaaRLBox
import Derived.Test.YtogplebajpdmoaaLNonce
import Derived.Test.YtogplebajpdmoaaBV
import Derived.Test.YtogplebajpdmoaaBU
namespace Go.Proofs.Ytogplebajpdmoaa
open Go.RowKit
set_option linter.unusedVariables false
set_option linter.unusedSimpArgs false

theorem zeroKeyR : (Try.prog.info? 30).map (fun i => (i.zero, i.size)) = some (some (.agg (u8s (zs0 32)).toArray), 32) := by kernel_rfl
theorem blkAllR {w : World} {g : Nat} {t : TypeId} {vs : List Value} (h : Blk w g t vs) : w.rangeAt g 0 vs := fun j v hv => by rw [Nat.zero_add, h.cell]; exact hv
theorem Does.rows3 {base : Nat} {ρ : Operand → Value} {o : Oper} {w : World} (parts : Array (Nat × Operand)) (ho : o.op = .buildSlice 40 3 parts) (s1 s2 s3 : Option Addr) (n1 n2 n3 c1 c2 c3 : Nat) (z1 z2 z3 : List Int) (hp : (parts.map fun (i, x) => (i, ρ x)) = #[(0, .slice s1 n1 c1), (1, .slice s2 n2 c2), (2, .slice s3 n3 c3)])
    (h1 : Seen w s1 n1 z1 ∧ n1 ≤ c1) (h2 : Seen w s2 n2 z2 ∧ n2 ≤ c2) (h3 : Seen w s3 n3 z3 ∧ n3 ≤ c3) : Does base (.any (isP 3 [z1, z2, z3]) (isP_later _ _)) ρ o w := by
  refine Does.run (.slice (some ⟨w.heap.size, 0, none⟩) 3 3) (w' := w.alloc (.cells #[.slice s1 n1 c1, .slice s2 n2 c2, .slice s3 n3 c3] 31)) ?_ ⟨_, _, rfl, ?_⟩ ((Below.refl _ _).alloc (Nat.le_refl _) _)
  · unfold execOp
    simp only [ho, hp, Sem.run_bind, bs3, Sem.run_pure, Result.andThen_ok]
  · exact seenPn w [(s1, n1, c1, z1), (s2, n2, c2, z2), (s3, n3, c3, z3)] (by
      intro x hx
      simp only [List.mem_cons, List.not_mem_nil, or_false] at hx
      rcases hx with rfl | rfl | rfl
      · exact h1
      · exact h2
      · exact h3)
theorem vouched3 (ms zs : List Int) : ([ms ++ fillL ms.length, zs ++ fillL zs.length, ends8 ms.length zs.length] : List (List Int)).flatten = vouched ms zs := by simp [vouched]
theorem filled_is (ao : Option Addr) (n c : Nat) (zs : List Int) (hn : n + 16 ≤ 140737488355328) (w : World) (hx : Seen w ao n zs) : Calls Try.prog 110 #[.slice ao n c] w fun e w' => ∃ v, e = .returned v ∧ isS (zs ++ fillL n) v w' ∧ Below w.heap.size w w' := by
  refine (filled_any ao n c zs hn w hx).mono ?_
  rintro e w' ⟨v, rfl, o, l⟩
  have hl : (zs ++ fillL n).length = n + fillN n := by rw [List.length_append, hx.len, fillL_length]
  rw [← hl] at o
  obtain ⟨xA, cA, rfl, sA, qA, _⟩ := own_data (bytes_app hx.bytes (fillL_bytes n)) (by rw [hl]; have := fillN_lt n; omega) o
  exact ⟨_, rfl, ⟨xA, _, cA, rfl, sA, qA⟩, l⟩
theorem ends8_length (a b : Nat) : (ends8 a b).length = 16 := by simp [ends8, leB_length]
theorem ends8_bytes (a b : Nat) : Bytes (ends8 a b) := bytes_app (leB_bytes _ _) (leB_bytes _ _)
set_option maxRecDepth 20000 in
set_option maxHeartbeats 4000000 in
theorem rtag_any (key nonce : List Int) (n c m d : Nat) (ao bo : Option Addr) (ms zs : List Int) (hk : key.length = 32) (hno : nonce.length = 12) (hkb : Bytes key) (hnb : Bytes nonce) (w : World) (hx : Seen w ao n ms) (hy : Seen w bo m zs) (hc : n ≤ c) (hd : m ≤ d) (hn : n ≤ 2097152) (hm : m ≤ 2097152) :
    Calls Try.prog 89 #[.agg (u8s key).toArray, .agg (u8s nonce).toArray, .slice ao n c, .slice bo m d] w fun e w' => ∃ v, e = .returned v ∧ w'.ownsRow w.heap.size 5 1 v 16 ((codeL key nonce ms zs).map (Value.int .u8)) ∧ Below w.heap.size w w' := by
  obtain ⟨i0, hi, hz0, hz1, hz2⟩ := info_parts info_byte
  have HX : Hid (Seen w ao n ms ∧ Seen w bo m zs ∧ n ≤ c ∧ m ≤ d) := ⟨hx, hy, hc, hd⟩
  have HS : Hid (key.length = 32 ∧ nonce.length = 12 ∧ Bytes key ∧ Bytes nonce) := ⟨hk, hno, hkb, hnb⟩
  have e1 : ms.length = n := hx.len
  have e2 : zs.length = m := hy.len
  obtain ⟨B, hB⟩ : ∃ B, blkB key 0 nonce = B := ⟨_, rfl⟩
  obtain ⟨TK, hTK⟩ : ∃ T, tagKey key nonce = T := ⟨_, rfl⟩
  obtain ⟨CL, hCL⟩ : ∃ C, codeL key nonce ms zs = C := ⟨_, rfl⟩
  obtain ⟨V, hV⟩ : ∃ V, ([ms ++ fillL n, zs ++ fillL m, ends8 n m] : List (List Int)).flatten = V := ⟨_, rfl⟩
  have HB : Hid (blkB key 0 nonce = B ∧ B.length = 64 ∧ B.take 32 = TK ∧ TK.length = 32 ∧ Bytes TK ∧ CL.length = 16 ∧ Bytes CL ∧ tagB TK V = CL ∧ Bytes B) := by
    refine ⟨hB, by rw [← hB, blkB_length], by rw [← hTK, tagKey, hB], by rw [← hTK, tagKey_length], by rw [← hTK]; exact tagKey_bytes _ _, by rw [← hCL, codeL_length], by rw [← hCL]; exact codeL_bytes _ _ _ _, ?_, by rw [← hB]; exact blkB_bytes _ _ _⟩
    rw [← hCL, codeL, hTK, ← vouched3, e1, e2, hV]
  have HV : Hid (([ms ++ fillL n, zs ++ fillL m, ends8 n m] : List (List Int)).flatten = V ∧ V.length ≤ 35184372088832 ∧ Bytes V) := by
    refine ⟨hV, ?_, ?_⟩
    · rw [← hV]; have := fillN_lt n; have := fillN_lt m; simp [fillL_length, ends8_length, e1, e2]; omega
    · rw [← hV]; simp only [List.flatten_cons, List.flatten_nil, List.append_nil]; exact bytes_app (bytes_app hx.bytes (fillL_bytes _)) (bytes_app (bytes_app hy.bytes (fillL_bytes _)) (ends8_bytes _ _))
  rw [hCL]
  clear hx hy hk hno hkb hnb hB hTK hCL e1 e2 hc hd hV
  have v1 : IntKind.u64.wrap (n : Int) = (n : Int) := by simp only [IntKind.wrap, IntKind.bits, IntKind.signed]; simp; omega
  have v2 : IntKind.u64.wrap (m : Int) = (m : Int) := by simp only [IntKind.wrap, IntKind.bits, IntKind.signed]; simp; omega
  go_enter Try.func89, Try.ntmps89
  go_wp2_with (first | (refine wpList_box_new rfl 30 _ rfl (u8s key) rfl ?_; intro w1 b1 s1 l1) | (refine wpList_box_new rfl 25 _ rfl (u8s nonce) rfl ?_; intro w2 b2 s2 l2) | (refine wpList_load_blk rfl 30 _ rfl _ rfl (u8s key) _ (by first | exact b1.later l2 (by omega)) Try.underlying30 rfl (by rw [u8s_length, HS.out.1]; exact sizeKey) ?_) | (refine wpList_load_blk rfl 25 _ rfl _ rfl (u8s nonce) _ (by first | exact b2 | (rw [← s1]; exact b2)) Try.underlying25 rfl (by rw [u8s_length, HS.out.2.1]; exact sizeNonce) ?_) | (go_at_call 38; refine (rblock_any key 0 nonce HS.out.1 HS.out.2.1 HS.out.2.2.1 HS.out.2.2.2 ⟨by decide, by decide⟩ _).mono ?_; rintro e w4 ⟨rfl, l4⟩; rw [HB.out.1]) | (refine wpList_alloc_new rfl 68 rfl 64 _ zero64b ?_; intro w5 b5 s5 l5) | (refine wpList_store_blk rfl 68 68 _ _ rfl _ rfl _ (u8s B) rfl b5 (by rw [u8s_length, u8s_length, HB.out.2.1]; rfl) (by rw [u8s_length, HB.out.2.1]; exact sizeA64b) (u8s_one _) ?_; intro w6 b6 s6 k6) | (refine wpList_alloc_new rfl 30 rfl 32 _ zeroKeyR ?_; intro w7 b7 s7 l7))
  have q4 := l4.size
  obtain ⟨G, hG⟩ : ∃ G, w4.heap.size = G := ⟨_, rfl⟩
  obtain ⟨GK, hGK⟩ : ∃ K, G + 1 = K := ⟨_, rfl⟩
  have e7 : w6.heap.size = GK := by omega
  try simp only [Act.put, List.setIfInBounds_toArray, List.set_cons_zero, List.set_cons_succ]
  rw [hG] at b6 k6 ⊢
  rw [e7] at b7
  rw [hGK]
  have H7 : Hid (Blk w7 G 68 (u8s B) ∧ Blk w7 GK 30 (u8s (zs0 32)) ∧ Below w.heap.size w w7 ∧ G < GK ∧ w.heap.size ≤ G) := by
    have L5 := below_chain (below_chain (below_chain l1 l2 (by omega)) l4 (by omega)) l5 (by omega)
    exact ⟨b6.later l7 (by omega), b7, below_chain (below_kept L5 k6 L5.size (fun j hj => by omega)) l7 (by omega), by omega, by omega⟩
  clear b1 s1 l1 b2 s2 l2 l4 b5 s5 l5 b6 s6 k6 hG q4 b7 s7 l7 hGK e7
  go_loopw [11] (fun i wr => ∃ j : Nat, j ≤ 32 ∧ i = .int .i64 j ∧ Blk wr GK 30 (u8s (B.take j ++ zs0 (32 - j))) ∧ Kept (fun b => b = GK) w7 wr) (fun i _ => 32 - (intOf i).toNat)
  case atStart => exact ⟨0, Nat.zero_le _, rfl, H7.out.2.1, Kept.refl _ _⟩
  case round =>
    obtain ⟨j, hj, rfl, hbk, hkp⟩ := hrel
    by_cases hjl : j < 32
    · have hGG := H7.out.2.2.2.1
      have c1 := u8s_cell (H7.out.1.kept hkp (by omega)) j (by rw [HB.out.2.1]; omega)
      have hlen : (B.take j ++ zs0 (32 - j) : List Int).length = 32 := by rw [List.length_append, List.length_take, HB.out.2.1, zs0_length]; omega
      have cg := u8s_cell hbk j (by rw [hlen]; exact hjl)
      have fg := hbk.frozen j
      have hset : (B.take j ++ zs0 (32 - j) : List Int).set j (B.getD j 0) = B.take (j + 1) ++ zs0 (32 - (j + 1)) := by
        have h := take_next B j (by rw [HB.out.2.1]; omega) (32 - (j + 1))
        rw [show 32 - (j + 1) + 1 = 32 - j by omega] at h
        exact h
      obtain ⟨D, hD⟩ : ∃ D, B.getD j 0 = D := ⟨_, rfl⟩
      obtain ⟨Z, hZ⟩ : ∃ Z, (B.take j ++ zs0 (32 - j) : List Int).getD j 0 = Z := ⟨_, rfl⟩
      rw [hD] at c1 hset
      rw [hZ] at cg
      have HQ : Hid (Blk (wr.setCell ⟨GK, j, none⟩ (.int .u8 D)) GK 30 (u8s (B.take (j + 1) ++ zs0 (32 - (j + 1)))) ∧ Kept (fun b => b = GK) w7 (wr.setCell ⟨GK, j, none⟩ (.int .u8 D))) := by
        have R := hbk.set j (.int .u8 D)
        rw [u8s_set, hset] at R
        exact ⟨R, hkp.setCell rfl _⟩
      have i2 : (j : Int) < 32 := by omega
      have i4 : (j : Int) < 64 := by omega
      have i3 : (0 : Int) ≤ (j : Int) := by omega
      clear hD hZ hset hbk hkp hlen
      go_wp2_with fail
      exact ⟨⟨j + 1, by omega, by go_num, HQ.out.1, HQ.out.2⟩, by simp [intOf]; omega⟩
    · obtain rfl : 32 = j := by omega
      have J : Hid (Blk wr GK 30 (u8s TK) ∧ Below w.heap.size w wr) := by
        refine ⟨?_, below_kept H7.out.2.2.1 hkp H7.out.2.2.1.size (fun j hj => by have := H7.out.2.2.2; omega)⟩
        have e : B.take 32 ++ zs0 (32 - 32) = TK := by rw [HB.out.2.2.1]; simp [zs0]
        rw [← e]; exact hbk
      clear hbk hkp H7
      have i2 : ¬ ((32 : Nat) : Int) < 32 := by omega
      go_wp2_with fail
      refine (rlit_any (n : Int) (by omega) 8 (by decide) wr).mono ?_
      rintro e w8 ⟨v8, rfl, o8, l8⟩
      obtain ⟨p8, c8, rfl, d8, hc8, _⟩ := isO_seen (n := 8) o8 (leB_length _ _) (leB_bytes _ _) (by decide)
      have H8 : Hid (Blk w8 GK 30 (u8s TK) ∧ Below w.heap.size w w8 ∧ Seen w8 p8 8 (leB 8 (n : Int)) ∧ 8 ≤ c8) := ⟨J.out.1.later l8 J.out.1.lt, below_chain J.out.2 l8 J.out.2.size, d8, hc8⟩
      clear o8 d8 l8 hc8 J
      go_wp2_with fail
      refine (rlit_any (m : Int) (by omega) 8 (by decide) w8).mono ?_
      rintro e w9 ⟨v9, rfl, o9, l9⟩
      obtain ⟨p9, c9, rfl, d9, hc9, _⟩ := isO_seen (n := 8) o9 (leB_length _ _) (leB_bytes _ _) (by decide)
      have H9 : Hid (Blk w9 GK 30 (u8s TK) ∧ Below w.heap.size w w9 ∧ Seen w9 p8 8 (leB 8 (n : Int)) ∧ 8 ≤ c8 ∧ Seen w9 p9 8 (leB 8 (m : Int)) ∧ 8 ≤ c9) := ⟨H8.out.1.later l9 H8.out.1.lt, below_chain H8.out.2.1 l9 H8.out.2.1.size, H8.out.2.2.1.later l9 (Nat.le_refl _), H8.out.2.2.2, d9, hc9⟩
      clear o9 d9 l9 hc9 H8
      go_wp2_with fail
      refine (two_any p8 p9 8 8 c8 c9 _ _ w9 H9.out.2.2.1 H9.out.2.2.2.2.1 H9.out.2.2.2.1 H9.out.2.2.2.2.2 (by decide)).mono ?_
      rintro e wA ⟨vA, rfl, oA, lA⟩
      obtain ⟨pA, cA, rfl, dA, hcA, _⟩ := isO_seen (n := 16) (zs := ends8 n m) (by have e := ends8_length n m; rw [ends8] at e ⊢; rw [e] at oA; exact oA) (ends8_length _ _) (ends8_bytes _ _) (by decide)
      have HA : Hid (Blk wA GK 30 (u8s TK) ∧ Below w.heap.size w wA ∧ Seen wA pA 16 (ends8 n m) ∧ 16 ≤ cA) := ⟨H9.out.1.later lA H9.out.1.lt, below_chain H9.out.2.1 lA H9.out.2.1.size, dA, hcA⟩
      clear oA dA lA hcA H9
      go_wp2_with fail
      try simp only [Act.put, List.setIfInBounds_toArray, List.set_cons_zero, List.set_cons_succ]
      refine region_inv [.val (.agg (u8s TK).toArray), .val (.slice ao n c), .any (isS (ms ++ fillL n)) (isS_later _), .val (.slice bo m d), .any (isS (zs ++ fillL m)) (isS_later _), .val (.slice pA 16 cA), .any (isP 3 [ms ++ fillL n, zs ++ fillL m, ends8 n m]) (isP_later _ _), .any (isS V) (isS_later _), .val (.agg (u8s CL).toArray), .blk 47 (u8s (zs0 16))] (by kernel_rfl) (by kernel_rfl) (by kernel_rfl) ?_ ?_
      · refine Steps'.cons ?_ (Steps'.cons ?_ (Steps'.cons ?_ (Steps'.cons ?_ (Steps'.cons ?_ (Steps'.cons ?_ (Steps'.cons ?_ (Steps'.cons ?_ (Steps'.cons ?_ (Steps'.cons ?_ (Steps'.one _ _ _ _ _ _ _))))))))))
        · intro ax wx hb hs hd
          have h10 : ax.tmps.getD 10 undef = (.pointer (some ⟨GK, 0, none⟩)) := hs 10 (by kernel_rfl)
          exact Does.load 30 (.tmp 10) rfl GK 0 h10 (u8s TK) _ (blkAllR (HA.out.1.later hb HA.out.1.lt)) Try.underlying30 rfl (by rw [u8s_length, HB.out.2.2.2.1]; exact sizeKey)
        · intro ax wx hb hs hd
          have h2 : ax.tmps.getD 2 undef = (.slice ao n c) := hs 2 (by kernel_rfl)
          refine Does.value (.slice ao n c) ?_ rfl
          go_simp
        · intro ax wx hb hs hd
          have h38 : ax.tmps.getD 38 undef = (.slice ao n c) := hd 1 38 rfl (by kernel_rfl) (by decide)
          refine Does.call 110 #[(.slice ao n c)] (by go_simp) ?_
          exact filled_is _ _ _ _ (by omega) wx (HX.out.1.later (below_chain HA.out.2.1 hb HA.out.2.1.size) (Nat.le_refl _))
        · intro ax wx hb hs hd
          have h3 : ax.tmps.getD 3 undef = (.slice bo m d) := hs 3 (by kernel_rfl)
          refine Does.value (.slice bo m d) ?_ rfl
          go_simp
        · intro ax wx hb hs hd
          have h40 : ax.tmps.getD 40 undef = (.slice bo m d) := hd 3 40 rfl (by kernel_rfl) (by decide)
          refine Does.call 110 #[(.slice bo m d)] (by go_simp) ?_
          exact filled_is _ _ _ _ (by omega) wx (HX.out.2.1.later (below_chain HA.out.2.1 hb HA.out.2.1.size) (Nat.le_refl _))
        · intro ax wx hb hs hd
          have h12 : ax.tmps.getD 12 undef = (.slice pA 16 cA) := hs 12 (by kernel_rfl)
          refine Does.value (.slice pA 16 cA) ?_ rfl
          go_simp
        · intro ax wx hb hs hd
          have h42 : ax.tmps.getD 42 undef = (.slice pA 16 cA) := hd 5 42 rfl (by kernel_rfl) (by decide)
          obtain ⟨x1, n1, c1, h39, s39, q39⟩ : isS (ms ++ fillL n) (ax.tmps.getD 39 undef) wx := hd 2 39 rfl (by kernel_rfl) (by decide)
          obtain ⟨x2, n2, c2, h41, s41, q41⟩ : isS (zs ++ fillL m) (ax.tmps.getD 41 undef) wx := hd 4 41 rfl (by kernel_rfl) (by decide)
          exact Does.rows3 _ rfl _ _ _ _ _ _ _ _ _ _ _ _ (by simp only [List.map_toArray, List.map_cons, List.map_nil, Act.eval, h39, h41, h42]) ⟨s39, q39⟩ ⟨s41, q41⟩ ⟨HA.out.2.2.1.later hb (Nat.le_refl _), HA.out.2.2.2⟩
        · intro ax wx hb hs hd
          obtain ⟨b, c', h43, s43⟩ : isP 3 [ms ++ fillL n, zs ++ fillL m, ends8 n m] (ax.tmps.getD 43 undef) wx := hd 6 43 rfl (by kernel_rfl) (by decide)
          refine Does.call 30 #[.slice (some ⟨b, 0, none⟩) 3 c'] (by go_simp) ?_
          have q := join_any _ 3 c' _ wx s43 (by decide) (by rw [HV.out.1]; exact HV.out.2.1)
          rw [HV.out.1] at q
          refine q.mono ?_
          rintro e w' ⟨v, rfl, o, l⟩
          obtain ⟨xA, cB, rfl, sB, qB, _⟩ := own_data HV.out.2.2 (by have := HV.out.2.1; omega) o
          exact ⟨_, rfl, ⟨xA, _, cB, rfl, sB, qB⟩, l⟩
        · intro ax wx hb hs hd
          have h37 : ax.tmps.getD 37 undef = (.agg (u8s TK).toArray) := hd 0 37 rfl (by kernel_rfl) (by decide)
          obtain ⟨x, n', c', h44, s44, _⟩ : isS V (ax.tmps.getD 44 undef) wx := hd 7 44 rfl (by kernel_rfl) (by decide)
          refine Does.call 29 #[(.agg (u8s TK).toArray), .slice x n' c'] (by go_simp) ?_
          have q := rtsum_any TK HB.out.2.2.2.1 HB.out.2.2.2.2.1 x n' c' V wx s44
          rw [HB.out.2.2.2.2.2.2.2.1] at q
          refine q.mono ?_
          rintro e w' ⟨rfl, l⟩
          exact ⟨_, rfl, rfl, l⟩
        · intro ax wx hb hs hd
          exact Does.alloc 47 rfl 16 _ zeroTag hb.size
      · intro wx hb
        refine @Ends.val _ _ _ _ _ _ _ _ _ (.agg (u8s TK).toArray) rfl ?_
        refine @Ends.val _ _ _ _ _ _ _ _ _ (.slice ao n c) rfl ?_
        refine @Ends.any _ _ _ _ _ _ _ _ _ (isS (ms ++ fillL n)) (isS_later _) rfl ?_
        intro v2 p2
        refine @Ends.val _ _ _ _ _ _ _ _ _ (.slice bo m d) rfl ?_
        refine @Ends.any _ _ _ _ _ _ _ _ _ (isS (zs ++ fillL m)) (isS_later _) rfl ?_
        intro v4 p4
        refine @Ends.val _ _ _ _ _ _ _ _ _ (.slice pA 16 cA) rfl ?_
        refine @Ends.any _ _ _ _ _ _ _ _ _ (isP 3 [ms ++ fillL n, zs ++ fillL m, ends8 n m]) (isP_later _ _) rfl ?_
        intro v6 p6
        refine @Ends.any _ _ _ _ _ _ _ _ _ (isS V) (isS_later _) rfl ?_
        intro v7 p7
        refine @Ends.val _ _ _ _ _ _ _ _ _ (.agg (u8s CL).toArray) rfl ?_
        refine @Ends.blk _ _ _ _ _ _ _ _ _ 47 (u8s (zs0 16)) rfl ?_
        intro g9 hg9 bg9
        refine @Ends.one _ _ _ _ _ _ _ ?_
        simp only [Act.put, List.setIfInBounds_toArray, List.set_cons_zero, List.set_cons_succ]
        refine last_store 47 (.tmp 13) (.tmp 45) rfl rfl g9 rfl 47 _ (u8s CL) rfl bg9 (by rw [u8s_length, HB.out.2.2.2.2.2.1]; rfl) (by rw [u8s_length, HB.out.2.2.2.2.2.1]; exact sizeTag) (u8s_one _) ?_
        intro wB bB sB kB
        have H10 : Hid (Below w.heap.size w wB ∧ Blk wB g9 47 (u8s CL) ∧ g9 < wB.heap.size) := ⟨below_chain HA.out.2.1 (below_kept hb kB hb.size (fun j hj => by omega)) HA.out.2.1.size, bB, bB.lt⟩
        clear hb hg9 bg9 bB sB kB HA
        go_wp2_with fail
        go_loopw [14, 15] (fun v i wr => ∃ k : Nat, k ≤ 16 ∧ i = .int .i64 k ∧ wr.ownsRow wB.heap.size 5 1 v k ((CL.map (Value.int .u8)).take k) ∧ Below wB.heap.size wB wr) (fun _ i _ => 16 - (intOf i).toNat)
        case atStart => exact ⟨0, Nat.zero_le _, rfl, World.ownsRow_nil _ _ _ _, Below.refl _ _⟩
        case round =>
          obtain ⟨k, hk, rfl, hown, hbel⟩ := hrel
          have hsz := hbel.size
          by_cases hlt : k < 16
          · obtain ⟨D, HD⟩ : ∃ D, Hid (CL.getD k 0 = D) := ⟨_, rfl⟩
            have cD := u8s_cell (H10.out.2.1.later hbel H10.out.2.2) k (by rw [HB.out.2.2.2.2.2.1]; exact hlt)
            rw [HD.out] at cD
            have i1 : (k : Int) < 16 := by omega
            have i3 : (0 : Int) ≤ (k : Int) := by omega
            go_wp2_with (at_builtin; refine wpList_append_own _ rfl _ _ 31 rfl wB.heap.size 5 i0 (.int .u8 0) 1 1 Try.underlying31 hi hz0 hz1 hz2 rfl (by decide) _ _ _ rfl (hown.alloc _) ⟨wr.heap.size, 0, none⟩ 1 1 [.int .u8 D] rfl rfl ?c1 ?c2 ?c3 ?c4 ?c5 ?_)
            try case c1 => exact one_new _ _ _
            case c2 => first | rfl | (intro u hu; simp at hu; subst hu; rfl)
            case c3 => unfold maxLen; omega
            case c4 => omega
            case c5 => first | omega | (simp; omega)
            · intro v' w2 hown' hgrow _
              have R := step_own hbel hown (by rw [HB.out.2.2.2.2.2.1]; exact hlt) HD.out hown' hgrow
              clear hown' hgrow hown hbel cD
              go_wp2_with fail
              exact ⟨⟨k + 1, by omega, by go_num, R.1, R.2⟩, by simp [intOf]; omega⟩
          · obtain rfl : 16 = k := by omega
            have HO : Hid (wr.ownsRow w.heap.size 5 1 u14 16 (CL.map (Value.int .u8)) ∧ Below w.heap.size w wr) := ⟨by have h := hown; rw [List.take_of_length_le (by simp [HB.out.2.2.2.2.2.1])] at h; exact ownsRow_base h H10.out.1.size, below_chain H10.out.1 hbel H10.out.1.size⟩
            have i1 : ¬ ((16 : Nat) : Int) < 16 := by omega
            clear hown hbel
            go_wp2_with fail
            go_ret
            exact ⟨_, rfl, HO.out⟩
set_option maxRecDepth 20000 in
set_option maxHeartbeats 1000000 in
theorem rbox_any (key nonce : List Int) (n c m d : Nat) (ao bo : Option Addr) (ms zs : List Int) (hk : key.length = 32) (hno : nonce.length = 12) (hkb : Bytes key) (hnb : Bytes nonce) (w : World) (hx : Seen w ao n ms) (hy : Seen w bo m zs) (hc : n ≤ c) (hn : n ≤ 1048576) (hm : m ≤ 1048576) :
    Calls Try.prog 52 #[.agg (u8s key).toArray, .agg (u8s nonce).toArray, .slice ao n c, .slice bo m d] w fun e w' => ∃ v, e = .returned v ∧ w'.ownsRow w.heap.size 5 1 v (m + 16) ((boxL key nonce ms zs).map (Value.int .u8)) ∧ Below w.heap.size w w' := by
  have HX : Hid (Seen w ao n ms ∧ Seen w bo m zs ∧ n ≤ c) := ⟨hx, hy, hc⟩
  have HS : Hid (key.length = 32 ∧ nonce.length = 12 ∧ Bytes key ∧ Bytes nonce) := ⟨hk, hno, hkb, hnb⟩
  have HC : Hid ((coverL key nonce zs).length = m ∧ Bytes (coverL key nonce zs)) := ⟨by rw [coverL_length, hy.len], coverL_bytes _ _ hy.bytes⟩
  clear hx hy hk hno hkb hnb hc
  go_enter Try.func52, Try.ntmps52
  go_wp2_with (first | (refine wpList_box_new rfl 30 _ rfl (u8s key) rfl ?_; intro w1 b1 s1 l1) | (refine wpList_box_new rfl 25 _ rfl (u8s nonce) rfl ?_; intro w2 b2 s2 l2; rw [s1] at b2; have K2 : Hid (Blk w2 w.heap.size 30 (u8s key) ∧ Blk w2 (w.heap.size + 1) 25 (u8s nonce) ∧ Below w.heap.size w w2) := ⟨b1.later l2 (by omega), b2, below_chain l1 l2 (by omega)⟩; clear b1 b2) | (refine wpList_load_blk rfl 30 _ rfl _ rfl (u8s key) _ K2.out.1 Try.underlying30 rfl (by rw [u8s_length, HS.out.1]; exact sizeKey) ?_) | (refine wpList_load_blk rfl 25 _ rfl _ rfl (u8s nonce) _ K2.out.2.1 Try.underlying25 rfl (by rw [u8s_length, HS.out.2.1]; exact sizeNonce) ?_))
  clear s1 l1 s2 l2
  refine (rxor_any key nonce 1 m d bo zs HS.out.1 HS.out.2.1 HS.out.2.2.1 HS.out.2.2.2 (by decide) (by omega) w2 (HX.out.2.1.later K2.out.2.2 (Nat.le_refl _))).mono ?_
  rintro e w3 ⟨v3, rfl, o3, l3⟩
  obtain ⟨p3, c3, rfl, d3, hc3, _⟩ := isO_seen (n := m) (zs := coverL key nonce zs) o3 HC.out.1 HC.out.2 (by omega)
  have K3 : Hid (Blk w3 w.heap.size 30 (u8s key) ∧ Blk w3 (w.heap.size + 1) 25 (u8s nonce) ∧ Below w.heap.size w w3 ∧ Seen w3 p3 m (coverL key nonce zs) ∧ m ≤ c3) := ⟨K2.out.1.later l3 K2.out.1.lt, K2.out.2.1.later l3 K2.out.2.1.lt, below_chain K2.out.2.2 l3 K2.out.2.2.size, d3, hc3⟩
  clear o3 l3 d3 hc3 K2
  go_wp2_with (first | (refine wpList_load_blk rfl 30 _ rfl _ rfl (u8s key) _ K3.out.1 Try.underlying30 rfl (by rw [u8s_length, HS.out.1]; exact sizeKey) ?_) | (refine wpList_load_blk rfl 25 _ rfl _ rfl (u8s nonce) _ K3.out.2.1 Try.underlying25 rfl (by rw [u8s_length, HS.out.2.1]; exact sizeNonce) ?_))
  refine (rtag_any key nonce n c m c3 ao p3 ms (coverL key nonce zs) HS.out.1 HS.out.2.1 HS.out.2.2.1 HS.out.2.2.2 w3 (HX.out.1.later K3.out.2.2.1 (Nat.le_refl _)) K3.out.2.2.2.1 HX.out.2.2 K3.out.2.2.2.2 (by omega) (by omega)).mono ?_
  rintro e w4 ⟨v4, rfl, o4, l4⟩
  obtain ⟨p4, c4, rfl, d4, hc4, _⟩ := isO_seen (n := 16) o4 (codeL_length _ _ _ _) (codeL_bytes _ _ _ _) (by decide)
  have K4 : Hid (Below w.heap.size w w4 ∧ Seen w4 p3 m (coverL key nonce zs) ∧ m ≤ c3 ∧ Seen w4 p4 16 (codeL key nonce ms (coverL key nonce zs)) ∧ 16 ≤ c4) := ⟨below_chain K3.out.2.2.1 l4 K3.out.2.2.1.size, K3.out.2.2.2.1.later l4 (Nat.le_refl _), K3.out.2.2.2.2, d4, hc4⟩
  clear o4 l4 d4 hc4 K3
  go_wp2_with fail
  refine (two_any p3 p4 m 16 c3 c4 _ _ w4 K4.out.2.1 K4.out.2.2.2.1 K4.out.2.2.1 K4.out.2.2.2.2 (by omega)).mono ?_
  rintro e w5 ⟨v5, rfl, o5, l5⟩
  have K5 : Hid (w5.ownsRow w.heap.size 5 1 v5 (m + 16) ((boxL key nonce ms zs).map (Value.int .u8)) ∧ Below w.heap.size w w5) := by
    refine ⟨?_, below_chain K4.out.1 l5 K4.out.1.size⟩
    rw [List.length_append, HC.out.1, codeL_length] at o5
    exact ownsRow_base o5 K4.out.1.size
  clear o5 l5 K4
  go_wp2_with fail
  go_ret
  exact ⟨_, rfl, K5.out⟩
set_option maxRecDepth 20000 in
set_option maxHeartbeats 1000000 in
theorem rseal_bad (key nonce : List Int) (n c m d : Nat) (ao bo : Option Addr) (hb : 1048576 < n ∨ 1048576 < m) (w : World) :
    Calls Try.prog 18 #[.agg (u8s key).toArray, .agg (u8s nonce).toArray, .slice ao n c, .slice bo m d] w fun e w' => e = .returned (.tuple #[.slice none 0 0, .int .i64 3]) ∧ Below w.heap.size w w' := by
  have e : lngE n m = 3 := by rw [lngE, if_neg (by omega)]
  clear hb
  go_enter Try.func18, Try.ntmps18
  go_wp2_with (first | (refine wpList_box_new rfl 30 _ rfl (u8s key) rfl ?_; intro w1 b1 s1 l1) | (refine wpList_box_new rfl 25 _ rfl (u8s nonce) rfl ?_; intro w2 b2 s2 l2) | (go_at_call 51; refine (rlong_any ao bo n m c d _).mono ?_; rintro e' w' ⟨rfl, rfl⟩; rw [e]))
  go_ret2
  exact ⟨rfl, below_chain l1 l2 (by omega)⟩
set_option maxRecDepth 20000 in
set_option maxHeartbeats 1000000 in
theorem rseal_any (key nonce : List Int) (n c m d : Nat) (ao bo : Option Addr) (ms zs : List Int) (hk : key.length = 32) (hno : nonce.length = 12) (hkb : Bytes key) (hnb : Bytes nonce) (w : World) (hx : Seen w ao n ms) (hy : Seen w bo m zs) (hc : n ≤ c) (hn : n ≤ 1048576) (hm : m ≤ 1048576) :
    Calls Try.prog 18 #[.agg (u8s key).toArray, .agg (u8s nonce).toArray, .slice ao n c, .slice bo m d] w fun e w' => ∃ v, e = .returned (.tuple #[v, .int .i64 0]) ∧ w'.ownsRow w.heap.size 5 1 v (m + 16) ((boxL key nonce ms zs).map (Value.int .u8)) ∧ Below w.heap.size w w' := by
  have HX : Hid (Seen w ao n ms ∧ Seen w bo m zs ∧ n ≤ c) := ⟨hx, hy, hc⟩
  have HS : Hid (key.length = 32 ∧ nonce.length = 12 ∧ Bytes key ∧ Bytes nonce) := ⟨hk, hno, hkb, hnb⟩
  have e : lngE n m = 0 := by rw [lngE, if_pos ⟨hn, hm⟩]
  clear hx hy hk hno hkb hnb hc
  go_enter Try.func18, Try.ntmps18
  go_wp2_with (first | (refine wpList_box_new rfl 30 _ rfl (u8s key) rfl ?_; intro w1 b1 s1 l1) | (refine wpList_box_new rfl 25 _ rfl (u8s nonce) rfl ?_; intro w2 b2 s2 l2; rw [s1] at b2; have K2 : Hid (Blk w2 w.heap.size 30 (u8s key) ∧ Blk w2 (w.heap.size + 1) 25 (u8s nonce) ∧ Below w.heap.size w w2) := ⟨b1.later l2 (by omega), b2, below_chain l1 l2 (by omega)⟩; clear b1 b2) | (go_at_call 51; refine (rlong_any ao bo n m c d _).mono ?_; rintro e' w' ⟨rfl, rfl⟩; rw [e]) | (refine wpList_load_blk rfl 30 _ rfl _ rfl (u8s key) _ K2.out.1 Try.underlying30 rfl (by rw [u8s_length, HS.out.1]; exact sizeKey) ?_) | (refine wpList_load_blk rfl 25 _ rfl _ rfl (u8s nonce) _ K2.out.2.1 Try.underlying25 rfl (by rw [u8s_length, HS.out.2.1]; exact sizeNonce) ?_))
  clear s1 l1 s2 l2
  refine (rbox_any key nonce n c m d ao bo ms zs HS.out.1 HS.out.2.1 HS.out.2.2.1 HS.out.2.2.2 w2 (HX.out.1.later K2.out.2.2 (Nat.le_refl _)) (HX.out.2.1.later K2.out.2.2 (Nat.le_refl _)) HX.out.2.2 hn hm).mono ?_
  rintro e w3 ⟨v3, rfl, o3, l3⟩
  have K3 : Hid (w3.ownsRow w.heap.size 5 1 v3 (m + 16) ((boxL key nonce ms zs).map (Value.int .u8)) ∧ Below w.heap.size w w3) := ⟨ownsRow_base o3 K2.out.2.2.size, below_chain K2.out.2.2 l3 K2.out.2.2.size⟩
  clear o3 l3 K2
  go_wp2_with fail
  go_ret2
  exact ⟨_, rfl, K3.out⟩
end Go.Proofs.Ytogplebajpdmoaa
