/- Joined texts: RLTag OMem REqb RLText LCase RLOpd OApart OApartW RApart ROut RLOut RSpare. -/
import Derived.Test.YtcimiajkbgabiaaYG
import Derived.Test.YtcimiajkbgabiaaYH
import Derived.Test.YtcimiajkbgabiaaYC
import Derived.Test.YtcimiajkbgabiaaYA
import Derived.Test.YtcimiajkbgabiaaYD
import Derived.Test.YtcimiajkbgabiaaYB
namespace Go.Proofs.Ytcimiajkbgabiaa
open Go.RowKit
set_option linter.unusedVariables false
set_option linter.unusedSimpArgs false

theorem zeroKeyR : (Try.prog.info? 27).map (fun i => (i.zero, i.size)) = some (some (.agg (u8s (zs0 32)).toArray), 32) := by kernel_rfl
theorem blkAllR {w : World} {g : Nat} {t : TypeId} {vs : List Value} (h : Blk w g t vs) : w.rangeAt g 0 vs := fun j v hv => by rw [Nat.zero_add, h.cell]; exact hv
theorem Does.rows3 {base : Nat} {ρ : Operand → Value} {o : Oper} {w : World} (parts : Array (Nat × Operand)) (ho : o.op = .buildSlice 50 3 parts) (s1 s2 s3 : Option Addr) (n1 n2 n3 c1 c2 c3 : Nat) (z1 z2 z3 : List Int) (hp : (parts.map fun (i, x) => (i, ρ x)) = #[(0, .slice s1 n1 c1), (1, .slice s2 n2 c2), (2, .slice s3 n3 c3)])
    (h1 : Seen w s1 n1 z1 ∧ n1 ≤ c1) (h2 : Seen w s2 n2 z2 ∧ n2 ≤ c2) (h3 : Seen w s3 n3 z3 ∧ n3 ≤ c3) : Does base (.any (isP 3 [z1, z2, z3]) (isP_later _ _)) ρ o w := by
  refine Does.run (.slice (some ⟨w.heap.size, 0, none⟩) 3 3) (w' := w.alloc (.cells #[.slice s1 n1 c1, .slice s2 n2 c2, .slice s3 n3 c3] 22)) ?_ ⟨_, _, rfl, ?_⟩ ((Below.refl _ _).alloc (Nat.le_refl _) _)
  · unfold execOp
    simp only [ho, hp, Sem.run_bind, bs3, Sem.run_pure, Result.andThen_ok]
  · exact seenPn w [(s1, n1, c1, z1), (s2, n2, c2, z2), (s3, n3, c3, z3)] (by
      intro x hx
      simp only [List.mem_cons, List.not_mem_nil, or_false] at hx
      rcases hx with rfl | rfl | rfl
      · exact h1
      · exact h2
      · exact h3)
theorem vouched3 (ms zs : List Int) : ([ms ++ fillL ms.length, zs ++ fillL zs.length, ends8 ms.length zs.length] : List (List Int)).flatten = vouched ms zs := by simp [vouched]
theorem filled_is (ao : Option Addr) (n c : Nat) (zs : List Int) (hn : n + 16 ≤ 140737488355328) (w : World) (hx : Seen w ao n zs) : Calls Try.prog 67 #[.slice ao n c] w fun e w' => ∃ v, e = .returned v ∧ isS (zs ++ fillL n) v w' ∧ Below w.heap.size w w' := by
  refine (filled_any ao n c zs hn w hx).mono ?_
  rintro e w' ⟨v, rfl, o, l⟩
  have hl : (zs ++ fillL n).length = n + fillN n := by rw [List.length_append, hx.len, fillL_length]
  rw [← hl] at o
  obtain ⟨xA, cA, rfl, sA, qA, _⟩ := own_data (bytes_app hx.bytes (fillL_bytes n)) (by rw [hl]; have := fillN_lt n; omega) o
  exact ⟨_, rfl, ⟨xA, _, cA, rfl, sA, qA⟩, l⟩
theorem ends8_length (a b : Nat) : (ends8 a b).length = 16 := by simp [ends8, leB_length]
theorem ends8_bytes (a b : Nat) : Bytes (ends8 a b) := bytes_app (leB_bytes _ _) (leB_bytes _ _)
set_option maxRecDepth 20000 in
set_option maxHeartbeats 4000000 in
theorem rtag_any (key nonce : List Int) (n c m d : Nat) (ao bo : Option Addr) (ms zs : List Int) (hk : key.length = 32) (hno : nonce.length = 12) (hkb : Bytes key) (hnb : Bytes nonce) (w : World) (hx : Seen w ao n ms) (hy : Seen w bo m zs) (hc : n ≤ c) (hd : m ≤ d) (hn : n ≤ 2097152) (hm : m ≤ 2097152) :
    Calls Try.prog 46 #[.agg (u8s key).toArray, .agg (u8s nonce).toArray, .slice ao n c, .slice bo m d] w fun e w' => ∃ v, e = .returned v ∧ w'.ownsRow w.heap.size 5 1 v 16 ((codeL key nonce ms zs).map (Value.int .u8)) ∧ Below w.heap.size w w' := by
  obtain ⟨i0, hi, hz0, hz1, hz2⟩ := info_parts info_byte
  have HX : Hid (Seen w ao n ms ∧ Seen w bo m zs ∧ n ≤ c ∧ m ≤ d) := ⟨hx, hy, hc, hd⟩
  have HS : Hid (key.length = 32 ∧ nonce.length = 12 ∧ Bytes key ∧ Bytes nonce) := ⟨hk, hno, hkb, hnb⟩
  have e1 : ms.length = n := hx.len
  have e2 : zs.length = m := hy.len
  obtain ⟨B, hB⟩ : ∃ B, blkB key 0 nonce = B := ⟨_, rfl⟩
  obtain ⟨TK, hTK⟩ : ∃ T, tagKey key nonce = T := ⟨_, rfl⟩
  obtain ⟨CL, hCL⟩ : ∃ C, codeL key nonce ms zs = C := ⟨_, rfl⟩
  obtain ⟨V, hV⟩ : ∃ V, ([ms ++ fillL n, zs ++ fillL m, ends8 n m] : List (List Int)).flatten = V := ⟨_, rfl⟩
  have HB : Hid (blkB key 0 nonce = B ∧ B.length = 64 ∧ B.take 32 = TK ∧ TK.length = 32 ∧ Bytes TK ∧ CL.length = 16 ∧ Bytes CL ∧ tagB TK V = CL ∧ Bytes B) := by
    refine ⟨hB, by rw [← hB, blkB_length], by rw [← hTK, tagKey, hB], by rw [← hTK, tagKey_length], by rw [← hTK]; exact tagKey_bytes _ _, by rw [← hCL, codeL_length], by rw [← hCL]; exact codeL_bytes _ _ _ _, ?_, by rw [← hB]; exact blkB_bytes _ _ _⟩
    rw [← hCL, codeL, hTK, ← vouched3, e1, e2, hV]
  have HV : Hid (([ms ++ fillL n, zs ++ fillL m, ends8 n m] : List (List Int)).flatten = V ∧ V.length ≤ 35184372088832 ∧ Bytes V) := by
    refine ⟨hV, ?_, ?_⟩
    · rw [← hV]; have := fillN_lt n; have := fillN_lt m; simp [fillL_length, ends8_length, e1, e2]; omega
    · rw [← hV]; simp only [List.flatten_cons, List.flatten_nil, List.append_nil]; exact bytes_app (bytes_app hx.bytes (fillL_bytes _)) (bytes_app (bytes_app hy.bytes (fillL_bytes _)) (ends8_bytes _ _))
  rw [hCL]
  clear hx hy hk hno hkb hnb hB hTK hCL e1 e2 hc hd hV
  have v1 : IntKind.u64.wrap (n : Int) = (n : Int) := by simp only [IntKind.wrap, IntKind.bits, IntKind.signed]; simp; omega
  have v2 : IntKind.u64.wrap (m : Int) = (m : Int) := by simp only [IntKind.wrap, IntKind.bits, IntKind.signed]; simp; omega
  go_enter Try.func46, Try.ntmps46
  go_wp2_with (first | (refine wpList_box_new rfl 27 _ rfl (u8s key) rfl ?_; intro w1 b1 s1 l1) | (refine wpList_box_new rfl 42 _ rfl (u8s nonce) rfl ?_; intro w2 b2 s2 l2) | (refine wpList_load_blk rfl 27 _ rfl _ rfl (u8s key) _ (by first | exact b1.later l2 (by omega)) Try.underlying27 rfl (by rw [u8s_length, HS.out.1]; exact sizeKey) ?_) | (refine wpList_load_blk rfl 42 _ rfl _ rfl (u8s nonce) _ (by first | exact b2 | (rw [← s1]; exact b2)) Try.underlying42 rfl (by rw [u8s_length, HS.out.2.1]; exact sizeNonce) ?_) | (go_at_call 62; refine (rblock_any key 0 nonce HS.out.1 HS.out.2.1 HS.out.2.2.1 HS.out.2.2.2 ⟨by decide, by decide⟩ _).mono ?_; rintro e w4 ⟨rfl, l4⟩; rw [HB.out.1]) | (refine wpList_alloc_new rfl 103 rfl 64 _ zero64b ?_; intro w5 b5 s5 l5) | (refine wpList_store_blk rfl 103 103 _ _ rfl _ rfl _ (u8s B) rfl b5 (by rw [u8s_length, u8s_length, HB.out.2.1]; rfl) (by rw [u8s_length, HB.out.2.1]; exact sizeA64b) (u8s_one _) ?_; intro w6 b6 s6 k6) | (refine wpList_alloc_new rfl 27 rfl 32 _ zeroKeyR ?_; intro w7 b7 s7 l7))
  have q4 := l4.size
  obtain ⟨G, hG⟩ : ∃ G, w4.heap.size = G := ⟨_, rfl⟩
  obtain ⟨GK, hGK⟩ : ∃ K, G + 1 = K := ⟨_, rfl⟩
  have e7 : w6.heap.size = GK := by omega
  try simp only [Act.put, List.setIfInBounds_toArray, List.set_cons_zero, List.set_cons_succ]
  rw [hG] at b6 k6 ⊢
  rw [e7] at b7
  rw [hGK]
  have H7 : Hid (Blk w7 G 103 (u8s B) ∧ Blk w7 GK 27 (u8s (zs0 32)) ∧ Below w.heap.size w w7 ∧ G < GK ∧ w.heap.size ≤ G) := by
    have L5 := below_chain (below_chain (below_chain l1 l2 (by omega)) l4 (by omega)) l5 (by omega)
    exact ⟨b6.later l7 (by omega), b7, below_chain (below_kept L5 k6 L5.size (fun j hj => by omega)) l7 (by omega), by omega, by omega⟩
  clear b1 s1 l1 b2 s2 l2 l4 b5 s5 l5 b6 s6 k6 hG q4 b7 s7 l7 hGK e7
  go_loopw [11] (fun i wr => ∃ j : Nat, j ≤ 32 ∧ i = .int .i64 j ∧ Blk wr GK 27 (u8s (B.take j ++ zs0 (32 - j))) ∧ Kept (fun b => b = GK) w7 wr) (fun i _ => 32 - (intOf i).toNat)
  case atStart => exact ⟨0, Nat.zero_le _, rfl, H7.out.2.1, Kept.refl _ _⟩
  case round =>
    obtain ⟨j, hj, rfl, hbk, hkp⟩ := hrel
    by_cases hjl : j < 32
    · have hGG := H7.out.2.2.2.1
      have c1 := u8s_cell (H7.out.1.kept hkp (by omega)) j (by rw [HB.out.2.1]; omega)
      have hlen : (B.take j ++ zs0 (32 - j) : List Int).length = 32 := by rw [List.length_append, List.length_take, HB.out.2.1, zs0_length]; omega
      have cg := u8s_cell hbk j (by rw [hlen]; exact hjl)
      have fg := hbk.frozen j
      have hset : (B.take j ++ zs0 (32 - j) : List Int).set j (B.getD j 0) = B.take (j + 1) ++ zs0 (32 - (j + 1)) := by
        have h := take_next B j (by rw [HB.out.2.1]; omega) (32 - (j + 1))
        rw [show 32 - (j + 1) + 1 = 32 - j by omega] at h
        exact h
      obtain ⟨D, hD⟩ : ∃ D, B.getD j 0 = D := ⟨_, rfl⟩
      obtain ⟨Z, hZ⟩ : ∃ Z, (B.take j ++ zs0 (32 - j) : List Int).getD j 0 = Z := ⟨_, rfl⟩
      rw [hD] at c1 hset
      rw [hZ] at cg
      have HQ : Hid (Blk (wr.setCell ⟨GK, j, none⟩ (.int .u8 D)) GK 27 (u8s (B.take (j + 1) ++ zs0 (32 - (j + 1)))) ∧ Kept (fun b => b = GK) w7 (wr.setCell ⟨GK, j, none⟩ (.int .u8 D))) := by
        have R := hbk.set j (.int .u8 D)
        rw [u8s_set, hset] at R
        exact ⟨R, hkp.setCell rfl _⟩
      have i2 : (j : Int) < 32 := by omega
      have i4 : (j : Int) < 64 := by omega
      have i3 : (0 : Int) ≤ (j : Int) := by omega
      clear hD hZ hset hbk hkp hlen
      go_wp2_with fail
      exact ⟨⟨j + 1, by omega, by go_num, HQ.out.1, HQ.out.2⟩, by simp [intOf]; omega⟩
    · obtain rfl : 32 = j := by omega
      have J : Hid (Blk wr GK 27 (u8s TK) ∧ Below w.heap.size w wr) := by
        refine ⟨?_, below_kept H7.out.2.2.1 hkp H7.out.2.2.1.size (fun j hj => by have := H7.out.2.2.2; omega)⟩
        have e : B.take 32 ++ zs0 (32 - 32) = TK := by rw [HB.out.2.2.1]; simp [zs0]
        rw [← e]; exact hbk
      clear hbk hkp H7
      have i2 : ¬ ((32 : Nat) : Int) < 32 := by omega
      go_wp2_with fail
      refine (rlit_any (n : Int) (by omega) 8 (by decide) wr).mono ?_
      rintro e w8 ⟨v8, rfl, o8, l8⟩
      obtain ⟨p8, c8, rfl, d8, hc8, _⟩ := isO_seen (n := 8) o8 (leB_length _ _) (leB_bytes _ _) (by decide)
      have H8 : Hid (Blk w8 GK 27 (u8s TK) ∧ Below w.heap.size w w8 ∧ Seen w8 p8 8 (leB 8 (n : Int)) ∧ 8 ≤ c8) := ⟨J.out.1.later l8 J.out.1.lt, below_chain J.out.2 l8 J.out.2.size, d8, hc8⟩
      clear o8 d8 l8 hc8 J
      go_wp2_with fail
      refine (rlit_any (m : Int) (by omega) 8 (by decide) w8).mono ?_
      rintro e w9 ⟨v9, rfl, o9, l9⟩
      obtain ⟨p9, c9, rfl, d9, hc9, _⟩ := isO_seen (n := 8) o9 (leB_length _ _) (leB_bytes _ _) (by decide)
      have H9 : Hid (Blk w9 GK 27 (u8s TK) ∧ Below w.heap.size w w9 ∧ Seen w9 p8 8 (leB 8 (n : Int)) ∧ 8 ≤ c8 ∧ Seen w9 p9 8 (leB 8 (m : Int)) ∧ 8 ≤ c9) := ⟨H8.out.1.later l9 H8.out.1.lt, below_chain H8.out.2.1 l9 H8.out.2.1.size, H8.out.2.2.1.later l9 (Nat.le_refl _), H8.out.2.2.2, d9, hc9⟩
      clear o9 d9 l9 hc9 H8
      go_wp2_with fail
      refine (two_any p8 p9 8 8 c8 c9 _ _ w9 H9.out.2.2.1 H9.out.2.2.2.2.1 H9.out.2.2.2.1 H9.out.2.2.2.2.2 (by decide)).mono ?_
      rintro e wA ⟨vA, rfl, oA, lA⟩
      obtain ⟨pA, cA, rfl, dA, hcA, _⟩ := isO_seen (n := 16) (zs := ends8 n m) (by have e := ends8_length n m; rw [ends8] at e ⊢; rw [e] at oA; exact oA) (ends8_length _ _) (ends8_bytes _ _) (by decide)
      have HA : Hid (Blk wA GK 27 (u8s TK) ∧ Below w.heap.size w wA ∧ Seen wA pA 16 (ends8 n m) ∧ 16 ≤ cA) := ⟨H9.out.1.later lA H9.out.1.lt, below_chain H9.out.2.1 lA H9.out.2.1.size, dA, hcA⟩
      clear oA dA lA hcA H9
      go_wp2_with fail
      try simp only [Act.put, List.setIfInBounds_toArray, List.set_cons_zero, List.set_cons_succ]
      refine region_inv [.val (.agg (u8s TK).toArray), .val (.slice ao n c), .any (isS (ms ++ fillL n)) (isS_later _), .val (.slice bo m d), .any (isS (zs ++ fillL m)) (isS_later _), .val (.slice pA 16 cA), .any (isP 3 [ms ++ fillL n, zs ++ fillL m, ends8 n m]) (isP_later _ _), .any (isS V) (isS_later _), .val (.agg (u8s CL).toArray), .blk 77 (u8s (zs0 16))] (by kernel_rfl) (by kernel_rfl) (by kernel_rfl) ?_ ?_
      · refine Steps'.cons ?_ (Steps'.cons ?_ (Steps'.cons ?_ (Steps'.cons ?_ (Steps'.cons ?_ (Steps'.cons ?_ (Steps'.cons ?_ (Steps'.cons ?_ (Steps'.cons ?_ (Steps'.cons ?_ (Steps'.one _ _ _ _ _ _ _))))))))))
        · intro ax wx hb hs hd
          have h10 : ax.tmps.getD 10 undef = (.pointer (some ⟨GK, 0, none⟩)) := hs 10 (by kernel_rfl)
          exact Does.load 27 (.tmp 10) rfl GK 0 h10 (u8s TK) _ (blkAllR (HA.out.1.later hb HA.out.1.lt)) Try.underlying27 rfl (by rw [u8s_length, HB.out.2.2.2.1]; exact sizeKey)
        · intro ax wx hb hs hd
          have h2 : ax.tmps.getD 2 undef = (.slice ao n c) := hs 2 (by kernel_rfl)
          refine Does.value (.slice ao n c) ?_ rfl
          go_simp
        · intro ax wx hb hs hd
          have h38 : ax.tmps.getD 38 undef = (.slice ao n c) := hd 1 38 rfl (by kernel_rfl) (by decide)
          refine Does.call 67 #[(.slice ao n c)] (by go_simp) ?_
          exact filled_is _ _ _ _ (by omega) wx (HX.out.1.later (below_chain HA.out.2.1 hb HA.out.2.1.size) (Nat.le_refl _))
        · intro ax wx hb hs hd
          have h3 : ax.tmps.getD 3 undef = (.slice bo m d) := hs 3 (by kernel_rfl)
          refine Does.value (.slice bo m d) ?_ rfl
          go_simp
        · intro ax wx hb hs hd
          have h40 : ax.tmps.getD 40 undef = (.slice bo m d) := hd 3 40 rfl (by kernel_rfl) (by decide)
          refine Does.call 67 #[(.slice bo m d)] (by go_simp) ?_
          exact filled_is _ _ _ _ (by omega) wx (HX.out.2.1.later (below_chain HA.out.2.1 hb HA.out.2.1.size) (Nat.le_refl _))
        · intro ax wx hb hs hd
          have h12 : ax.tmps.getD 12 undef = (.slice pA 16 cA) := hs 12 (by kernel_rfl)
          refine Does.value (.slice pA 16 cA) ?_ rfl
          go_simp
        · intro ax wx hb hs hd
          have h42 : ax.tmps.getD 42 undef = (.slice pA 16 cA) := hd 5 42 rfl (by kernel_rfl) (by decide)
          obtain ⟨x1, n1, c1, h39, s39, q39⟩ : isS (ms ++ fillL n) (ax.tmps.getD 39 undef) wx := hd 2 39 rfl (by kernel_rfl) (by decide)
          obtain ⟨x2, n2, c2, h41, s41, q41⟩ : isS (zs ++ fillL m) (ax.tmps.getD 41 undef) wx := hd 4 41 rfl (by kernel_rfl) (by decide)
          exact Does.rows3 _ rfl _ _ _ _ _ _ _ _ _ _ _ _ (by simp only [List.map_toArray, List.map_cons, List.map_nil, Act.eval, h39, h41, h42]) ⟨s39, q39⟩ ⟨s41, q41⟩ ⟨HA.out.2.2.1.later hb (Nat.le_refl _), HA.out.2.2.2⟩
        · intro ax wx hb hs hd
          obtain ⟨b, c', h43, s43⟩ : isP 3 [ms ++ fillL n, zs ++ fillL m, ends8 n m] (ax.tmps.getD 43 undef) wx := hd 6 43 rfl (by kernel_rfl) (by decide)
          refine Does.call 66 #[.slice (some ⟨b, 0, none⟩) 3 c'] (by go_simp) ?_
          have q := join_any _ 3 c' _ wx s43 (by decide) (by rw [HV.out.1]; exact HV.out.2.1)
          rw [HV.out.1] at q
          refine q.mono ?_
          rintro e w' ⟨v, rfl, o, l⟩
          obtain ⟨xA, cB, rfl, sB, qB, _⟩ := own_data HV.out.2.2 (by have := HV.out.2.1; omega) o
          exact ⟨_, rfl, ⟨xA, _, cB, rfl, sB, qB⟩, l⟩
        · intro ax wx hb hs hd
          have h37 : ax.tmps.getD 37 undef = (.agg (u8s TK).toArray) := hd 0 37 rfl (by kernel_rfl) (by decide)
          obtain ⟨x, n', c', h44, s44, _⟩ : isS V (ax.tmps.getD 44 undef) wx := hd 7 44 rfl (by kernel_rfl) (by decide)
          refine Does.call 65 #[(.agg (u8s TK).toArray), .slice x n' c'] (by go_simp) ?_
          have q := rtsum_any TK HB.out.2.2.2.1 HB.out.2.2.2.2.1 x n' c' V wx s44
          rw [HB.out.2.2.2.2.2.2.2.1] at q
          refine q.mono ?_
          rintro e w' ⟨rfl, l⟩
          exact ⟨_, rfl, rfl, l⟩
        · intro ax wx hb hs hd
          exact Does.alloc 77 rfl 16 _ zeroTag hb.size
      · intro wx hb
        refine @Ends.val _ _ _ _ _ _ _ _ _ (.agg (u8s TK).toArray) rfl ?_
        refine @Ends.val _ _ _ _ _ _ _ _ _ (.slice ao n c) rfl ?_
        refine @Ends.any _ _ _ _ _ _ _ _ _ (isS (ms ++ fillL n)) (isS_later _) rfl ?_
        intro v2 p2
        refine @Ends.val _ _ _ _ _ _ _ _ _ (.slice bo m d) rfl ?_
        refine @Ends.any _ _ _ _ _ _ _ _ _ (isS (zs ++ fillL m)) (isS_later _) rfl ?_
        intro v4 p4
        refine @Ends.val _ _ _ _ _ _ _ _ _ (.slice pA 16 cA) rfl ?_
        refine @Ends.any _ _ _ _ _ _ _ _ _ (isP 3 [ms ++ fillL n, zs ++ fillL m, ends8 n m]) (isP_later _ _) rfl ?_
        intro v6 p6
        refine @Ends.any _ _ _ _ _ _ _ _ _ (isS V) (isS_later _) rfl ?_
        intro v7 p7
        refine @Ends.val _ _ _ _ _ _ _ _ _ (.agg (u8s CL).toArray) rfl ?_
        refine @Ends.blk _ _ _ _ _ _ _ _ _ 77 (u8s (zs0 16)) rfl ?_
        intro g9 hg9 bg9
        refine @Ends.one _ _ _ _ _ _ _ ?_
        simp only [Act.put, List.setIfInBounds_toArray, List.set_cons_zero, List.set_cons_succ]
        refine last_store 77 (.tmp 13) (.tmp 45) rfl rfl g9 rfl 77 _ (u8s CL) rfl bg9 (by rw [u8s_length, HB.out.2.2.2.2.2.1]; rfl) (by rw [u8s_length, HB.out.2.2.2.2.2.1]; exact sizeTag) (u8s_one _) ?_
        intro wB bB sB kB
        have H10 : Hid (Below w.heap.size w wB ∧ Blk wB g9 77 (u8s CL) ∧ g9 < wB.heap.size) := ⟨below_chain HA.out.2.1 (below_kept hb kB hb.size (fun j hj => by omega)) HA.out.2.1.size, bB, bB.lt⟩
        clear hb hg9 bg9 bB sB kB HA
        go_wp2_with fail
        go_loopw [14, 15] (fun v i wr => ∃ k : Nat, k ≤ 16 ∧ i = .int .i64 k ∧ wr.ownsRow wB.heap.size 5 1 v k ((CL.map (Value.int .u8)).take k) ∧ Below wB.heap.size wB wr) (fun _ i _ => 16 - (intOf i).toNat)
        case atStart => exact ⟨0, Nat.zero_le _, rfl, World.ownsRow_nil _ _ _ _, Below.refl _ _⟩
        case round =>
          obtain ⟨k, hk, rfl, hown, hbel⟩ := hrel
          have hsz := hbel.size
          by_cases hlt : k < 16
          · obtain ⟨D, HD⟩ : ∃ D, Hid (CL.getD k 0 = D) := ⟨_, rfl⟩
            have cD := u8s_cell (H10.out.2.1.later hbel H10.out.2.2) k (by rw [HB.out.2.2.2.2.2.1]; exact hlt)
            rw [HD.out] at cD
            have i1 : (k : Int) < 16 := by omega
            have i3 : (0 : Int) ≤ (k : Int) := by omega
            go_wp2_with (at_builtin; refine wpList_append_own _ rfl _ _ 22 rfl wB.heap.size 5 i0 (.int .u8 0) 1 1 Try.underlying22 hi hz0 hz1 hz2 rfl (by decide) _ _ _ rfl (hown.alloc _) ⟨wr.heap.size, 0, none⟩ 1 1 [.int .u8 D] rfl rfl ?c1 ?c2 ?c3 ?c4 ?c5 ?_)
            try case c1 => exact one_new _ _ _
            case c2 => first | rfl | (intro u hu; simp at hu; subst hu; rfl)
            case c3 => unfold maxLen; omega
            case c4 => omega
            case c5 => first | omega | (simp; omega)
            · intro v' w2 hown' hgrow _
              have R := step_own hbel hown (by rw [HB.out.2.2.2.2.2.1]; exact hlt) HD.out hown' hgrow
              clear hown' hgrow hown hbel cD
              go_wp2_with fail
              exact ⟨⟨k + 1, by omega, by go_num, R.1, R.2⟩, by simp [intOf]; omega⟩
          · obtain rfl : 16 = k := by omega
            have HO : Hid (wr.ownsRow w.heap.size 5 1 u14 16 (CL.map (Value.int .u8)) ∧ Below w.heap.size w wr) := ⟨by have h := hown; rw [List.take_of_length_le (by simp [HB.out.2.2.2.2.2.1])] at h; exact ownsRow_base h H10.out.1.size, below_chain H10.out.1 hbel H10.out.1.size⟩
            have i1 : ¬ ((16 : Nat) : Int) < 16 := by omega
            clear hown hbel
            go_wp2_with fail
            go_ret
            exact ⟨_, rfl, HO.out⟩
end Go.Proofs.Ytcimiajkbgabiaa

namespace Go.Proofs.Ytcimiajkbgabiaa
open Go.RowKit
set_option linter.unusedVariables false
set_option linter.unusedSimpArgs false

theorem take_same_succ (xs ys : List Int) (k : Nat) (hx : k < xs.length) (hy : k < ys.length) : (xs.take (k + 1) = ys.take (k + 1)) ↔ (xs.take k = ys.take k ∧ xs.getD k 0 = ys.getD k 0) := by
  rw [List.take_succ_eq_append_getElem hx, List.take_succ_eq_append_getElem hy]
  have e1 : xs.getD k 0 = xs[k] := by simp [List.getD, hx]
  have e2 : ys.getD k 0 = ys[k] := by simp [List.getD, hy]
  rw [e1, e2]
  constructor
  · intro h
    have := List.append_inj h (by simp; omega)
    simpa using this
  · rintro ⟨h1, h2⟩; rw [h1, h2]
/-- The marks behind what lent lends. -/
def marks : List Int := (List.range 90).map fun i => ((160 + i % 80 : Nat) : Int)
theorem marks_length : marks.length = 90 := by simp [marks]
theorem marks_getD (k : Nat) (hk : k < 90) : marks.getD k 0 = 160 + (k : Int) % 80 := by simp [marks, List.getD, hk]
theorem marks_bytes : Bytes marks := by
  intro z hz
  simp only [marks, List.mem_map, List.mem_range] at hz
  obtain ⟨i, hi, rfl⟩ := hz
  omega
theorem bytes_marks {xs : List Int} (h : Bytes xs) : Bytes (xs ++ marks) := bytes_app h marks_bytes

/-- The bytes that were lent, seen; written. -/
theorem Seen.lent {w : World} {g n : Nat} {ys : List Int} (h : RowAt w g (ys ++ marks)) (hl : ys.length = n) (hb : Bytes ys) (ht : n ≤ 140737488355328) : Seen w (some ⟨g, 0, none⟩) n ys := by
  have h1 := h.take n
  rw [List.take_append_of_le_length (by omega), List.take_of_length_le (by omega)] at h1
  have := Seen.of_row (n := n) h1 (by omega) ht hb
  rwa [List.take_of_length_le (by omega)] at this
theorem bytes_set {us : List Int} (h : Bytes us) (m : Nat) (z : Int) (hz : 0 ≤ z ∧ z < 256) : Bytes (us.set m z) := by
  intro y hy
  rcases List.mem_or_eq_of_mem_set hy with h1 | h1
  · exact h y h1
  · rw [h1]; exact hz
theorem RowAt.lentSet {w : World} {g m : Nat} {us : List Int} (h : RowAt w g (us ++ marks)) (hm : m < us.length) (z : Int) : RowAt (w.setCell ⟨g, m, none⟩ (.int .u8 z)) g (us.set m z ++ marks) := by
  have h1 := h.set m (by simp; omega) z
  rwa [List.set_append_left _ _ hm] at h1
theorem RowAt.lentCell {w : World} {g m : Nat} {us : List Int} (h : RowAt w g (us ++ marks)) (hm : m < us.length) : w.cell? ⟨g, m, none⟩ = some (.int .u8 (us.getD m 0)) := by
  rw [h.cell m (by simp; omega)]
  simp [List.getD, List.getElem?_append, hm]
theorem xor8_bd (x y : Int) (hx : 0 ≤ x ∧ x < 256) (hy : 0 ≤ y ∧ y < 256) : 0 ≤ bits .xor .u8 x y ∧ bits .xor .u8 x y < 256 := by
  rw [u8_xor x y hx.1 hx.2 hy.1 hy.2]
  have : x.toNat ^^^ y.toNat < 2 ^ 8 := Nat.xor_lt_two_pow (by omega) (by omega)
  omega
end Go.Proofs.Ytcimiajkbgabiaa

namespace Go.Proofs.Ytcimiajkbgabiaa
open Go.RowKit
set_option linter.unusedVariables false
set_option linter.unusedSimpArgs false

set_option maxRecDepth 20000 in
set_option maxHeartbeats 1000000 in
theorem reqb_any (ao bo : Option Addr) (n n' c c' : Nat) (xs ys : List Int) (w : World) (hx : Seen w ao n xs) (hy : Seen w bo n' ys) :
    Calls Try.prog 13 #[.slice ao n c, .slice bo n' c'] w fun e w' => e = .returned (.bool (decide (xs = ys))) ∧ ∃ q, w' = w.drewN q := by
  have t1 := hx.top
  have t2 := hy.top
  by_cases hne : n = n'
  · subst hne
    have HL : Hid (xs.length = n ∧ ys.length = n) := ⟨hx.len, hy.len⟩
    go_enter Try.func13, Try.ntmps13
    go_wp2
    go_loopw [5] (fun i wr => ∃ k : Nat, k ≤ n ∧ i = .int .i64 k ∧ xs.take k = ys.take k ∧ ∃ q, wr = w.drewN q) (fun i _ => n - (intOf i).toNat)
    case atStart => exact ⟨0, Nat.zero_le _, rfl, by simp, 0, rfl⟩
    case round =>
      obtain ⟨k, hk, rfl, hs, q, rfl⟩ := hrel
      by_cases hlt : k < n
      · obtain ⟨b, o, rfl, hb, hc⟩ := hx.cells (by omega)
        obtain ⟨b', o', rfl, hb', hc'⟩ := hy.cells (by omega)
        have c1 := hc k hlt
        have c2 := hc' k hlt
        have HT := take_same_succ xs ys k (by have := HL.out.1; omega) (by have := HL.out.2; omega)
        obtain ⟨X, hX⟩ : ∃ X, xs.getD k 0 = X := ⟨_, rfl⟩
        obtain ⟨Y, hY⟩ : ∃ Y, ys.getD k 0 = Y := ⟨_, rfl⟩
        rw [hX] at c1 HT
        rw [hY] at c2 HT
        have HS : Hid (xs.take k = ys.take k) := hs
        have HT' : Hid (xs.take (k + 1) = ys.take (k + 1) ↔ xs.take k = ys.take k ∧ X = Y) := HT
        have i1 : (0 : Int) ≤ (k : Int) := by omega
        have i2 : (k : Int) < (n : Int) := by omega
        clear hX hY hc hc' hx hy hs HT hb hb'
        by_cases e : X = Y
        · have hd : (X != Y) = false := by simp [e]
          have HE : Hid (X = Y) := e
          clear e
          go_wp2
          go_quiet (fail)
          go_wp2
          go_roundw
          case rel => exact ⟨k + 1, by omega, by go_num, HT'.out.2 ⟨HS.out, HE.out⟩, _, rfl⟩
          case measure => simp [intOf]; omega
        · have hd : (X != Y) = true := by simp [e]
          have HE : Hid (¬ X = Y) := e
          clear e
          have HN : Hid (decide (xs = ys) = false) := by
            show _ = _
            apply decide_eq_false
            intro h
            exact HE.out (HT'.out.1 (by rw [h])).2
          go_wp2
          go_quiet (fail)
          go_wp2
          go_ret
          exact ⟨ret_bool HN.out.symm, _, World.drewN_drewN _ _ _⟩
      · have HE : Hid (decide (xs = ys) = true) := by
          show _ = _
          apply decide_eq_true
          have e1 : xs.take k = xs := List.take_of_length_le (by have := HL.out.1; omega)
          have e2 : ys.take k = ys := List.take_of_length_le (by have := HL.out.2; omega)
          rw [← e1, ← e2]; exact hs
        clear hs
        go_wp2
        go_ret
        exact ⟨ret_bool HE.out.symm, _, rfl⟩
  · have h : ((n : Int) != (n' : Int)) = true := by simp; omega
    have HN : Hid (decide (xs = ys) = false) := by
      show _ = _
      apply decide_eq_false
      intro h
      exact hne (by rw [← hx.len, ← hy.len, h])
    go_enter Try.func13, Try.ntmps13
    go_wp2
    go_ret
    exact ⟨ret_bool HN.out.symm, 0, rfl⟩
end Go.Proofs.Ytcimiajkbgabiaa

namespace Go.Proofs.Ytcimiajkbgabiaa
open Go.RowKit
set_option linter.unusedVariables false
set_option linter.unusedSimpArgs false

set_option maxRecDepth 20000 in
set_option maxHeartbeats 1000000 in
theorem rwrong_any (ao bo : Option Addr) (n m c d : Nat) (w : World) : Calls Try.prog 29 #[.slice ao n c, .slice bo m d] w fun e w' => e = .returned (.int .i64 (boxE n m)) ∧ w = w' := by
  by_cases h1 : m < 16
  · have e : boxE n m = 4 := by rw [boxE, if_pos h1]
    have i1 : (m : Int) < 16 := by omega
    rw [e]
    clear e
    go_enter Try.func29, Try.ntmps29
    go_wp2_with fail
    go_ret
    exact ⟨rfl, rfl⟩
  · have i1 : ¬ (m : Int) < 16 := by omega
    by_cases h2 : 1048576 < n
    · have e : boxE n m = 3 := by rw [boxE, if_neg h1, if_pos (.inl h2)]
      have i2 : (1048576 : Int) < (n : Int) := by omega
      rw [e]
      clear e
      go_enter Try.func29, Try.ntmps29
      go_wp2_with fail
      go_ret
      exact ⟨rfl, rfl⟩
    · have i2 : ¬ (1048576 : Int) < (n : Int) := by omega
      by_cases h3 : 1048592 < m
      · have e : boxE n m = 3 := by rw [boxE, if_neg h1, if_pos (.inr h3)]
        have i3 : (1048592 : Int) < (m : Int) := by omega
        rw [e]
        clear e
        go_enter Try.func29, Try.ntmps29
        go_wp2_with fail
        go_ret
        exact ⟨rfl, rfl⟩
      · have e : boxE n m = 0 := by rw [boxE, if_neg h1, if_neg (by omega)]
        have i3 : ¬ (1048592 : Int) < (m : Int) := by omega
        rw [e]
        clear e
        go_enter Try.func29, Try.ntmps29
        go_wp2_with fail
        go_ret
        exact ⟨rfl, rfl⟩
set_option maxRecDepth 20000 in
set_option maxHeartbeats 4000000 in
theorem rtext_any (key nonce : List Int) (n c M d : Nat) (ao bo : Option Addr) (ms zs : List Int) (hk : key.length = 32) (hno : nonce.length = 12) (hkb : Bytes key) (hnb : Bytes nonce) (hm : M + 16 ≤ 1048592) (hn : n ≤ 1048576) (w : World) (hx : Seen w ao n ms) (hy : Seen w bo (M + 16) zs) (hc : n ≤ c) (hd : M + 16 ≤ d) :
    Calls Try.prog 30 #[.agg (u8s key).toArray, .agg (u8s nonce).toArray, .slice ao n c, .slice bo (M + 16) d] w fun e w' => (opensL key nonce ms zs = false ∧ e = .returned (.tuple #[.slice none 0 0, .bool false]) ∨ opensL key nonce ms zs = true ∧ ∃ v, e = .returned (.tuple #[v, .bool true]) ∧ isO w.heap.size M (textL key nonce zs) v w') ∧ Below w.heap.size w w' := by
  have HS : Hid (key.length = 32 ∧ nonce.length = 12 ∧ Bytes key ∧ Bytes nonce ∧ n ≤ c) := ⟨hk, hno, hkb, hnb, hc⟩
  have SX : Hid (∀ W, Below w.heap.size w W → Seen W ao n ms ∧ Seen W (subA bo 0 d) M (zs.take M) ∧ Seen W (subA bo M d) 16 (zs.drop M)) := fun W hW => by
    have y := hy.later hW (Nat.le_refl _)
    have a := y.sub 0 M d (Nat.zero_le _) (by omega) hd
    have b := y.sub M (M + 16) d (by omega) (Nat.le_refl _) hd
    simp only [Nat.sub_zero, List.drop_zero] at a
    rw [Nat.add_sub_cancel_left, List.take_of_length_le (by rw [List.length_drop, y.len]; omega)] at b
    exact ⟨hx.later hW (Nat.le_refl _), a, b⟩
  have hsh : ∀ W, (Instr.sliceAt 22 (.slice bo (M + 16) d) none (some (.int .i64 (M : Int))) none).run Try.prog W = .ok (.slice (subA bo 0 d) M d) W := fun W => sl_h bo (M + 16) d M (by omega) W
  have hsl : ∀ W, (Instr.sliceAt 22 (.slice bo (M + 16) d) (some (.int .i64 (M : Int))) none none).run Try.prog W = .ok (.slice (subA bo M d) 16 (d - M)) W := fun W => by
    have q := sl_l bo (M + 16) d M (by omega) W
    rwa [Nat.add_sub_cancel_left] at q
  obtain ⟨CL, hCL⟩ : ∃ C, codeL key nonce ms (zs.take M) = C := ⟨_, rfl⟩
  obtain ⟨OB, hOB⟩ : ∃ O, opensL key nonce ms zs = O := ⟨_, rfl⟩
  have HO : Hid (codeL key nonce ms (zs.take M) = CL ∧ decide (zs.drop M = CL) = OB ∧ CL.length = 16 ∧ Bytes CL ∧ textL key nonce zs = over key nonce 64 (zs.take M)) := by
    refine ⟨hCL, ?_, by rw [← hCL, codeL_length], by rw [← hCL]; exact codeL_bytes _ _ _ _, ?_⟩
    · rw [← hOB, opensL, hy.len, Nat.add_sub_cancel, hCL]; exact decide_eq_decide.2 eq_comm
    · rw [textL, hy.len, Nat.add_sub_cancel, coverL]
  rw [hOB]
  have a2 : (M : Int) + 16 - 16 = (M : Int) := by omega
  have i0 : ¬ (M : Int) < 0 := by omega
  have uK : (Try.prog.info? 27).map (·.size) = some (u8s key).length := by rw [u8s_length, hk]; exact sizeKey
  have uN : (Try.prog.info? 42).map (·.size) = some (u8s nonce).length := by rw [u8s_length, hno]; exact sizeNonce
  clear hx hy hk hno hkb hnb hc hCL hOB
  go_enter Try.func30, Try.ntmps30
  go_wp2_with (first | (refine wpList_box_new rfl 27 _ rfl (u8s key) rfl ?_; intro w1 b1 s1 l1) | (refine wpList_box_new rfl 42 _ rfl (u8s nonce) rfl ?_; intro w2 b2 s2 l2; rw [s1] at b2; have H2 : Hid (Blk w2 w.heap.size 27 (u8s key) ∧ Blk w2 (w.heap.size + 1) 42 (u8s nonce) ∧ Below w.heap.size w w2) := ⟨b1.later l2 (by omega), b2, below_chain l1 l2 (by omega)⟩; clear b1 b2))
  clear s1 l1 s2 l2
  try simp only [Act.put, List.setIfInBounds_toArray, List.set_cons_zero, List.set_cons_succ]
  have RS : Hid (∀ W, Below w2.heap.size w2 W → W.rangeAt w.heap.size 0 (u8s key) ∧ W.rangeAt (w.heap.size + 1) 0 (u8s nonce)) := fun W hW => ⟨blkAllR (H2.out.1.later hW H2.out.1.lt), blkAllR (H2.out.2.1.later hW H2.out.2.1.lt)⟩
  refine wp_region_noPanic (wp_region_held_drew (S := fun W => W.rangeAt w.heap.size 0 (u8s key) ∧ W.rangeAt (w.heap.size + 1) 0 (u8s nonce)) (by kernel_rfl) (RS.out _ (below_dn (Below.refl _ _) 1)) (fun hH => ?_))
  refine hTake 0 (some 14) (.int .i64 (M : Int)) rfl rfl (by kernel_rfl) (by kernel_rfl) (by kernel_rfl) (fun _ _ _ h => h) (by rfl) (fun W' _ => by rfl) hH ?_
  simp only [Act.put, List.setIfInBounds_toArray, List.set_cons_zero, List.set_cons_succ]
  refine hTake 1 (some 15) (.bool false) rfl rfl (by kernel_rfl) (by kernel_rfl) (by kernel_rfl) (fun _ _ _ h => h) (by rfl) (fun W' _ => by go_simp) hH ?_
  simp only [Act.put, List.setIfInBounds_toArray, List.set_cons_zero, List.set_cons_succ]
  refine hTake 2 (some 16) (.bool false) rfl rfl (by kernel_rfl) (by kernel_rfl) (by kernel_rfl) (fun _ _ _ h => h) (by rfl) (fun W' _ => by rfl) hH ?_
  simp only [Act.put, List.setIfInBounds_toArray, List.set_cons_zero, List.set_cons_succ]
  refine hTake 3 (some 17) (.slice bo (M + 16) d) rfl rfl (by kernel_rfl) (by kernel_rfl) (by kernel_rfl) (fun _ _ _ h => h) (by rfl) (fun W' _ => by rfl) hH ?_
  simp only [Act.put, List.setIfInBounds_toArray, List.set_cons_zero, List.set_cons_succ]
  refine hTake 4 (some 18) (.int .i64 (M : Int)) rfl rfl (by kernel_rfl) (by kernel_rfl) (by kernel_rfl) (fun _ _ _ h => h) (by rfl) (fun W' _ => by rfl) hH ?_
  simp only [Act.put, List.setIfInBounds_toArray, List.set_cons_zero, List.set_cons_succ]
  refine hTake 5 (some 19) (.slice (subA bo M d) 16 (d - M)) rfl rfl (by kernel_rfl) (by kernel_rfl) (by kernel_rfl) (fun _ _ _ h => h) (by rfl) (fun W' _ => by (have q1 := hsl W'; go_simp)) hH ?_
  simp only [Act.put, List.setIfInBounds_toArray, List.set_cons_zero, List.set_cons_succ]
  refine hLoad 6 (some 20) (u8s key) rfl rfl (by kernel_rfl) (by kernel_rfl) (by kernel_rfl) (fun _ _ _ h => h) (by rfl) 27 (.tmp 4) rfl w.heap.size 0 rfl _ (fun _ h => h.1) Try.underlying27 rfl uK hH ?_
  simp only [Act.put, List.setIfInBounds_toArray, List.set_cons_zero, List.set_cons_succ]
  refine hLoad 7 (some 21) (u8s nonce) rfl rfl (by kernel_rfl) (by kernel_rfl) (by kernel_rfl) (fun _ _ _ h => h) (by rfl) 42 (.tmp 5) rfl (w.heap.size + 1) 0 rfl _ (fun _ h => h.2) Try.underlying42 rfl uN hH ?_
  simp only [Act.put, List.setIfInBounds_toArray, List.set_cons_zero, List.set_cons_succ]
  refine hTake 8 (some 22) (.slice ao n c) rfl rfl (by kernel_rfl) (by kernel_rfl) (by kernel_rfl) (fun _ _ _ h => h) (by rfl) (fun W' _ => by rfl) hH ?_
  simp only [Act.put, List.setIfInBounds_toArray, List.set_cons_zero, List.set_cons_succ]
  refine hTake 9 (some 23) (.slice bo (M + 16) d) rfl rfl (by kernel_rfl) (by kernel_rfl) (by kernel_rfl) (fun _ _ _ h => h) (by rfl) (fun W' _ => by rfl) hH ?_
  simp only [Act.put, List.setIfInBounds_toArray, List.set_cons_zero, List.set_cons_succ]
  refine hTake 10 (some 24) (.int .i64 (M : Int)) rfl rfl (by kernel_rfl) (by kernel_rfl) (by kernel_rfl) (fun _ _ _ h => h) (by rfl) (fun W' _ => by rfl) hH ?_
  simp only [Act.put, List.setIfInBounds_toArray, List.set_cons_zero, List.set_cons_succ]
  refine hTake 11 (some 25) (.slice (subA bo 0 d) M d) rfl rfl (by kernel_rfl) (by kernel_rfl) (by kernel_rfl) (fun _ _ _ h => h) (by rfl) (fun W' _ => by (have q1 := hsh W'; go_simp)) hH ?_
  simp only [Act.put, List.setIfInBounds_toArray, List.set_cons_zero, List.set_cons_succ]
  refine wpAnyH_ready (rs := [12]) (by kernel_rfl) (by simp) (AllReadyH.cons rfl (fun K hK => ?_) AllReadyH.nil)
  rw [if_pos (by rfl)]
  go_simp
  go_wp2_with (go_at_call 46; refine (rtag_any key nonce n c M d ao (subA bo 0 d) ms _ HS.out.1 HS.out.2.1 HS.out.2.2.1 HS.out.2.2.2.1 w2.drew (SX.out _ (below_dn H2.out.2.2 1)).1 (SX.out _ (below_dn H2.out.2.2 1)).2.1 HS.out.2.2.2.2 (by omega) (by omega) (by omega)).mono ?_; rintro e wA ⟨vA, rfl, oA, lA⟩; rw [HO.out.1] at oA; obtain ⟨xA, cA, rfl, sA, _⟩ := isO_seen (n := 16) oA HO.out.2.2.1 HO.out.2.2.2.1 (by decide); have GA : Hid (Below w2.heap.size w2 wA ∧ Seen wA xA 16 CL) := ⟨below_chain (below_dn (Below.refl w2.heap.size w2) 1) lA (Nat.le_refl _), sA⟩; clear oA lA sA)
  refine hK.out _ _ (RS.out _ (GA.out.1)) (fun hH => ?_)
  clear hK K
  refine wpAnyH_ready (rs := [13]) (by kernel_rfl) (by simp) (AllReadyH.cons rfl (fun K hK => ?_) AllReadyH.nil)
  rw [if_pos (by rfl)]
  go_simp
  go_wp2_with (go_at_call 13; refine (reqb_any (subA bo M d) xA 16 16 (d - M) cA _ _ _ (SX.out _ (below_chain H2.out.2.2 GA.out.1 H2.out.2.2.size)).2.2 GA.out.2).mono ?_; rintro e wC ⟨rfl, qC, rfl⟩; rw [HO.out.2.1])
  refine hK.out _ _ (RS.out _ (below_dn GA.out.1 qC)) (fun hH => ?_)
  clear hK K
  refine hTake 14 (some 28) (.bool (!OB)) rfl rfl (by kernel_rfl) (by kernel_rfl) (by kernel_rfl) (fun _ _ _ h => h) (by rfl) (fun W' _ => by go_simp) hH ?_
  simp only [Act.put, List.setIfInBounds_toArray, List.set_cons_zero, List.set_cons_succ]
  refine hTake 15 (some 29) (.bool (!OB)) rfl rfl (by kernel_rfl) (by kernel_rfl) (by kernel_rfl) (fun _ _ _ h => h) (by rfl) (fun W' _ => by go_simp) hH ?_
  simp only [Act.put, List.setIfInBounds_toArray, List.set_cons_zero, List.set_cons_succ]
  refine wpAnyH_done (by kernel_rfl) (NoPanic.normal ?_) _
  have H3 : Hid (Blk (wA.drewN qC) w.heap.size 27 (u8s key) ∧ Blk (wA.drewN qC) (w.heap.size + 1) 42 (u8s nonce) ∧ Below w.heap.size w (wA.drewN qC)) := ⟨(H2.out.1.later GA.out.1 H2.out.1.lt).drewN qC, (H2.out.2.1.later GA.out.1 H2.out.2.1.lt).drewN qC, below_dn (below_chain H2.out.2.2 GA.out.1 H2.out.2.2.size) qC⟩
  obtain ⟨w3, hw3⟩ : ∃ x, wA.drewN qC = x := ⟨_, rfl⟩
  rw [hw3] at H3 ⊢
  clear hw3 hH GA RS
  cases OB
  · go_wp2_with fail
    go_ret2
    exact ⟨rfl, H3.out.2.2⟩
  · simp only [Bool.not_true]
    go_wp2_with fail
    try simp only [Act.put, List.setIfInBounds_toArray, List.set_cons_zero, List.set_cons_succ]
    refine region_inv [.val (.agg (u8s key).toArray), .val (.agg (u8s nonce).toArray), .val (.slice bo (M + 16) d), .val (.int .i64 (M : Int)), .val (.slice (subA bo 0 d) M d), .any (isO w.heap.size M (textL key nonce zs)) (isO_later _ _ _), .any (isO w.heap.size M (textL key nonce zs)) (isO_later _ _ _)] (by kernel_rfl) (by kernel_rfl) (by kernel_rfl) ?_ ?_
    · refine Steps'.cons ?_ (Steps'.cons ?_ (Steps'.cons ?_ (Steps'.cons ?_ (Steps'.cons ?_ (Steps'.cons ?_ (Steps'.cons ?_ (Steps'.one _ _ _ _ _ _ _)))))))
      · intro ax wz hb hs hd
        have h4 : ax.tmps.getD 4 undef = (.pointer (some ⟨w.heap.size, 0, none⟩)) := hs 4 (by kernel_rfl)
        exact Does.load 27 (.tmp 4) rfl w.heap.size 0 h4 (u8s key) _ (blkAllR (H3.out.1.later hb H3.out.1.lt)) Try.underlying27 rfl uK
      · intro ax wz hb hs hd
        have h5 : ax.tmps.getD 5 undef = (.pointer (some ⟨(w.heap.size + 1), 0, none⟩)) := hs 5 (by kernel_rfl)
        exact Does.load 42 (.tmp 5) rfl (w.heap.size + 1) 0 h5 (u8s nonce) _ (blkAllR (H3.out.2.1.later hb H3.out.2.1.lt)) Try.underlying42 rfl uN
      · intro ax wz hb hs hd
        have h3 : ax.tmps.getD 3 undef = (.slice bo (M + 16) d) := hs 3 (by kernel_rfl)
        refine Does.value (.slice bo (M + 16) d) ?_ rfl
        go_simp
      · intro ax wz hb hs hd
        have h10 : ax.tmps.getD 10 undef = (.int .i64 (M : Int)) := hs 10 (by kernel_rfl)
        refine Does.value (.int .i64 (M : Int)) ?_ rfl
        go_simp
      · intro ax wz hb hs hd
        have h32 : ax.tmps.getD 32 undef = (.slice bo (M + 16) d) := hd 2 32 rfl (by kernel_rfl) (by decide)
        have h33 : ax.tmps.getD 33 undef = (.int .i64 (M : Int)) := hd 3 33 rfl (by kernel_rfl) (by decide)
        have q1 := hsh wz
        refine Does.value (.slice (subA bo 0 d) M d) ?_ rfl
        go_simp
      · intro ax wz hb hs hd
        have h30 : ax.tmps.getD 30 undef = (.agg (u8s key).toArray) := hd 0 30 rfl (by kernel_rfl) (by decide)
        have h31 : ax.tmps.getD 31 undef = (.agg (u8s nonce).toArray) := hd 1 31 rfl (by kernel_rfl) (by decide)
        have h34 : ax.tmps.getD 34 undef = (.slice (subA bo 0 d) M d) := hd 4 34 rfl (by kernel_rfl) (by decide)
        refine Does.call 47 #[(.agg (u8s key).toArray), (.agg (u8s nonce).toArray), (Value.int IntKind.u32 1), (.slice (subA bo 0 d) M d)] (by go_simp) ?_
        have L := below_chain H3.out.2.2 hb H3.out.2.2.size
        have q := rxor_any key nonce 1 M d (subA bo 0 d) _ HS.out.1 HS.out.2.1 HS.out.2.2.1 HS.out.2.2.2.1 (by decide) (by omega) wz (SX.out wz L).2.1
        rw [show (64 * 1 : Nat) = 64 from rfl, ← HO.out.2.2.2.2] at q
        refine q.mono ?_
        rintro e w' ⟨v, rfl, o, l⟩
        exact ⟨_, rfl, ownsRow_base o L.size, l⟩
      · intro ax wz hb hs hd
        have h35 : isO w.heap.size M (textL key nonce zs) (ax.tmps.getD 35 undef) wz := hd 5 35 rfl (by kernel_rfl) (by decide)
        refine Does.value (ax.tmps.getD 35 undef) ?_ h35
        go_simp
    · intro wz hb
      refine @Ends.val _ _ _ _ _ _ _ _ _ (.agg (u8s key).toArray) rfl ?_
      refine @Ends.val _ _ _ _ _ _ _ _ _ (.agg (u8s nonce).toArray) rfl ?_
      refine @Ends.val _ _ _ _ _ _ _ _ _ (.slice bo (M + 16) d) rfl ?_
      refine @Ends.val _ _ _ _ _ _ _ _ _ (.int .i64 (M : Int)) rfl ?_
      refine @Ends.val _ _ _ _ _ _ _ _ _ (.slice (subA bo 0 d) M d) rfl ?_
      refine @Ends.any _ _ _ _ _ _ _ _ _ (isO w.heap.size M (textL key nonce zs)) (isO_later _ _ _) rfl ?_
      intro v5 p5
      refine @Ends.any _ _ _ _ _ _ _ _ _ (isO w.heap.size M (textL key nonce zs)) (isO_later _ _ _) rfl ?_
      intro v6 p6
      refine @Ends.one _ _ _ _ _ _ _ ?_
      simp only [Act.put, List.setIfInBounds_toArray, List.set_cons_zero, List.set_cons_succ]
      refine last_assign (.const (.bool true)) rfl (some 9) rfl _ rfl ?_
      simp only [Act.put, List.setIfInBounds_toArray, List.set_cons_zero, List.set_cons_succ]
      have H4 : Hid (isO w.heap.size M (textL key nonce zs) v6 wz ∧ Below w.heap.size w wz) := ⟨p6, below_chain H3.out.2.2 hb H3.out.2.2.size⟩
      clear hb p5 p6
      go_wp2_with fail
      go_ret2
      exact ⟨⟨_, rfl, H4.out.1⟩, H4.out.2⟩
end Go.Proofs.Ytcimiajkbgabiaa

namespace Go.Proofs.Ytcimiajkbgabiaa
open Go.RowKit
set_option linter.unusedVariables false
set_option linter.unusedSimpArgs false

def caseC (key nonce : List Int) (ao : Option Addr) (n c : Nat) (bo : Option Addr) (m d : Nat) : List Value := u8s key ++ (u8s nonce ++ [.slice ao n c, .slice bo m d])
/-- What comes in as a Case. -/
structure CsIn (w : World) (key nonce : List Int) (ao : Option Addr) (n c : Nat) (ms : List Int) (bo : Option Addr) (m d : Nat) (zs : List Int) : Prop where
  k32 : key.length = 32
  n12 : nonce.length = 12
  kb : Bytes key
  nb : Bytes nonce
  more : Seen w ao n ms
  text : Seen w bo m zs
  hc : n ≤ c
  hd : m ≤ d
theorem CsIn.later {w w' : World} {key nonce : List Int} {ao : Option Addr} {n c : Nat} {ms : List Int} {bo : Option Addr} {m d : Nat} {zs : List Int} (h : CsIn w key nonce ao n c ms bo m d zs) {B : Nat} (hb : Below B w w') (hB : w.heap.size ≤ B) : CsIn w' key nonce ao n c ms bo m d zs :=
  ⟨h.k32, h.n12, h.kb, h.nb, h.more.later hb hB, h.text.later hb hB, h.hc, h.hd⟩
/-- A Case in block g. -/
structure CsAt (w : World) (g : Nat) (key nonce : List Int) (ao : Option Addr) (n c : Nat) (ms : List Int) (bo : Option Addr) (m d : Nat) (zs : List Int) : Prop where
  blk : Blk w g 44 (caseC key nonce ao n c bo m d)
  is : CsIn w key nonce ao n c ms bo m d zs
theorem CsAt.later {w w' : World} {g : Nat} {key nonce : List Int} {ao : Option Addr} {n c : Nat} {ms : List Int} {bo : Option Addr} {m d : Nat} {zs : List Int} (h : CsAt w g key nonce ao n c ms bo m d zs) (hb : Below w.heap.size w w') : CsAt w' g key nonce ao n c ms bo m d zs :=
  ⟨h.blk.later hb h.blk.lt, h.is.later hb (Nat.le_refl _)⟩
theorem CsAt.key {w : World} {g : Nat} {key nonce : List Int} {ao : Option Addr} {n c : Nat} {ms : List Int} {bo : Option Addr} {m d : Nat} {zs : List Int} (h : CsAt w g key nonce ao n c ms bo m d zs) : w.rangeAt g 0 (u8s key) := by
  have := Blk.range (xs := []) (ys := u8s key) h.blk
  simpa using this
theorem CsAt.nonce {w : World} {g : Nat} {key nonce : List Int} {ao : Option Addr} {n c : Nat} {ms : List Int} {bo : Option Addr} {m d : Nat} {zs : List Int} (h : CsAt w g key nonce ao n c ms bo m d zs) : w.rangeAt g 32 (u8s nonce) := by
  have := Blk.range (xs := u8s key) (ys := u8s nonce) h.blk
  rwa [u8s_length, h.is.k32] at this
theorem CsAt.cM {w : World} {g : Nat} {key nonce : List Int} {ao : Option Addr} {n c : Nat} {ms : List Int} {bo : Option Addr} {m d : Nat} {zs : List Int} (h : CsAt w g key nonce ao n c ms bo m d zs) : w.cell? ⟨g, 44, none⟩ = some (.slice ao n c) := by
  rw [h.blk.cell, caseC, List.getElem?_append_right (by rw [u8s_length, h.is.k32]; decide), u8s_length, h.is.k32, List.getElem?_append_right (by rw [u8s_length, h.is.n12]; decide), u8s_length, h.is.n12]; rfl
theorem CsAt.cT {w : World} {g : Nat} {key nonce : List Int} {ao : Option Addr} {n c : Nat} {ms : List Int} {bo : Option Addr} {m d : Nat} {zs : List Int} (h : CsAt w g key nonce ao n c ms bo m d zs) : w.cell? ⟨g, 45, none⟩ = some (.slice bo m d) := by
  rw [h.blk.cell, caseC, List.getElem?_append_right (by rw [u8s_length, h.is.k32]; decide), u8s_length, h.is.k32, List.getElem?_append_right (by rw [u8s_length, h.is.n12]; decide), u8s_length, h.is.n12]; rfl
theorem CsAt.sk {w : World} {g : Nat} {key nonce : List Int} {ao : Option Addr} {n c : Nat} {ms : List Int} {bo : Option Addr} {m d : Nat} {zs : List Int} (h : CsAt w g key nonce ao n c ms bo m d zs) : (Try.prog.info? 27).map (·.size) = some (u8s key).length := by rw [u8s_length, h.is.k32]; exact sizeKey
theorem CsAt.sn {w : World} {g : Nat} {key nonce : List Int} {ao : Option Addr} {n c : Nat} {ms : List Int} {bo : Option Addr} {m d : Nat} {zs : List Int} (h : CsAt w g key nonce ao n c ms bo m d zs) : (Try.prog.info? 42).map (·.size) = some (u8s nonce).length := by rw [u8s_length, h.is.n12]; exact sizeNonce
end Go.Proofs.Ytcimiajkbgabiaa

namespace Go.Proofs.Ytcimiajkbgabiaa
open Go.RowKit
set_option linter.unusedVariables false
set_option linter.unusedSimpArgs false

set_option maxRecDepth 20000 in
set_option maxHeartbeats 4000000 in
theorem opened_any (key nonce : List Int) (ao : Option Addr) (n c : Nat) (ms : List Int) (bo : Option Addr) (m d : Nat) (zs : List Int) (pM pT : Option Addr) (cm ct : Nat) (w : World) (h : CsIn w key nonce ao n c ms bo m d zs) (hM : Seen w pM n ms) (hT : Seen w pT m zs) (km : n ≤ cm) (kt : m ≤ ct) :
    Calls Try.prog 15 #[.agg (caseC key nonce ao n c bo m d).toArray, .slice pM n cm, .slice pT m ct] w fun e w' => e = .returned (.bool true) ∧ Below w.heap.size w w' := by
  have t1 := h.more.top
  have t2 := h.text.top
  have HI : Hid (CsIn w key nonce ao n c ms bo m d zs) := h
  have HP : Hid (Seen w pM n ms ∧ Seen w pT m zs ∧ n ≤ cm ∧ m ≤ ct) := ⟨hM, hT, km, kt⟩
  have HKK : Hid (key.length = 32 ∧ nonce.length = 12 ∧ Bytes key ∧ Bytes nonce) := ⟨h.k32, h.n12, h.kb, h.nb⟩
  clear h hM hT km kt
  obtain ⟨E, hE⟩ : ∃ E, boxE n m = E := ⟨_, rfl⟩
  by_cases h0 : E = 0
  rotate_left
  · have q1 : (E == 0) = false := by rw [beq_eq_false_iff_ne]; exact h0
    go_enter Try.func15, Try.ntmps15
    go_wp2_with (first | (refine wpList_box_new rfl 44 _ rfl (caseC key nonce ao n c bo m d) rfl ?_; intro w1 b1 s1 l1; have H1 : Hid (CsAt w1 w.heap.size key nonce ao n c ms bo m d zs ∧ Below w.heap.size w w1) := ⟨⟨b1, HI.out.later l1 (Nat.le_refl _)⟩, l1⟩; have cM1 := H1.out.1.cM; have cT1 := H1.out.1.cT; clear b1 s1 l1) | (go_at_call 29; refine (rwrong_any ao bo n m c d _).mono ?_; rintro e w' ⟨rfl, rfl⟩; rw [hE]) | (refine wpList_load_mid rfl 27 _ rfl w.heap.size 0 rfl (u8s key) _ H1.out.1.key Try.underlying27 rfl H1.out.1.sk ?_) | (refine wpList_load_mid rfl 42 _ rfl w.heap.size 32 rfl (u8s nonce) _ H1.out.1.nonce Try.underlying42 rfl H1.out.1.sn ?_))
    refine (open_bad key nonce n cm m ct pM pT t1 t2 E hE h0 w1).mono ?_
    rintro e w2 ⟨rfl, l2⟩
    have H2 : Hid (CsAt w2 w.heap.size key nonce ao n c ms bo m d zs ∧ Below w.heap.size w w2) := ⟨H1.out.1.later l2, below_chain H1.out.2 l2 H1.out.2.size⟩
    clear cM1 cT1 l2 H1
    go_wp2_with (first | (refine wpList_load_mid rfl 27 _ rfl w.heap.size 0 rfl (u8s key) _ H2.out.1.key Try.underlying27 rfl H2.out.1.sk ?_) | (refine wpList_load_mid rfl 42 _ rfl w.heap.size 32 rfl (u8s nonce) _ H2.out.1.nonce Try.underlying42 rfl H2.out.1.sn ?_))
    refine (peek_bad key nonce n cm m ct pM pT t1 t2 E hE h0 w2).mono ?_
    rintro e w3 ⟨rfl, l3⟩
    have H3 : Hid (Below w.heap.size w w3) := below_chain H2.out.2 l3 H2.out.2.size
    clear l3 H2
    go_wp2_with fail
    go_ret
    exact ⟨rfl, H3.out⟩
  subst h0
  have h16 : 16 ≤ m := by
    by_cases q : m < 16
    · rw [boxE, if_pos q] at hE; cases hE
    · omega
  have hnm : n ≤ 1048576 ∧ m ≤ 1048592 := by
    by_cases q : 1048576 < n ∨ 1048592 < m
    · rw [boxE, if_neg (by omega), if_pos q] at hE; cases hE
    · omega
  obtain ⟨M, rfl⟩ : ∃ M, m = M + 16 := ⟨m - 16, by omega⟩
  have a2 : (M : Int) + 16 - 16 = (M : Int) := by omega
  obtain ⟨i0, hi, hz0, hz1, hz2⟩ := info_parts info_byte
  have hmk := fun W : World => run_make (P := Try.prog) W 22 5 i0 (.int .u8 0) Try.underlying22 hi hz0 .i64 .i64 (M : Int) (M : Int) (by omega) (Int.le_refl _) (by rw [hz2]; omega) (by omega)
  simp only [hz1, show ((M : Int)).toNat = M by omega, Nat.mul_one, show (Value.int .u8 0).cells = #[.int .u8 0] from rfl, made_zero] at hmk
  clear hi hz0 hz1 hz2
  obtain ⟨OB, hOB⟩ : ∃ O, opensL key nonce ms zs = O := ⟨_, rfl⟩
  have HT : Hid ((textL key nonce zs).length = M ∧ Bytes (textL key nonce zs)) := ⟨by rw [textL_length, HI.out.text.len, Nat.add_sub_cancel], by rw [textL]; exact coverL_bytes _ _ (bytes_take HI.out.text.bytes _)⟩
  have HPk : Hid (peekL key nonce ms zs = if OB = true then textL key nonce zs else List.replicate M 0) := by
    show _ = _
    rw [peekL, hOB, HI.out.text.len, Nat.add_sub_cancel]
  go_enter Try.func15, Try.ntmps15
  go_wp2_with (first | (refine wpList_box_new rfl 44 _ rfl (caseC key nonce ao n c bo (M + 16) d) rfl ?_; intro w1 b1 s1 l1; have H1 : Hid (CsAt w1 w.heap.size key nonce ao n c ms bo (M + 16) d zs ∧ Below w.heap.size w w1) := ⟨⟨b1, HI.out.later l1 (Nat.le_refl _)⟩, l1⟩; have cM1 := H1.out.1.cM; have cT1 := H1.out.1.cT; clear b1 s1 l1) | (go_at_call 29; refine (rwrong_any ao bo n (M + 16) c d _).mono ?_; rintro e w' ⟨rfl, rfl⟩; rw [hE]) | (refine wpList_load_mid rfl 27 _ rfl w.heap.size 0 rfl (u8s key) _ H1.out.1.key Try.underlying27 rfl H1.out.1.sk ?_) | (refine wpList_load_mid rfl 42 _ rfl w.heap.size 32 rfl (u8s nonce) _ H1.out.1.nonce Try.underlying42 rfl H1.out.1.sn ?_))
  refine (rtext_any key nonce n c M d ao bo ms zs HKK.out.1 HKK.out.2.1 HKK.out.2.2.1 HKK.out.2.2.2 hnm.2 hnm.1 w1 H1.out.1.is.more H1.out.1.is.text HI.out.hc HI.out.hd).mono ?_
  rintro e w2 ⟨hres, l2⟩
  have H2 : Hid (CsAt w2 w.heap.size key nonce ao n c ms bo (M + 16) d zs ∧ Below w.heap.size w w2) := ⟨H1.out.1.later l2, below_chain H1.out.2 l2 H1.out.2.size⟩
  clear cM1 cT1 l2
  rcases hres with ⟨hO, rfl⟩ | ⟨hO, v, rfl, ov⟩
  · obtain rfl : OB = false := by rw [← hOB, hO]
    go_wp2_with (first | (refine wpList_load_mid rfl 27 _ rfl w.heap.size 0 rfl (u8s key) _ H2.out.1.key Try.underlying27 rfl H2.out.1.sk ?_) | (refine wpList_load_mid rfl 42 _ rfl w.heap.size 32 rfl (u8s nonce) _ H2.out.1.nonce Try.underlying42 rfl H2.out.1.sn ?_))
    refine (open_no key nonce n cm (M + 16) ct pM pT ms zs HKK.out.1 HKK.out.2.1 HKK.out.2.2.1 HKK.out.2.2.2 h16 hnm.2 hnm.1 w2 (HP.out.1.later H2.out.2 (Nat.le_refl _)) (HP.out.2.1.later H2.out.2 (Nat.le_refl _)) HP.out.2.2.1 HP.out.2.2.2 hO).mono ?_
    rintro e w3 ⟨rfl, l3⟩
    have H3 : Hid (CsAt w3 w.heap.size key nonce ao n c ms bo (M + 16) d zs ∧ Below w.heap.size w w3) := ⟨H2.out.1.later l3, below_chain H2.out.2 l3 H2.out.2.size⟩
    clear l3 H2
    go_wp2_with (first | (refine wpList_load_mid rfl 27 _ rfl w.heap.size 0 rfl (u8s key) _ H3.out.1.key Try.underlying27 rfl H3.out.1.sk ?_) | (refine wpList_load_mid rfl 42 _ rfl w.heap.size 32 rfl (u8s nonce) _ H3.out.1.nonce Try.underlying42 rfl H3.out.1.sn ?_))
    refine (peek_any key nonce n cm (M + 16) ct pM pT ms zs HKK.out.1 HKK.out.2.1 HKK.out.2.2.1 HKK.out.2.2.2 h16 hnm.2 hnm.1 w3 (HP.out.1.later H3.out.2 (Nat.le_refl _)) (HP.out.2.1.later H3.out.2 (Nat.le_refl _)) HP.out.2.2.1 HP.out.2.2.2).mono ?_
    rintro e w4 ⟨v4, rfl, o4, l4⟩
    rw [hO, mk_false]
    rw [HPk.out, if_neg (by decide), Nat.add_sub_cancel] at o4
    obtain ⟨x4, c4, rfl, d4, _⟩ := isO_seen o4 (by simp) (rep0_bytes _) (by omega)
    have H4 : Hid (CsAt w4 w.heap.size key nonce ao n c ms bo (M + 16) d zs ∧ Below w.heap.size w w4 ∧ Seen w4 x4 M (List.replicate M 0)) := ⟨H3.out.1.later l4, below_chain H3.out.2 l4 H3.out.2.size, d4⟩
    have cT4 := H4.out.1.cT
    clear o4 l4 d4 H3
    have hmk4 := hmk w4
    obtain ⟨w5, hw5, HB⟩ : ∃ w5, w4.alloc (.cells (u8s (List.replicate M 0)).toArray 5) = w5 ∧ Hid (Blk w5 w4.heap.size 5 (u8s (List.replicate M 0)) ∧ Below w4.heap.size w4 w5) := ⟨_, rfl, ⟨heap_alloc_new w4 _, (Below.refl _ _).alloc (Nat.le_refl _) _⟩⟩
    rw [hw5] at hmk4
    clear hw5 hmk
    go_wp2_with fail
    have sB : Seen w5 (some ⟨w4.heap.size, 0, none⟩) M (List.replicate M 0) := by
      have q := seen_blk HB.out.1 (rep0_bytes M) (by simp; omega)
      simpa using q
    refine (eqb_yes x4 _ M c4 M (List.replicate M 0) w5 (H4.out.2.2.later HB.out.2 (Nat.le_refl _)) sB).mono ?_
    rintro e w6 ⟨rfl, q, rfl⟩
    go_wp2_with fail
    go_ret
    exact ⟨rfl, below_dn (below_chain H4.out.2.1 HB.out.2 H4.out.2.1.size) q⟩
  · obtain rfl : OB = true := by rw [← hOB, hO]
    obtain ⟨x2, c2, rfl, d2, _⟩ := isO_seen ov HT.out.1 HT.out.2 (by omega)
    have D2 : Hid (Seen w2 x2 M (textL key nonce zs)) := d2
    clear ov d2
    go_wp2_with (first | (refine wpList_load_mid rfl 27 _ rfl w.heap.size 0 rfl (u8s key) _ H2.out.1.key Try.underlying27 rfl H2.out.1.sk ?_) | (refine wpList_load_mid rfl 42 _ rfl w.heap.size 32 rfl (u8s nonce) _ H2.out.1.nonce Try.underlying42 rfl H2.out.1.sn ?_))
    refine (open_yes key nonce n cm (M + 16) ct pM pT ms zs HKK.out.1 HKK.out.2.1 HKK.out.2.2.1 HKK.out.2.2.2 h16 hnm.2 hnm.1 w2 (HP.out.1.later H2.out.2 (Nat.le_refl _)) (HP.out.2.1.later H2.out.2 (Nat.le_refl _)) HP.out.2.2.1 HP.out.2.2.2 hO).mono ?_
    rintro e w3 ⟨v3, rfl, o3, l3⟩
    rw [Nat.add_sub_cancel] at o3
    obtain ⟨x3, c3, rfl, d3, _⟩ := isO_seen o3 HT.out.1 HT.out.2 (by omega)
    have H3 : Hid (CsAt w3 w.heap.size key nonce ao n c ms bo (M + 16) d zs ∧ Below w.heap.size w w3 ∧ Seen w3 x2 M (textL key nonce zs) ∧ Seen w3 x3 M (textL key nonce zs)) := ⟨H2.out.1.later l3, below_chain H2.out.2 l3 H2.out.2.size, D2.out.later l3 (Nat.le_refl _), d3⟩
    clear l3 H2 o3 d3
    go_wp2_with (first | (refine wpList_load_mid rfl 27 _ rfl w.heap.size 0 rfl (u8s key) _ H3.out.1.key Try.underlying27 rfl H3.out.1.sk ?_) | (refine wpList_load_mid rfl 42 _ rfl w.heap.size 32 rfl (u8s nonce) _ H3.out.1.nonce Try.underlying42 rfl H3.out.1.sn ?_))
    refine (peek_any key nonce n cm (M + 16) ct pM pT ms zs HKK.out.1 HKK.out.2.1 HKK.out.2.2.1 HKK.out.2.2.2 h16 hnm.2 hnm.1 w3 (HP.out.1.later H3.out.2.1 (Nat.le_refl _)) (HP.out.2.1.later H3.out.2.1 (Nat.le_refl _)) HP.out.2.2.1 HP.out.2.2.2).mono ?_
    rintro e w4 ⟨v4, rfl, o4, l4⟩
    rw [hO, mk_true]
    rw [HPk.out, if_pos (by first | rfl | trivial), Nat.add_sub_cancel] at o4
    obtain ⟨x4, c4, rfl, d4, _⟩ := isO_seen o4 HT.out.1 HT.out.2 (by omega)
    have H4 : Hid (Below w.heap.size w w4 ∧ Seen w4 x2 M (textL key nonce zs) ∧ Seen w4 x3 M (textL key nonce zs) ∧ Seen w4 x4 M (textL key nonce zs)) := ⟨below_chain H3.out.2.1 l4 H3.out.2.1.size, H3.out.2.2.1.later l4 (Nat.le_refl _), H3.out.2.2.2.later l4 (Nat.le_refl _), d4⟩
    clear o4 l4 d4 H3 hmk
    go_wp2_with fail
    refine (eqb_yes x3 x2 M c3 c2 _ w4 H4.out.2.2.1 H4.out.2.1).mono ?_
    rintro e w5 ⟨rfl, q, hq⟩
    have H5 : Hid (Below w.heap.size w w5 ∧ Seen w5 x2 M (textL key nonce zs) ∧ Seen w5 x4 M (textL key nonce zs)) := by rw [hq]; exact ⟨below_dn H4.out.1 q, H4.out.2.1.drewN q, H4.out.2.2.2.drewN q⟩
    clear hq H4
    go_wp2_with fail
    refine (eqb_yes x4 x2 M c4 c2 _ w5 H5.out.2.2 H5.out.2.1).mono ?_
    rintro e w6 ⟨rfl, q, rfl⟩
    go_wp2_with fail
    go_ret
    exact ⟨rfl, below_dn H5.out.1 q⟩
end Go.Proofs.Ytcimiajkbgabiaa

namespace Go.Proofs.Ytcimiajkbgabiaa
open Go.RowKit
set_option linter.unusedVariables false
set_option linter.unusedSimpArgs false

theorem info_bytes : (Try.prog.info? 22).map (fun i => (i.zero, i.size, i.bytes)) = some (some (.slice none 0 0), 1, 24) := by kernel_rfl
theorem one_int (z : Int) : ∀ u ∈ [Value.int .u8 z], u.oneCell' = true := by intro u hu; simp at hu; subst hu; rfl
theorem one_header (a : Option Addr) (n c : Nat) : ∀ u ∈ [Value.slice a n c], u.oneCell' = true := by intro u hu; simp at hu; subst hu; rfl
def mk1 (j : Nat) : Int := 1 + (j : Int) % 100
def mk2 (j : Nat) : Int := 120 + (j : Int) % 100
theorem own_block {w w' : World} {base : Nat} {e : TypeId} {v : Value} {n : Nat} {xs : List Value} (h : w.ownsRow base e 1 v n xs) (hb : ∀ k, v.ownBlock = some k → w'.heap[k]? = w.heap[k]?) : w'.ownsRow base e 1 v n xs := by
  refine ⟨h.1, ?_⟩
  rcases h.2 with h1 | ⟨g, cap, cur, rfl, h1, h2, h3⟩
  · exact .inl h1
  · exact .inr ⟨g, cap, cur, rfl, h1, by rw [hb g rfl]; exact h2, h3⟩
theorem own_kept {S : Nat → Prop} {w w' : World} {base : Nat} {e : TypeId} {v : Value} {n : Nat} {xs : List Value} (h : w.ownsRow base e 1 v n xs) (hk : Kept S w w') (hS : ∀ k, v.ownBlock = some k → ¬ S k) : w'.ownsRow base e 1 v n xs :=
  own_block h fun k hk' => hk.block k (h.lt k hk').2 (hS k hk')
theorem own_set {w : World} {base g n cap : Nat} {zs : List Int} (h : w.ownsRow base 5 1 (.slice (some ⟨g, 0, none⟩) n cap) n (zs.map (Value.int .u8))) (j : Nat) (hj : j < n) (z : Int) :
    (w.setCell ⟨g, j, none⟩ (.int .u8 z)).ownsRow base 5 1 (.slice (some ⟨g, 0, none⟩) n cap) n ((zs.set j z).map (Value.int .u8)) := by
  obtain ⟨hl, h⟩ := h
  rcases h with ⟨h, _⟩ | ⟨g', cap', cur, h, hb, hh, hc, hm, hs, ht⟩
  · cases h
  · simp only [Value.slice.injEq, Option.some.injEq, Addr.mk.injEq, and_true, true_and] at h
    obtain ⟨rfl, rfl⟩ := h
    refine ⟨by simpa using hl, .inr ⟨g, cap, _, rfl, hb, heap_setCell_same w g j cur 5 (.int .u8 z) hh, hc, hm, by simpa using hs, ?_⟩⟩
    rw [Nat.mul_one] at ht ⊢
    rw [List.map_set, ← ht, Array.toList_setIfInBounds, List.take_set]
theorem own_prefix {w : World} {base : Nat} {ao : Option Addr} {n m cap : Nat} {xs ys : List Value} (hx : xs.length = n) (h : w.ownsRow base 5 1 (.slice ao (n + m) cap) (n + m) (xs ++ ys)) : w.ownsRow base 5 1 (.slice ao n cap) n xs := by
  refine ⟨by rw [hx, Nat.mul_one], ?_⟩
  rcases h.2 with ⟨h1, h2⟩ | ⟨g', cap', cur, h1, hb, hh, hc, hm, hs, ht⟩
  · simp only [Value.slice.injEq] at h1
    obtain ⟨rfl, _, rfl⟩ := h1
    obtain rfl : n = 0 := by omega
    exact .inl ⟨rfl, rfl⟩
  · simp only [Value.slice.injEq] at h1
    obtain ⟨rfl, _, rfl⟩ := h1
    refine .inr ⟨g', cap, cur, rfl, hb, hh, by omega, hm, hs, ?_⟩
    rw [Nat.mul_one] at ht ⊢
    have h3 : (cur.toList.take (n + m)).take n = (xs ++ ys).take n := by rw [ht]
    have h4 : (xs ++ ys).take n = xs := by rw [List.take_append_of_le_length (by omega), List.take_of_length_le (by omega)]
    rw [List.take_take, Nat.min_eq_left (by omega), h4] at h3
    exact h3
theorem own_at {w : World} {base g n cap : Nat} {zs : List Int} (h : w.ownsRow base 5 1 (.slice (some ⟨g, 0, none⟩) n cap) n (zs.map (Value.int .u8))) (j : Nat) (hj : j < n) : w.cell? ⟨g, j, none⟩ = some (.int .u8 (zs.getD j 0)) ∧ w.frozen? ⟨g, j, none⟩ = false := by
  have := RowAt.of_own h
  exact ⟨this.1.cell j (by omega), this.1.frozen j⟩
theorem own_olds {w : World} {base : Nat} {ao : Option Addr} {n cap : Nat} {zs : List Int} (h : w.ownsRow base 5 1 (.slice ao n cap) n (zs.map (Value.int .u8))) :
    (ao = none → n = 0 ∧ cap = 0) ∧ ((zs.map (Value.int .u8)).length = n * 1) ∧ ∀ b, ao = some b → ∀ j u, (zs.map (Value.int .u8))[j]? = some u → w.cell? (b.add j) = some u := by
  refine ⟨?_, h.1, ?_⟩
  · rintro rfl
    rcases h.2 with ⟨h1, h2⟩ | ⟨g, c, cur, h1, _⟩
    · simp only [Value.slice.injEq] at h1; exact ⟨h2, h1.2.2⟩
    · simp at h1
  · rintro b rfl j u hj
    rcases h.2 with ⟨h1, _⟩ | ⟨g, c, cur, h1, _⟩
    · simp at h1
    · simp only [Value.slice.injEq, Option.some.injEq] at h1
      obtain ⟨rfl, _, rfl⟩ := h1
      have hlt : j < n := by
        have h2 := h.1
        rcases Nat.lt_or_ge j n with h' | h'
        · exact h'
        · rw [List.getElem?_eq_none (by rw [h2]; omega)] at hj; cases hj
      rw [add_at, Nat.zero_add, (own_at h j hlt).1, ← hj, List.getElem?_map]
      have : j < zs.length := by have := h.1; simp at this; omega
      simp [List.getD, this]

/-- n lists behind the headers of block O, each a row of its own, list j holding f j. -/
structure Lot (w : World) (O n : Nat) (V : Nat → Option Addr) (len cap cap0 : Nat → Nat) (f : Nat → List Int) : Prop where
  olt : O < w.heap.size
  heads : ∀ j, j < n → w.cell? ⟨O, j, none⟩ = some (.slice (V j) (len j) (cap j))
  own : ∀ j, j < n → w.ownsRow 0 5 1 (.slice (V j) (len j) (cap0 j)) (len j) ((f j).map (Value.int .u8))
  caps : ∀ j, j < n → cap j = cap0 j ∨ cap j = len j
  apart : ∀ j j' g, j < n → j' < n → V j = some ⟨g, 0, none⟩ → V j' = some ⟨g, 0, none⟩ → j = j'
  off : ∀ j g, j < n → V j = some ⟨g, 0, none⟩ → g ≠ O
/-- The blocks that hold the lists. -/
def LotS (n : Nat) (V : Nat → Option Addr) (k : Nat) : Prop := ∃ j, j < n ∧ V j = some ⟨k, 0, none⟩
theorem own_addr {w : World} {base : Nat} {ao : Option Addr} {n cap : Nat} {xs : List Value} {k : Nat} (h : w.ownsRow base 5 1 (.slice ao n cap) n xs) (hk : (Value.slice ao n cap).ownBlock = some k) : ao = some ⟨k, 0, none⟩ := by
  rcases h.2 with ⟨h1, _⟩ | ⟨g, c, cur, h1, _⟩
  · simp only [Value.slice.injEq] at h1; rw [h1.1] at hk; cases hk
  · simp only [Value.slice.injEq] at h1
    rw [h1.1] at hk
    simp [Value.ownBlock] at hk
    rw [h1.1, hk]
theorem Lot.at {w : World} {O n : Nat} {V : Nat → Option Addr} {len cap cap0 : Nat → Nat} {f : Nat → List Int} (h : Lot w O n V len cap cap0 f) {j : Nat} (hj : j < n) (h0 : 0 < cap0 j) : ∃ g, V j = some ⟨g, 0, none⟩ ∧ g < w.heap.size := by
  rcases (h.own j hj).2 with ⟨h1, _⟩ | ⟨g, c, cur, h1, h2, h3, _⟩
  · simp only [Value.slice.injEq] at h1; omega
  · simp only [Value.slice.injEq] at h1
    refine ⟨g, h1.1, ?_⟩
    rcases Nat.lt_or_ge g w.heap.size with h' | h'
    · exact h'
    · rw [Array.getElem?_eq_none h'] at h3; cases h3
theorem Lot.capLe {w : World} {O n : Nat} {V : Nat → Option Addr} {len cap cap0 : Nat → Nat} {f : Nat → List Int} (h : Lot w O n V len cap cap0 f) {j : Nat} (hj : j < n) : len j ≤ cap0 j := by
  rcases (h.own j hj).2 with ⟨h1, h2⟩ | ⟨g, c, cur, h1, h2, h3, h4, _⟩
  · omega
  · simp only [Value.slice.injEq] at h1; omega
/-- One list written at one place. -/
theorem Lot.set {w : World} {O n : Nat} {V : Nat → Option Addr} {len cap cap0 : Nat → Nat} {f : Nat → List Int} (h : Lot w O n V len cap cap0 f) {j t g : Nat} (hj : j < n) (ht : t < len j) (hg : V j = some ⟨g, 0, none⟩) (z : Int) :
    Lot (w.setCell ⟨g, t, none⟩ (.int .u8 z)) O n V len cap cap0 (fun j' => if j' = j then (f j).set t z else f j') := by
  have hs : (w.setCell ⟨g, t, none⟩ (.int .u8 z)).heap.size = w.heap.size := by simp [World.setCell]
  refine ⟨by rw [hs]; exact h.olt, fun j' hj' => ?_, fun j' hj' => ?_, h.caps, h.apart, h.off⟩
  · rw [World.cell?_setCell_other _ _ _ _ (by intro e; simp only [Addr.mk.injEq] at e; exact h.off j g hj hg e.1)]
    exact h.heads j' hj'
  · by_cases e : j' = j
    · subst e
      have ho := h.own j' hj'
      rw [hg] at ho ⊢
      rw [if_pos rfl]
      exact own_set ho t ht z
    · rw [if_neg e]
      refine own_block (h.own j' hj') fun k hk => Below.heap_setCell _ _ _ _ ?_
      intro hkg
      have := own_addr (h.own j' hj') hk
      rw [hkg] at this
      exact e (h.apart j' j g hj' hj this hg)
theorem Lot.congr {w : World} {O n : Nat} {V : Nat → Option Addr} {len cap cap0 : Nat → Nat} {f f' : Nat → List Int} (h : Lot w O n V len cap cap0 f) (e : ∀ j, j < n → f j = f' j) : Lot w O n V len cap cap0 f' :=
  ⟨h.olt, h.heads, fun j hj => by rw [← e j hj]; exact h.own j hj, h.caps, h.apart, h.off⟩
theorem Lot.later {w w' : World} {O n : Nat} {V : Nat → Option Addr} {len cap cap0 : Nat → Nat} {f : Nat → List Int} (h : Lot w O n V len cap cap0 f) {B : Nat} (hb : Below B w w') (hB : w.heap.size ≤ B) : Lot w' O n V len cap cap0 f :=
  ⟨Nat.lt_of_lt_of_le h.olt hb.size, fun j hj => (hb.cell (p := ⟨O, j, none⟩) (Nat.lt_of_lt_of_le h.olt hB)).trans (h.heads j hj),
    fun j hj => own_block (h.own j hj) fun k hk => hb.block k (Nat.lt_of_lt_of_le ((h.own j hj).lt k hk).2 hB), h.caps, h.apart, h.off⟩
/-- All but list k as it was, and list k told anew. -/
theorem Lot.kept {w w' : World} {O n : Nat} {V : Nat → Option Addr} {len cap cap0 : Nat → Nat} {f : Nat → List Int} (h : Lot w O n V len cap cap0 f) {k : Nat} (hk : k < n) (hK : Kept (fun b => V k = some ⟨b, 0, none⟩) w w')
    (ho : w'.ownsRow 0 5 1 (.slice (V k) (len k) (cap0 k)) (len k) ((f k).map (Value.int .u8))) : Lot w' O n V len cap cap0 f :=
  ⟨Nat.lt_of_lt_of_le h.olt hK.size, fun j hj => (hK.cell (p := ⟨O, j, none⟩) h.olt (fun e => h.off k O hk e rfl)).trans (h.heads j hj), fun j hj => by
    by_cases e : j = k
    · subst e; exact ho
    · exact own_kept (h.own j hj) hK (fun b hb e2 => e (h.apart j k b hj hk (own_addr (h.own j hj) hb) e2)), h.caps, h.apart, h.off⟩

theorem Lot.below {w w' : World} {O n : Nat} {V : Nat → Option Addr} {len cap cap0 : Nat → Nat} {f : Nat → List Int} (h : Lot w O n V len cap cap0 f) {B : Nat} (hb : Below B w w') (hO : O < B) (hV : ∀ j g, j < n → V j = some ⟨g, 0, none⟩ → g < B) : Lot w' O n V len cap cap0 f :=
  ⟨Nat.lt_of_lt_of_le h.olt hb.size, fun j hj => (hb.cell (p := ⟨O, j, none⟩) hO).trans (h.heads j hj),
    fun j hj => own_block (h.own j hj) fun k hk => hb.block k (hV j k hj (own_addr (h.own j hj) hk)), h.caps, h.apart, h.off⟩
theorem Kept.alloc {S : Nat → Prop} {a w : World} (h : Kept S a w) (o : Obj) : Kept S a (w.alloc o) :=
  h.trans ⟨rfl, rfl, rfl, by simp, fun k hk _ => Below.heap_alloc w o k hk⟩
theorem Kept.grown {S : Nat → Prop} {a w w' : World} {row : Option Nat} (h : Kept S a w) (hg : w.grownBy w' row) (hr : ∀ k, row = some k → k < a.heap.size → S k) : Kept S a w' :=
  ⟨hg.os.trans h.os, hg.tape.trans h.tape, hg.output.trans h.output, Nat.le_trans h.size hg.size, fun k hk hs => (hg.block k (Nat.lt_of_lt_of_le hk h.size) (fun e => hs (hr k e.symm hk))).trans (h.block k hk hs)⟩

/-- The list k, full of its mark; and grown m times. -/
def ful (len : Nat → Nat) (j : Nat) : List Int := List.replicate (len j) (mk1 j)
def gro (len : Nat → Nat) (j m : Nat) : List Int := ful len j ++ List.replicate m (mk2 j)
theorem ful_length (len : Nat → Nat) (j : Nat) : (ful len j).length = len j := by simp [ful]
theorem gro_length (len : Nat → Nat) (j m : Nat) : (gro len j m).length = len j + m := by simp [gro, ful]
theorem gro_succ (len : Nat → Nat) (j m : Nat) : (gro len j (m + 1)).map (Value.int .u8) = (gro len j m).map (Value.int .u8) ++ [.int .u8 (mk2 j)] := by
  simp [gro, List.replicate_succ']
theorem gro_zero (len : Nat → Nat) (j : Nat) : gro len j 0 = ful len j := by simp [gro]
theorem ful_at (len : Nat → Nat) (j t : Nat) (ht : t < len j) : (ful len j).getD t 0 = mk1 j := by simp [ful, List.getD, ht]
theorem gro_at (len : Nat → Nat) (j m t : Nat) (ht : t < len j) : (gro len j m).getD t 0 = mk1 j := by
  rw [← ful_at len j t ht]
  have : t < (ful len j).length := by rw [ful_length]; exact ht
  simp [gro, List.getD, List.getElem?_append, this]
theorem gro_in (len : Nat → Nat) (j m t : Nat) (ht : t < m) : (gro len j m).getD (len j + t) 0 = mk2 j := by
  unfold gro
  rw [app_getD _ _ _ _ (ful_length len j)]
  simp [List.getD, ht]

/-- The lists that were grown, i of them. -/
structure Grew (base : Nat) (w : World) (gv : Value) (i : Nat) (V : Nat → Option Addr) (len : Nat → Nat) (hd : List Value) : Prop where
  outer : w.ownsRow base 22 1 gv i hd
  inner : ∀ j, j < i → ∃ g cap, hd[j]? = some (.slice (some ⟨g, 0, none⟩) (len j + 100) cap) ∧ RowAt w g (gro len j 100) ∧ (base ≤ g ∨ V j = some ⟨g, 0, none⟩)
theorem row_ne {w : World} {g base : Nat} {zs : List Int} {v : Value} {k : Nat} {hd : List Value} (h : RowAt w g zs) (ho : w.ownsRow base 22 1 v k hd) : some g ≠ v.ownBlock := by
  obtain ⟨rest, h⟩ := h
  rcases ho.2 with ⟨rfl, _⟩ | ⟨g', cap, cur, rfl, _, hh, _⟩
  · intro e; cases e
  · intro e
    simp [Value.ownBlock] at e
    subst e
    rw [hh] at h
    simp at h
theorem row_grown {w w' : World} {g : Nat} {zs : List Int} {row : Option Nat} (h : RowAt w g zs) (hg : w.grownBy w' row) (hne : some g ≠ row) : RowAt w' g zs := h.block (hg.block g h.lt hne)
theorem Grew.step {base n : Nat} {w w1 w2 : World} {gv gv' : Value} {i : Nat} {V : Nat → Option Addr} {len : Nat → Nat} {hd : List Value} {g cap : Nat} (h : Grew base w gv i V len hd)
    (hap : ∀ j j' g, j < n → j' < n → V j = some ⟨g, 0, none⟩ → V j' = some ⟨g, 0, none⟩ → j = j') (hin : i < n) (hlt : ∀ g, V i = some ⟨g, 0, none⟩ → g < base)
    (hK : Kept (fun b => V i = some ⟨b, 0, none⟩) w w1) (hr : RowAt w1 g (gro len i 100)) (hgb : base ≤ g ∨ V i = some ⟨g, 0, none⟩)
    (ho : w2.ownsRow base 22 1 gv' (i + 1) (hd ++ [.slice (some ⟨g, 0, none⟩) (len i + 100) cap])) (hg : (w1.alloc (.cells #[.slice (some ⟨g, 0, none⟩) (len i + 100) cap] 22)).grownBy w2 gv.ownBlock) (ho1 : w1.ownsRow base 22 1 gv i hd) :
    Grew base w2 gv' (i + 1) V len (hd ++ [.slice (some ⟨g, 0, none⟩) (len i + 100) cap]) := by
  have hl : hd.length = i := by have := h.outer.1; omega
  have keep : ∀ g zs, RowAt w1 g zs → RowAt w2 g zs := fun g zs h => row_grown (h.alloc _) hg (row_ne h ho1)
  refine ⟨ho, fun j hj => ?_⟩
  by_cases hji : j < i
  · obtain ⟨g', cap', e', hr', hb'⟩ := h.inner j hji
    refine ⟨g', cap', by rw [List.getElem?_append_left (by omega)]; exact e', keep _ _ (hr'.kept hK ?_), hb'⟩
    intro e
    rcases hb' with hb' | hb'
    · have := hlt g' e; omega
    · have := hap j i g' (by omega) hin hb' e; omega
  · have e : j = i := by omega
    subst e
    exact ⟨g, cap, by rw [List.getElem?_append_right (by omega)]; simp [hl], keep _ _ hr, hgb⟩
end Go.Proofs.Ytcimiajkbgabiaa

namespace Go.Proofs.Ytcimiajkbgabiaa
open Go.RowKit
set_option linter.unusedVariables false
set_option linter.unusedSimpArgs false

theorem set_take (l : List Int) (k : Nat) (z : Int) (h : k < l.length) : (l.set k z).take (k + 1) = l.take k ++ [z] := by
  rw [List.take_succ_eq_append_getElem (by simpa using h)]
  simp [List.take_set_of_le]
theorem Lot.drew {w : World} {O n : Nat} {V : Nat → Option Addr} {len cap cap0 : Nat → Nat} {f : Nat → List Int} (h : Lot w O n V len cap cap0 f) : Lot w.drew O n V len cap cap0 f := h.later ((Below.refl _ _).drew) (Nat.le_refl _)

end Go.Proofs.Ytcimiajkbgabiaa

namespace Go.Proofs.Ytcimiajkbgabiaa
open Go.RowKit
set_option linter.unusedVariables false
set_option linter.unusedSimpArgs false

def mkR (j t : Nat) : Int := (31 * (j : Int) + 7 * (t : Int) + 1) % 256
theorem mark_any (j t : Nat) (hj : j ≤ 1048576) (ht : t ≤ 140737488355328) (w : World) : Calls Try.prog 34 #[.int .i64 j, .int .i64 t] w fun e w' => e = .returned (.int .u8 (mkR j t)) ∧ w = w' := by
  have e1 : (31 * (j : Int) + 7 * (t : Int) + 1) % 256 = mkR j t := rfl
  have e2 : ((j : Int) * 31 + (t : Int) * 7 + 1) % 256 = mkR j t := by rw [← e1]; congr 1; omega
  go_enter Try.func34, Try.ntmps34
  go_wp2
  go_ret
  exact ⟨by first | rfl | simp [e1, e2], rfl⟩
theorem mark_same (j t : Nat) (hj : j ≤ 1048576) (ht : t ≤ 140737488355328) : ∀ W, Calls Try.prog 34 #[.int .i64 j, .int .i64 t] W fun e w' => e = .returned (.int .u8 (mkR j t)) ∧ w' = W := fun W => (mark_any j t hj ht W).mono fun e w' h => ⟨h.1, h.2.symm⟩
/-- The list k, full of its marks; and grown m times. -/
def fulR (len : Nat → Nat) (j : Nat) : List Int := (List.range (len j)).map (mkR j)
def groR (len : Nat → Nat) (j m : Nat) : List Int := (List.range (len j + m)).map (mkR j)
theorem fulR_length (len : Nat → Nat) (j : Nat) : (fulR len j).length = len j := by simp [fulR]
theorem groR_length (len : Nat → Nat) (j m : Nat) : (groR len j m).length = len j + m := by simp [groR]
theorem groR_succ (len : Nat → Nat) (j m : Nat) : (groR len j (m + 1)).map (Value.int .u8) = (groR len j m).map (Value.int .u8) ++ [.int .u8 (mkR j (len j + m))] := by
  rw [groR, groR, ← Nat.add_assoc, List.range_succ, List.map_append, List.map_append]; rfl
theorem groR_zero (len : Nat → Nat) (j : Nat) : groR len j 0 = fulR len j := rfl
theorem groR_app (len : Nat → Nat) (j m : Nat) : groR len j m = fulR len j ++ (List.range m).map (fun t => mkR j (len j + t)) := by
  rw [groR, fulR, List.range_add, List.map_append, List.map_map]; rfl
theorem fulR_at (len : Nat → Nat) (j t : Nat) (ht : t < len j) : (fulR len j).getD t 0 = mkR j t := by simp [fulR, List.getD, ht]
theorem groR_at (len : Nat → Nat) (j m t : Nat) (ht : t < len j + m) : (groR len j m).getD t 0 = mkR j t := by simp [groR, List.getD, ht]
/-- The lists that were grown, i of them. -/
structure GrewR (base : Nat) (w : World) (gv : Value) (i : Nat) (V : Nat → Option Addr) (len : Nat → Nat) (hd : List Value) : Prop where
  outer : w.ownsRow base 22 1 gv i hd
  inner : ∀ j, j < i → ∃ g cap, hd[j]? = some (.slice (some ⟨g, 0, none⟩) (len j + 70) cap) ∧ RowAt w g (groR len j 70) ∧ (base ≤ g ∨ V j = some ⟨g, 0, none⟩)
theorem GrewR.step {base n : Nat} {w w1 w2 : World} {gv gv' : Value} {i : Nat} {V : Nat → Option Addr} {len : Nat → Nat} {hd : List Value} {g cap : Nat} (h : GrewR base w gv i V len hd)
    (hap : ∀ j j' g, j < n → j' < n → V j = some ⟨g, 0, none⟩ → V j' = some ⟨g, 0, none⟩ → j = j') (hin : i < n) (hlt : ∀ g, V i = some ⟨g, 0, none⟩ → g < base)
    (hK : Kept (fun b => V i = some ⟨b, 0, none⟩) w w1) (hr : RowAt w1 g (groR len i 70)) (hgb : base ≤ g ∨ V i = some ⟨g, 0, none⟩)
    (ho : w2.ownsRow base 22 1 gv' (i + 1) (hd ++ [.slice (some ⟨g, 0, none⟩) (len i + 70) cap])) (hg : (w1.alloc (.cells #[.slice (some ⟨g, 0, none⟩) (len i + 70) cap] 22)).grownBy w2 gv.ownBlock) (ho1 : w1.ownsRow base 22 1 gv i hd) :
    GrewR base w2 gv' (i + 1) V len (hd ++ [.slice (some ⟨g, 0, none⟩) (len i + 70) cap]) := by
  have hl : hd.length = i := by have := h.outer.1; omega
  have keep : ∀ g zs, RowAt w1 g zs → RowAt w2 g zs := fun g zs h => row_grown (h.alloc _) hg (row_ne h ho1)
  refine ⟨ho, fun j hj => ?_⟩
  by_cases hji : j < i
  · obtain ⟨g', cap', e', hr', hb'⟩ := h.inner j hji
    refine ⟨g', cap', by rw [List.getElem?_append_left (by omega)]; exact e', keep _ _ (hr'.kept hK ?_), hb'⟩
    intro e
    rcases hb' with hb' | hb'
    · have := hlt g' e; omega
    · have := hap j i g' (by omega) hin hb' e; omega
  · have e : j = i := by omega
    subst e
    exact ⟨g, cap, by rw [List.getElem?_append_right (by omega)]; simp [hl], keep _ _ hr, hgb⟩
set_option maxRecDepth 20000 in
set_option maxHeartbeats 8000000 in
theorem rapart_any (O n c : Nat) (V : Nat → Option Addr) (len cap cap0 : Nat → Nat) (f : Nat → List Int) (w : World) (hx : Lot w O n V len cap cap0 f) (hn : n ≤ 1048576) (hl : ∀ j, j < n → len j + 70 ≤ 140737488355328) :
    Calls Try.prog 19 #[.slice (some ⟨O, 0, none⟩) n c] w fun e w' => e = .returned (.bool true) ∧ Kept (LotS n V) w w' := by
  have HX : Hid (Lot w O n V len cap cap0 f) := hx
  clear hx
  go_enter Try.func19, Try.ntmps19
  go_wp2
  go_loopw [3, 4] (fun i _ wr => ∃ (k : Nat) (f' : Nat → List Int), k ≤ n ∧ i = .int .i64 k ∧ Lot wr O n V len cap cap0 f' ∧ (∀ j, j < k → f' j = fulR len j) ∧ Kept (LotS n V) w wr) (fun i _ _ => n - (intOf i).toNat)
  case atStart => exact ⟨0, f, Nat.zero_le _, rfl, HX.out, fun j h => by omega, Kept.refl _ _⟩
  case round =>
    clear HX
    obtain ⟨i, f', hi, rfl, hlot, hfu, hkept⟩ := hrel
    by_cases hlt : i < n
    · have c1 := hlot.heads i hlt
      have tL := hl i hlt
      have a1 : (0 : Int) ≤ (i : Int) := by omega
      have a2 : (i : Int) < (n : Int) := by omega
      have HH : Hid (Lot _ O n V len cap cap0 f' ∧ (∀ j, j < i → f' j = fulR len j) ∧ Kept (LotS n V) w _) := ⟨hlot, hfu, hkept⟩
      clear hkept hlot hfu
      go_wp2
      go_loopw [4] (fun t wr => ∃ (k : Nat) (f2 : Nat → List Int), k ≤ len i ∧ t = .int .i64 k ∧ Lot wr O n V len cap cap0 f2 ∧ (∀ j, j < i → f2 j = fulR len j) ∧ (f2 i).take k = (List.range k).map (mkR i) ∧ Kept (LotS n V) w wr) (fun t _ => len i - (intOf t).toNat)
      case atStart => exact ⟨0, f', Nat.zero_le _, rfl, HH.out.1, HH.out.2.1, by simp, HH.out.2.2⟩
      case round =>
        clear HH c1
        obtain ⟨k, f2, hk, rfl, hlot, hfu, htk, hkept⟩ := hrel
        have c1 := hlot.heads i hlt
        have hfl : (f2 i).length = len i := by have := (hlot.own i hlt).1; simpa using this
        by_cases hlk : k < len i
        · obtain ⟨g, eg, hglt⟩ := hlot.at hlt (by have := hlot.capLe hlt; omega)
          have ho := hlot.own i hlt
          rw [eg] at ho c1
          obtain ⟨hgc, hgf⟩ := own_at ho k hlk
          have R0 := (hlot.set hlt hlk eg (mkR i k)).drew
          obtain ⟨f3, hf3⟩ : ∃ f3 : Nat → List Int, (fun j' => if j' = i then (f2 i).set k (mkR i k) else f2 j') = f3 := ⟨_, rfl⟩
          rw [hf3] at R0
          have R1 : Hid _ := R0
          have R2 : Hid _ := (hkept.setCell (p := ⟨g, k, none⟩) (by exact ⟨i, hlt, eg⟩) (.int .u8 (mkR i k))).drew
          have R3 : Hid ((∀ j, j < i → f3 j = fulR len j) ∧ (f3 i).take (k + 1) = (List.range (k + 1)).map (mkR i)) := by
            rw [← hf3]
            refine ⟨fun j hj => ?_, ?_⟩
            · show (if j = i then _ else f2 j) = _
              rw [if_neg (by omega)]; exact hfu j hj
            · show (if i = i then _ else f2 i).take (k + 1) = _
              rw [if_pos rfl, set_take _ _ _ (by omega), htk, List.range_succ, List.map_append]; rfl
          clear hf3 R0
          have a3 : (0 : Int) ≤ (k : Int) := by omega
          have a4 : (k : Int) < (len i : Int) := by omega
          have hmk := mark_any i k (by omega) (by omega)
          clear hlot hkept eg ho hfu htk hfl
          go_wp2
          go_region_with (go_at_call 34; refine (hmk _).mono ?_; rintro e w' ⟨rfl, rfl⟩)
          all_goals
            go_wp2
            go_roundw
            case rel => exact ⟨k + 1, _, by omega, by go_num, R1.out, R3.out.1, R3.out.2, R2.out⟩
            case measure => simp [intOf]; omega
        · have e : k = len i := by omega
          subst e
          have R3 : Hid (∀ j, j < i + 1 → f2 j = fulR len j) := fun j hj => by
            by_cases h : j < i
            · exact hfu j h
            · obtain rfl : j = i := by omega
              rw [List.take_of_length_le (by omega)] at htk
              exact htk
          have R1 : Hid _ := hlot
          have R2 : Hid _ := hkept
          clear hlot hkept htk hfu hfl
          go_wp2
          go_roundw
          case rel => exact ⟨i + 1, f2, by omega, by go_num, R1.out, R3.out, R2.out⟩
          case measure => simp [intOf]; omega
    · have e : i = n := by omega
      subst e
      have hl1 := hlot.congr hfu
      obtain ⟨w1, hw1⟩ : ∃ x, x = wr := ⟨_, rfl⟩
      subst hw1
      have HK1 : Hid _ := hkept
      clear hlot hkept hfu
      obtain ⟨iB, hiB, hB0, hB1, hB2⟩ := info_parts info_byte
      obtain ⟨iL, hiL, hL0, hL1, hL2⟩ := info_parts info_bytes
      have HG1 : Hid (∀ j g, j < i → V j = some ⟨g, 0, none⟩ → g < w1.heap.size) := fun j g hj hg => by
        have h1 := hl1.own j hj
        rw [hg] at h1
        exact (h1.lt g rfl).2
      have HAP : Hid (∀ j j' g, j < i → j' < i → V j = some ⟨g, 0, none⟩ → V j' = some ⟨g, 0, none⟩ → j = j') := hl1.apart
      have HL1 : Hid _ := hl1
      have HO1 : Hid (O < w1.heap.size) := hl1.olt
      have z1 := HK1.out.size
      clear hl1
      go_wp2
      go_loopw [5, 6, 7, 8] (fun gv a _ _ wr => ∃ (k : Nat) (hd : List Value), k ≤ i ∧ a = .int .i64 k ∧ GrewR w1.heap.size wr gv k V len hd ∧ Lot wr O i V len cap cap0 (fulR len) ∧ Kept (LotS i V) w wr ∧ w1.heap.size ≤ wr.heap.size) (fun _ a _ _ _ => i - (intOf a).toNat)
      case atStart => exact ⟨0, [], Nat.zero_le _, rfl, ⟨World.ownsRow_nil _ _ _ _, fun j h => by omega⟩, HL1.out, HK1.out, Nat.le_refl _⟩
      case round =>
        clear HL1 HK1
        obtain ⟨k, hd, hk, rfl, hgr, hlr, hkr, hsr⟩ := hrel
        by_cases hlt : k < i
        · have c1 := hlr.heads k hlt
          have tL := hl k hlt
          have a1 : (0 : Int) ≤ (k : Int) := by omega
          have a2 : (k : Int) < (i : Int) := by omega
          obtain ⟨w2, hw2⟩ : ∃ x, x = wr := ⟨_, rfl⟩
          subst hw2
          have hok := hlr.own k hlt
          have HOK : Hid (w2.ownsRow 0 5 1 (.slice (V k) (len k) (cap0 k)) (len k) ((fulR len k).map (Value.int .u8))) := hok
          have HGR : Hid _ := hgr
          have HLR : Hid _ := hlr
          have HKR : Hid _ := hkr
          clear hgr hlr hkr hok
          go_wp2
          go_loopw [7, 8] (fun v t wr => ∃ m : Nat, m ≤ 70 ∧ t = .int .i64 m ∧ Kept (fun b => V k = some ⟨b, 0, none⟩) w2 wr ∧ wr.ownsRow 0 5 1 (.slice (V k) (len k) (cap0 k)) (len k) ((fulR len k).map (Value.int .u8)) ∧
            ((v = .slice (V k) (len k + m) (cap k) ∧ wr.ownsRow 0 5 1 (.slice (V k) (len k + m) (cap0 k)) (len k + m) ((groR len k m).map (Value.int .u8))) ∨ (0 < m ∧ wr.ownsRow w2.heap.size 5 1 v (len k + m) ((groR len k m).map (Value.int .u8))))) (fun _ t _ => 70 - (intOf t).toNat)
          case atStart => exact ⟨0, Nat.zero_le _, rfl, Kept.refl _ _, HOK.out, .inl ⟨rfl, by rw [groR_zero]; exact HOK.out⟩⟩
          case round =>
            clear c1 HOK
            obtain ⟨m, hm, rfl, hkw, hokw, hown⟩ := hrel
            have c1 : wr.cell? ⟨O, k, none⟩ = some (.slice (V k) (len k) (cap k)) := (hkw.cell (p := ⟨O, k, none⟩) HLR.out.olt (fun e => HLR.out.off k O hlt e rfl)).trans (HLR.out.heads k hlt)
            have hsw := hkw.size
            have HKW : Hid _ := hkw
            have HOKW : Hid (wr.ownsRow 0 5 1 (.slice (V k) (len k) (cap0 k)) (len k) ((fulR len k).map (Value.int .u8))) := hokw
            clear hkw hokw
            by_cases hmt : m < 70
            · have HGS : Hid _ := groR_succ len k m
              have hgn : ∀ W, Calls Try.prog 34 #[.int .i64 (k : Int), .int .i64 ((len k : Int) + (m : Int))] W fun e w' => e = .returned (.int .u8 (mkR k (len k + m))) ∧ W = w' := fun W => by have q := mark_any k (len k + m) (by omega) (by omega) W; rwa [show ((len k + m : Nat) : Int) = (len k : Int) + (m : Int) by omega] at q
              obtain ⟨MK, hMK⟩ : ∃ z, mkR k (len k + m) = z := ⟨_, rfl⟩
              rw [hMK] at hgn HGS
              clear hMK
              rcases hown with ⟨hv, hA⟩ | ⟨hm0, hB⟩
              · by_cases hroom : len k + m + 1 ≤ cap k
                · have hcc : cap0 k = cap k := by
                    rcases HLR.out.caps k hlt with h | h
                    · exact h.symm
                    · omega
                  obtain ⟨g, eg, _⟩ := HLR.out.at hlt (by omega)
                  rw [eg] at hv hA
                  rw [hcc] at hA
                  have HCC : Hid (cap0 k = cap k) := hcc
                  clear hcc
                  subst hv
                  have R4 : Hid (V k = some ⟨g, 0, none⟩) := eg
                  clear eg
                  go_wp2_with fail
                  refine (hgn _).mono ?_
                  rintro e w' ⟨rfl, rfl⟩
                  go_wp2_with (at_builtin; refine wpList_append_fits _ rfl _ _ 22 rfl 0 5 iB 1 Try.underlying22 hiB hB1 g (len k + m) (cap k) _ rfl (hA.alloc _) ⟨wr.heap.size, 0, none⟩ 1 1 [.int .u8 MK] rfl rfl (cell_one_new _ _ _) (one_int _) ?b1 ?_)
                  case b1 => omega
                  · intro w3 hown' hgrow
                    have R1 : w3.ownsRow 0 5 1 (.slice (some ⟨g, 0, none⟩) (len k + (m + 1)) (cap k)) (len k + (m + 1)) ((groR len k (m + 1)).map (Value.int .u8)) := by rw [HGS.out]; exact hown'
                    have R2 : Kept (fun b => V k = some ⟨b, 0, none⟩) w2 w3 := (HKW.out.alloc _).grown hgrow (fun b hb _ => by cases hb; exact R4.out)
                    have R3 : w3.ownsRow 0 5 1 (.slice (V k) (len k) (cap0 k)) (len k) ((fulR len k).map (Value.int .u8)) := by
                      rw [R4.out, HCC.out]
                      refine own_prefix (m := m + 1) (ys := ((List.range (m + 1)).map (fun t => mkR k (len k + t))).map (Value.int .u8)) (by simp [fulR_length]) ?_
                      rw [← List.map_append, ← groR_app]; exact R1
                    clear hown' hgrow hA
                    go_wp2
                    go_roundw
                    case rel => exact ⟨m + 1, by omega, by go_num, R2, R3, .inl ⟨by rw [R4.out]; rfl, by rw [R4.out, HCC.out]; exact R1⟩⟩
                    case measure => simp [intOf]; omega
                · subst hv
                  obtain ⟨hno, hlo, hol⟩ := own_olds (hA.alloc (.cells #[.int .u8 MK] 5))
                  have HNO : Hid (V k = none → len k + m = 0 ∧ cap k = 0) := fun h => ⟨(hno h).1, by have := hno h; rcases HLR.out.caps k hlt with h1 | h1 <;> omega⟩
                  have HLO : Hid _ := hlo
                  have HOL : Hid _ := hol
                  have HRO : Hid (¬ len k + m + 1 ≤ cap k) := hroom
                  clear hno hlo hol hA hroom
                  go_wp2_with fail
                  refine (hgn _).mono ?_
                  rintro e w' ⟨rfl, rfl⟩
                  go_wp2_with (at_builtin; refine wpList_append_grows _ rfl _ _ 22 rfl 5 iB (.int .u8 0) 1 1 Try.underlying22 hiB hB0 hB1 hB2 rfl (by decide) (V k) (len k + m) (cap k) ((groR len k m).map (Value.int .u8)) rfl HNO.out HLO.out HOL.out ⟨wr.heap.size, 0, none⟩ 1 1 [.int .u8 MK] rfl rfl (cell_one_new _ _ _) (one_int _) ?b0 ?b1 ?b2 ?_)
                  case b0 => have := HRO.out; omega
                  case b1 => unfold maxLen; omega
                  case b2 => omega
                  · intro v' w3 hown' hgrow
                    have R1 : w3.ownsRow w2.heap.size 5 1 v' (len k + (m + 1)) ((groR len k (m + 1)).map (Value.int .u8)) := by
                      rw [HGS.out]
                      exact ownsRow_base hown' (by first | omega | (simp; omega))
                    have R2 : Kept (fun b => V k = some ⟨b, 0, none⟩) w2 w3 := (HKW.out.alloc _).grown hgrow (fun b hb _ => by cases hb)
                    have R3 : w3.ownsRow 0 5 1 (.slice (V k) (len k) (cap0 k)) (len k) ((fulR len k).map (Value.int .u8)) :=
                      own_block (HOKW.out.alloc (.cells #[.int .u8 MK] 5)) fun b hb => hgrow.block b ((HOKW.out.alloc (.cells #[.int .u8 MK] 5)).lt b hb).2 (fun e => by cases e)
                    clear hown' hgrow
                    go_wp2
                    go_roundw
                    case rel => exact ⟨m + 1, by omega, by go_num, R2, R3, .inr ⟨by omega, R1⟩⟩
                    case measure => simp [intOf]; omega
              · go_wp2_with fail
                refine (hgn _).mono ?_
                rintro e w' ⟨rfl, rfl⟩
                go_wp2_with (at_builtin; refine wpList_append_own _ rfl _ _ 22 rfl w2.heap.size 5 iB (.int .u8 0) 1 1 Try.underlying22 hiB hB0 hB1 hB2 rfl (by decide) _ _ _ rfl (hB.alloc _) ⟨wr.heap.size, 0, none⟩ 1 1 [.int .u8 MK] rfl rfl (cell_one_new _ _ _) (one_int _) ?d1 ?d2 ?d3 ?_)
                case d1 => unfold maxLen; omega
                case d2 => omega
                case d3 => first | omega | (simp; omega)
                · intro v' w3 hown' hgrow _
                  have R1 : w3.ownsRow w2.heap.size 5 1 v' (len k + (m + 1)) ((groR len k (m + 1)).map (Value.int .u8)) := by rw [HGS.out]; exact hown'
                  have R2 : Kept (fun b => V k = some ⟨b, 0, none⟩) w2 w3 := (HKW.out.alloc _).grown hgrow (fun b hb hlt => by have := (hB.lt b hb).1; omega)
                  have R3 : w3.ownsRow 0 5 1 (.slice (V k) (len k) (cap0 k)) (len k) ((fulR len k).map (Value.int .u8)) :=
                    own_block (HOKW.out.alloc (.cells #[.int .u8 MK] 5)) fun b hb => hgrow.block b ((HOKW.out.alloc (.cells #[.int .u8 MK] 5)).lt b hb).2 (fun e => by
                      have h1 := (hB.lt b e.symm).1
                      have h2 := HG1.out k b hlt (own_addr HOKW.out hb)
                      omega)
                  clear hown' hgrow hB
                  go_wp2
                  go_roundw
                  case rel => exact ⟨m + 1, by omega, by go_num, R2, R3, .inr ⟨by omega, R1⟩⟩
                  case measure => simp [intOf]; omega
            · have e : m = 70 := by omega
              subst e
              clear c1
              obtain ⟨g, cap', rfl, hrow, hgb⟩ : ∃ g cap', u7 = .slice (some ⟨g, 0, none⟩) (len k + 70) cap' ∧ RowAt wr g (groR len k 70) ∧ (w1.heap.size ≤ g ∨ V k = some ⟨g, 0, none⟩) := by
                rcases hown with ⟨hv, hA⟩ | ⟨_, hB⟩
                · rcases own_len (groR_length len k 70) hA with ⟨_, h0⟩ | ⟨g, cap', e, hr, _⟩
                  · omega
                  · simp only [Value.slice.injEq] at e
                    exact ⟨g, cap k, by rw [hv, e.1], hr, .inr e.1⟩
                · rcases own_len (groR_length len k 70) hB with ⟨_, h0⟩ | ⟨g, cap', e, hr, hg, _⟩
                  · omega
                  · exact ⟨g, cap', e, hr, .inl (by omega)⟩
              have ho : wr.ownsRow w1.heap.size 22 1 u5 k hd := own_kept HGR.out.outer HKW.out (fun b hb e => by
                have h1 := (HGR.out.outer.lt b hb).1
                have h2 := HG1.out k b hlt e
                omega)
              have HRW : Hid (RowAt wr g (groR len k 70) ∧ (w1.heap.size ≤ g ∨ V k = some ⟨g, 0, none⟩)) := ⟨hrow, hgb⟩
              clear hown hrow hgb
              go_wp2_with (at_builtin; refine wpList_append_own _ rfl _ _ 50 rfl w1.heap.size 22 iL (.slice none 0 0) 1 24 Try.underlying50 hiL hL0 hL1 hL2 rfl (by decide) _ _ _ rfl (ho.alloc _) ⟨wr.heap.size, 0, none⟩ 1 1 [.slice (some ⟨g, 0, none⟩) (len k + 70) cap'] rfl rfl (cell_one_new _ _ _) (one_header _ _ _) ?f1 ?f2 ?f3 ?_)
              case f1 => unfold maxLen; omega
              case f2 => omega
              case f3 => first | omega | (simp; omega)
              · intro v' w3 hown' hgrow _
                have R1 := HGR.out.step HAP.out hlt (fun g hg => HG1.out k g hlt hg) HKW.out HRW.out.1 HRW.out.2 hown' hgrow ho
                have R2 : Lot w3 O i V len cap cap0 (fulR len) := (HLR.out.kept hlt HKW.out HOKW.out).below (B := w1.heap.size) (((Below.refl _ _).alloc (by omega) _).grown hgrow (by simp; omega) (fun j hj => (ho.lt j hj).1)) HO1.out HG1.out
                have R3 : Kept (LotS i V) w w3 := ((HKR.out.trans (HKW.out.mono (fun b hb => ⟨k, hlt, hb⟩))).alloc _).grown hgrow (fun b hb hlt => by have := (ho.lt b hb).1; omega)
                have R4 : w1.heap.size ≤ w3.heap.size := by have := hgrow.size; simp at this; omega
                clear hown' hgrow ho
                go_wp2
                go_roundw
                case rel => exact ⟨k + 1, _, by omega, by go_num, R1, R2, R3, R4⟩
                case measure => simp [intOf]; omega
        · have e : k = i := by omega
          subst e
          obtain ⟨w3, hw3⟩ : ∃ x, x = wr := ⟨_, rfl⟩
          subst hw3
          have HKK : Hid (Kept (LotS k V) w w3) := hkr
          have heads2 : ∀ j, j < k → ∃ GO cg g cap', u5 = .slice (some ⟨GO, 0, none⟩) k cg ∧ w3.cell? ⟨GO, j, none⟩ = some (.slice (some ⟨g, 0, none⟩) (len j + 70) cap') ∧ (∀ t, t < len j + 70 → w3.cell? ⟨g, t, none⟩ = some (.int .u8 (mkR j t))) := by
            intro j hj
            obtain ⟨g, cap', e, hr, _⟩ := hgr.inner j hj
            rcases hgr.outer.2 with ⟨_, h0⟩ | ⟨GO, cg, cur, hv, r⟩
            · omega
            · have ho := hgr.outer
              rw [hv] at ho
              refine ⟨GO, cg, g, cap', hv, by rw [ho.cellAt j (by omega)]; exact e, fun t ht => ?_⟩
              rw [hr.cell t (by rw [groR_length]; omega), groR_at len j 70 t ht]
          have HH2 : Hid _ := heads2
          have HLR : Hid _ := hlr
          clear hgr hlr hkr heads2
          go_wp2
          go_loopw [9, 10] (fun a _ wr => ∃ j : Nat, j ≤ k ∧ a = .int .i64 j ∧ ∃ q, wr = w3.drewN q) (fun a _ _ => k - (intOf a).toNat)
          case atStart => exact ⟨0, Nat.zero_le _, rfl, 0, rfl⟩
          case round =>
            obtain ⟨j, hj, rfl, q, rfl⟩ := hrel
            by_cases hlt : j < k
            · have c1 := HLR.out.heads j hlt
              have tL := hl j hlt
              have a1 : (0 : Int) ≤ (j : Int) := by omega
              have a2 : (j : Int) < (k : Int) := by omega
              obtain ⟨GO, cg, g, cap', rfl, hgc, hg1⟩ := HH2.out j hlt
              have HG : Hid _ := hg1
              clear hg1
              go_wp2
              go_loopw [10] (fun a wr => ∃ t : Nat, t ≤ len j + 70 ∧ a = .int .i64 t ∧ ∃ q, wr = w3.drewN q) (fun a _ => len j + 70 - (intOf a).toNat)
              case atStart => exact ⟨0, Nat.zero_le _, rfl, _, rfl⟩
              case round =>
                obtain ⟨t, ht, rfl, q2, hwr⟩ := hrel
                have HW : Hid (wr = w3.drewN q2) := hwr
                have c1' : wr.cell? ⟨O, j, none⟩ = some (.slice (V j) (len j) (cap j)) := by rw [hwr]; exact c1
                have hgc' : wr.cell? ⟨GO, j, none⟩ = some (.slice (some ⟨g, 0, none⟩) (len j + 70) cap') := by rw [hwr]; exact hgc
                by_cases hltt : t < len j
                · obtain ⟨g0, eg, _⟩ := HLR.out.at hlt (by have := HLR.out.capLe hlt; omega)
                  have ho := HLR.out.own j hlt
                  rw [eg] at ho c1'
                  have c2 : wr.cell? ⟨g0, t, none⟩ = some (.int .u8 (mkR j t)) := by rw [hwr]; exact (own_at ho t hltt).1.trans (by rw [fulR_at len j t hltt])
                  have c3 : wr.cell? ⟨g, t, none⟩ = some (.int .u8 (mkR j t)) := by rw [hwr]; exact HG.out t (by omega)
                  have hmk := mark_same j t (by omega) (by omega)
                  obtain ⟨MK, hMK⟩ : ∃ z, mkR j t = z := ⟨_, rfl⟩
                  rw [hMK] at hmk c2 c3
                  have a3 : (0 : Int) ≤ (t : Int) := by omega
                  have a4 : (t : Int) < (len j : Int) := by omega
                  have a5 : (t : Int) < (len j : Int) + 70 := by omega
                  clear eg ho hwr c1 hgc hMK
                  go_wp2
                  go_quiet (first | (go_at_call 34; exact Calls.quiet_of_same (hmk _)))
                  go_wp2
                  go_roundw
                  case rel => exact ⟨t + 1, by omega, by go_num, _, by rw [HW.out, World.drewN_drewN]⟩
                  case measure => simp [intOf]; omega
                · by_cases hlt3 : t < len j + 70
                  · have c3 : wr.cell? ⟨g, t, none⟩ = some (.int .u8 (mkR j t)) := by rw [hwr]; exact HG.out t hlt3
                    have hmk := mark_same j t (by omega) (by omega)
                    obtain ⟨MK, hMK⟩ : ∃ z, mkR j t = z := ⟨_, rfl⟩
                    rw [hMK] at hmk c3
                    have a3 : (0 : Int) ≤ (t : Int) := by omega
                    have a5 : (t : Int) < (len j : Int) + 70 := by omega
                    have a6 : ¬ (t : Int) < (len j : Int) := by omega
                    have d1 : decide ((t : Int) < (len j : Int)) = false := by simp; omega
                    have d2 : decide (t < len j) = false := by simp; omega
                    clear hwr c1 hgc hMK
                    go_wp2
                    go_quiet (first | (go_at_call 34; exact Calls.quiet_of_same (hmk _)))
                    go_wp2
                    go_roundw
                    case rel => exact ⟨t + 1, by omega, by go_num, _, by rw [HW.out, World.drewN_drewN]⟩
                    case measure => simp [intOf]; omega
                  · have hlt4 : ¬ (t : Int) < (len j : Int) + 70 := by omega
                    clear hlt3 hltt hwr c1 hgc
                    go_wp2
                    go_roundw
                    case rel => exact ⟨j + 1, by omega, by go_num, _, HW.out⟩
                    case measure => simp [intOf]; omega
            · have HF : Hid (Kept (LotS k V) w (w3.drewN q)) := HKK.out.trans ⟨rfl, rfl, rfl, Nat.le_refl _, fun _ _ _ => rfl⟩
              go_wp2
              go_ret
              exact ⟨rfl, HF.out⟩
end Go.Proofs.Ytcimiajkbgabiaa

namespace Go.Proofs.Ytcimiajkbgabiaa
open Go.RowKit
set_option linter.unusedVariables false
set_option linter.unusedSimpArgs false

/-- A row that was handed out, in blocks from lo on, below hi. -/
structure Out (W : World) (lo hi : Nat) (vo : Option Addr) (n cap : Nat) (L : List Int) : Prop where
  own : W.ownsRow 0 5 1 (.slice vo n cap) n (L.map (Value.int .u8))
  seen : Seen W vo n L
  place : ∀ b o, vo = some ⟨b, o, none⟩ → lo ≤ b ∧ b < hi
  nil : vo = none → cap = 0
theorem out_of {W W' : World} {v : Value} {n : Nat} {L : List Int} (hl : L.length = n) (hb : Bytes L) (ht : n ≤ 140737488355328) (h : W'.ownsRow W.heap.size 5 1 v n (L.map (Value.int .u8))) : ∃ vo cap, v = .slice vo n cap ∧ Out W' W.heap.size W'.heap.size vo n cap L := by
  rcases own_len hl h with ⟨rfl, rfl⟩ | ⟨g, cap, rfl, r1, g1, c1, m1⟩
  · exact ⟨none, 0, rfl, ownsRow_base h (Nat.zero_le _), by rw [List.length_eq_zero_iff.1 hl]; exact Seen.empty _ _, fun b o e => (by cases e), fun _ => rfl⟩
  · have s := Seen.of_row (n := n) r1 (by omega) ht hb
    rw [List.take_of_length_le (by omega)] at s
    exact ⟨_, cap, rfl, ownsRow_base h (Nat.zero_le _), s, fun b o e => (by cases e; exact ⟨g1, r1.lt⟩), fun e => (by cases e)⟩
theorem Out.kept {W W' : World} {lo hi n cap : Nat} {vo : Option Addr} {L : List Int} {S : Nat → Prop} (h : Out W lo hi vo n cap L) (hk : Kept S W W') (hS : ∀ y, lo ≤ y → y < hi → ¬ S y) : Out W' lo hi vo n cap L :=
  ⟨own_kept h.own hk (fun k e => by have := own_addr h.own e; have p := h.place k 0 this; exact hS k p.1 p.2), h.seen.kept hk (fun b o _ e => hS b (h.place b o e).1 (h.place b o e).2), h.place, h.nil⟩
theorem Out.later {W W' : World} {lo hi n cap : Nat} {vo : Option Addr} {L : List Int} (h : Out W lo hi vo n cap L) (l : Below W.heap.size W W') : Out W' lo hi vo n cap L := h.kept (Kept.new (fun _ => False) l) (fun _ _ _ => id)
theorem obs2 (s1 s2 : Option Addr) (n1 n2 c1 c2 : Nat) (w : World) : (Instr.buildSlice 50 2 #[(0, .slice s1 n1 c1), (1, .slice s2 n2 c2)]).run Try.prog w = .ok (.slice (some ⟨w.heap.size, 0, none⟩) 2 2) (w.alloc (.cells #[.slice s1 n1 c1, .slice s2 n2 c2] 22)) := by kernel_rfl
theorem wpList_bs {ops : Array Oper} {rest : List Oper} {o : Oper} {a : Act} {Q : Exit → Act → World → Prop} {w : World} (hgd : o.guard = none) (t : TypeId) (m : Nat) (parts : Array (Nat × Operand)) (ho : o.op = .buildSlice t m parts) (ps : Array (Nat × Value))
    (hp : (parts.map fun (i, x) => (i, a.eval x)) = ps) (v : Value) (w' : World) (hrun : (Instr.buildSlice t m ps).run Try.prog w = .ok v w') (h : wpList Try.prog ops Q rest (a.put o.dst v) w') : wpList Try.prog ops Q (o :: rest) a w := by
  refine wpList_plain hgd fun K hK => ?_
  unfold Oper.wp execOp
  simp only [ho, hp, Sem.run_bind, hrun, Sem.run_pure, Result.andThen_ok]
  exact hK _ _ h
theorem cell_two (w : World) (x y : Value) (t : TypeId) (j : Nat) (hj : j < 2) : (w.alloc (.cells #[x, y] t)).cell? ⟨w.heap.size, j, none⟩ = some ([x, y].getD j undef) := by
  have h : (w.alloc (.cells #[x, y] t)).heap[w.heap.size]? = some (.cells [x, y].toArray t (0, 0)) := heap_alloc_new w _
  rw [cell_of_row _ _ j _ t (0, 0) h]
  rcases (by omega : j = 0 ∨ j = 1) with rfl | rfl <;> rfl
/-- The two rows, as a lot. -/
theorem lot2 {W : World} {o1 o2 : Option Addr} {n c1 c2 a b e : Nat} {L1 L2 : List Int} (h1 : Out W a b o1 n c1 L1) (h2 : Out W b e o2 n c2 L2) (hab : a ≤ b) (hde : b ≤ e) (he : e ≤ W.heap.size) :
    Lot (W.alloc (.cells #[.slice o1 n c1, .slice o2 n c2] 22)) W.heap.size 2 (fun j => [o1, o2].getD j none) (fun j => [n, n].getD j 0) (fun j => [c1, c2].getD j 0) (fun j => [c1, c2].getD j 0) (fun j => [L1, L2].getD j []) ∧
    ∀ y, LotS 2 (fun j => [o1, o2].getD j none) y → a ≤ y ∧ y < e := by
  have l := (Below.refl W.heap.size W).alloc (Nat.le_refl _) (.cells #[.slice o1 n c1, .slice o2 n c2] 22)
  have hp : ∀ j g, j < 2 → [o1, o2].getD j none = some ⟨g, 0, none⟩ → [a, b].getD j 0 ≤ g ∧ g < [b, e].getD j 0 := by
    intro j g hj e1
    rcases (by omega : j = 0 ∨ j = 1) with rfl | rfl
    · exact h1.place g 0 e1
    · exact h2.place g 0 e1
  have hr : ∀ j g, j < 2 → [o1, o2].getD j none = some ⟨g, 0, none⟩ → a ≤ g ∧ g < e := by
    intro j g hj e1
    have := hp j g hj e1
    rcases (by omega : j = 0 ∨ j = 1) with rfl | rfl <;> simp at this <;> omega
  refine ⟨⟨World.block_lt_of_cell? _ _ (cell_two W _ _ _ 0 (by decide)), fun j hj => ?_, fun j hj => ?_, fun j hj => .inl rfl, fun j j' g hj hj' e1 e2 => ?_, fun j g hj e1 => ?_⟩, fun y ⟨j, hj, e1⟩ => hr j y hj e1⟩
  · rw [cell_two _ _ _ _ j hj]
    rcases (by omega : j = 0 ∨ j = 1) with rfl | rfl <;> rfl
  · rcases (by omega : j = 0 ∨ j = 1) with rfl | rfl
    · exact (h1.later l).own
    · exact (h2.later l).own
  · have p1 := hp j g hj e1
    have p2 := hp j' g hj' e2
    rcases (by omega : j = 0 ∨ j = 1) with rfl | rfl <;> rcases (by omega : j' = 0 ∨ j' = 1) with rfl | rfl <;> first | rfl | (simp at p1 p2; omega)
  · have := hr j g hj e1
    omega
/-- What stands: what was lent, and nothing old was touched. -/
structure On (w1 W : World) (g : Nat) (xs : List Int) : Prop where
  row : RowAt W g (xs ++ marks)
  bel : Below w1.heap.size w1 W
theorem On.later {w1 W W' : World} {g : Nat} {xs : List Int} (h : On w1 W g xs) (l : Below W.heap.size W W') : On w1 W' g xs := ⟨h.row.kept (Kept.new (fun _ => False) l) id, below_chain h.bel l h.bel.size⟩
theorem On.kept {S : Nat → Prop} {w1 W W' : World} {g : Nat} {xs : List Int} (h : On w1 W g xs) (hk : Kept S W W') (hS : ∀ y, S y → w1.heap.size ≤ y ∧ y ≠ g) : On w1 W' g xs :=
  ⟨h.row.kept hk (fun s => (hS g s).2 rfl), below_kept h.bel hk h.bel.size (fun j hj s => by have := (hS j s).1; omega)⟩
theorem On.dn {w1 W : World} {g : Nat} {xs : List Int} (h : On w1 W g xs) (q : Nat) : On w1 (W.drewN q) g xs := h.later (below_dn (Below.refl _ _) q)
theorem Out.dn {W : World} {lo hi n cap : Nat} {vo : Option Addr} {L : List Int} (h : Out W lo hi vo n cap L) (q : Nat) : Out (W.drewN q) lo hi vo n cap L := h.later (below_dn (Below.refl _ _) q)
theorem size_dn (W : World) (q : Nat) : W.heap.size ≤ (W.drewN q).heap.size := (below_dn (Below.refl W.heap.size W) q).size
end Go.Proofs.Ytcimiajkbgabiaa

namespace Go.Proofs.Ytcimiajkbgabiaa
open Go.RowKit
set_option linter.unusedVariables false
set_option linter.unusedSimpArgs false

theorem boxE_in {n m : Nat} (h : boxE n m = 0) : 16 ≤ m ∧ m ≤ 1048592 ∧ n ≤ 1048576 := by
  by_cases q : m < 16
  · rw [boxE, if_pos q] at h; cases h
  · by_cases r : 1048576 < n ∨ 1048592 < m
    · rw [boxE, if_neg q, if_pos r] at h; cases h
    · omega
/-- What Open answers. -/
def Qo (key nonce : List Int) (n : Nat) (ms : List Int) (m : Nat) (zs : List Int) (K : Nat) (E : Int) (R : List Int) : Prop :=
  (boxE n m = E ∧ E ≠ 0 ∧ K = 0 ∧ R = []) ∨ (boxE n m = 0 ∧ opensL key nonce ms zs = false ∧ E = 70 ∧ K = 0 ∧ R = []) ∨ (boxE n m = 0 ∧ opensL key nonce ms zs = true ∧ E = 0 ∧ K = m - 16 ∧ R = textL key nonce zs)
theorem qo_ex (key nonce : List Int) (n : Nat) (ms : List Int) (m : Nat) (zs : List Int) : ∃ K E R, K ≤ 1048576 ∧ Qo key nonce n ms m zs K E R := by
  by_cases h : boxE n m = 0
  · have b := boxE_in h
    cases q : opensL key nonce ms zs
    · exact ⟨0, 70, [], by omega, .inr (.inl ⟨h, q, rfl, rfl, rfl⟩)⟩
    · exact ⟨m - 16, 0, _, by omega, .inr (.inr ⟨h, q, rfl, rfl, rfl⟩)⟩
  · exact ⟨0, _, [], by omega, .inl ⟨rfl, h, rfl, rfl⟩⟩
theorem op_out (key nonce : List Int) (n c m d : Nat) (ao bo : Option Addr) (ms zs : List Int) (K : Nat) (E : Int) (R : List Int) (hq : Qo key nonce n ms m zs K E R) (hk : key.length = 32) (hno : nonce.length = 12) (hkb : Bytes key) (hnb : Bytes nonce) (w : World) (hx : Seen w ao n ms) (hy : Seen w bo m zs) (hc : n ≤ c) (hd : m ≤ d) :
    Calls Try.prog 17 #[.agg (u8s key).toArray, .agg (u8s nonce).toArray, .slice ao n c, .slice bo m d] w fun e w' => ∃ vo cap, e = .returned (.tuple #[.slice vo K cap, .int .i64 E]) ∧ Out w' w.heap.size w'.heap.size vo K cap R ∧ Below w.heap.size w w' := by
  rcases hq with ⟨hE, h0, hK, hR⟩ | ⟨hE, hO, hE2, hK, hR⟩ | ⟨hE, hO, hE2, hK, hR⟩
  · subst hK hR
    refine (open_bad key nonce n c m d ao bo hx.top hy.top E hE h0 w).mono ?_
    rintro e w1 ⟨rfl, l1⟩
    exact ⟨none, 0, rfl, ⟨World.ownsRow_nil _ _ _ _, Seen.empty _ _, fun b o e => (by cases e), fun _ => rfl⟩, l1⟩
  · subst hK hR hE2
    have b := boxE_in hE
    refine (open_no key nonce n c m d ao bo ms zs hk hno hkb hnb b.1 b.2.1 b.2.2 w hx hy hc hd hO).mono ?_
    rintro e w1 ⟨rfl, l1⟩
    exact ⟨none, 0, rfl, ⟨World.ownsRow_nil _ _ _ _, Seen.empty _ _, fun b o e => (by cases e), fun _ => rfl⟩, l1⟩
  · subst hK hR hE2
    have b := boxE_in hE
    refine (open_yes key nonce n c m d ao bo ms zs hk hno hkb hnb b.1 b.2.1 b.2.2 w hx hy hc hd hO).mono ?_
    rintro e w1 ⟨v, rfl, o1, l1⟩
    obtain ⟨vo, cap, rfl, u⟩ := out_of (by rw [textL_length, hy.len]) (by rw [textL]; exact coverL_bytes _ _ (bytes_take hy.bytes _)) (by omega) o1
    exact ⟨vo, cap, rfl, u, l1⟩
/-- What Peek answers. -/
def Qp (key nonce : List Int) (n : Nat) (ms : List Int) (m : Nat) (zs : List Int) (K : Nat) (B E : Int) (R : List Int) : Prop :=
  (boxE n m = E ∧ E ≠ 0 ∧ K = 0 ∧ B = 0 ∧ R = []) ∨ (boxE n m = 0 ∧ E = 0 ∧ K = m - 16 ∧ B = mk (opensL key nonce ms zs) ∧ R = peekL key nonce ms zs)
theorem qp_ex (key nonce : List Int) (n : Nat) (ms : List Int) (m : Nat) (zs : List Int) : ∃ K B E R, K ≤ 1048576 ∧ Qp key nonce n ms m zs K B E R := by
  by_cases h : boxE n m = 0
  · have b := boxE_in h
    exact ⟨m - 16, _, 0, _, by omega, .inr ⟨h, rfl, rfl, rfl, rfl⟩⟩
  · exact ⟨0, 0, _, [], by omega, .inl ⟨rfl, h, rfl, rfl, rfl⟩⟩
theorem peekL_bytes (key nonce ms : List Int) {zs : List Int} (h : Bytes zs) : Bytes (peekL key nonce ms zs) := by
  rw [peekL]
  split
  · rw [textL]; exact coverL_bytes _ _ (bytes_take h _)
  · exact rep0_bytes _
theorem pk_out (key nonce : List Int) (n c m d : Nat) (ao bo : Option Addr) (ms zs : List Int) (K : Nat) (B E : Int) (R : List Int) (hq : Qp key nonce n ms m zs K B E R) (hk : key.length = 32) (hno : nonce.length = 12) (hkb : Bytes key) (hnb : Bytes nonce) (w : World) (hx : Seen w ao n ms) (hy : Seen w bo m zs) (hc : n ≤ c) (hd : m ≤ d) :
    Calls Try.prog 18 #[.agg (u8s key).toArray, .agg (u8s nonce).toArray, .slice ao n c, .slice bo m d] w fun e w' => ∃ vo cap, e = .returned (.tuple #[.slice vo K cap, .int .u64 B, .int .i64 E]) ∧ Out w' w.heap.size w'.heap.size vo K cap R ∧ Below w.heap.size w w' := by
  rcases hq with ⟨hE, h0, hK, hB, hR⟩ | ⟨hE, hE2, hK, hB, hR⟩
  · subst hK hR hB
    refine (peek_bad key nonce n c m d ao bo hx.top hy.top E hE h0 w).mono ?_
    rintro e w1 ⟨rfl, l1⟩
    exact ⟨none, 0, rfl, ⟨World.ownsRow_nil _ _ _ _, Seen.empty _ _, fun b o e => (by cases e), fun _ => rfl⟩, l1⟩
  · subst hK hR hB hE2
    have b := boxE_in hE
    refine (peek_any key nonce n c m d ao bo ms zs hk hno hkb hnb b.1 b.2.1 b.2.2 w hx hy hc hd).mono ?_
    rintro e w1 ⟨v, rfl, o1, l1⟩
    obtain ⟨vo, cap, rfl, u⟩ := out_of (by rw [peekL_length, hy.len]) (peekL_bytes _ _ _ hy.bytes) (by omega) o1
    exact ⟨vo, cap, rfl, u, l1⟩
theorem zeroCaseV : (Try.prog.info? 44).map (fun i => (i.zero, i.size)) = some (some (.agg (caseC (List.replicate 32 0) (List.replicate 12 0) none 0 0 none 0 0).toArray), 46) := by kernel_rfl
theorem sizeCase : (Try.prog.info? 44).map (·.size) = some 46 := by kernel_rfl
theorem caseC_length (key nonce : List Int) (hk : key.length = 32) (hn : nonce.length = 12) (ao : Option Addr) (n c : Nat) (bo : Option Addr) (m d : Nat) : (caseC key nonce ao n c bo m d).length = 46 := by simp [caseC, u8s_length, hk, hn]
theorem caseC_set (key nonce : List Int) (hk : key.length = 32) (hn : nonce.length = 12) (ao : Option Addr) (n c : Nat) (bo po : Option Addr) (m d m' d' : Nat) : (caseC key nonce ao n c bo m d).set 45 (.slice po m' d') = caseC key nonce ao n c po m' d' := by
  simp only [caseC]
  rw [List.set_append_right _ _ (by rw [u8s_length, hk]; decide), u8s_length, hk, List.set_append_right _ _ (by rw [u8s_length, hn]; decide), u8s_length, hn]
  rfl
end Go.Proofs.Ytcimiajkbgabiaa

namespace Go.Proofs.Ytcimiajkbgabiaa
open Go.RowKit
set_option linter.unusedVariables false
set_option linter.unusedSimpArgs false

theorem spared_big {w : World} {g : Nat} {zs : List Int} (h : Blk w g 5 (u8s (spared zs))) (hb : Bytes zs) (ht : zs.length ≤ 140737488351232) : Seen w (some ⟨g, 0, none⟩) zs.length zs :=
  ⟨rfl, by omega, hb, fun _ => ⟨g, 0, rfl, h.lt, fun i hi => by rw [Nat.zero_add, u8s_cell h i (by rw [spared_length]; omega), spared_front zs i hi]⟩⟩
set_option maxHeartbeats 1000000 in
set_option maxRecDepth 20000 in
theorem spare_big (ao : Option Addr) (n c : Nat) (zs : List Int) (w : World) (hx : Seen w ao n zs) (hn : n ≤ 140737488351232) :
    Calls Try.prog 14 #[.slice ao n c] w fun e w' => e = .returned (.slice (some ⟨w.heap.size, 0, none⟩) n (n + 80)) ∧ Blk w' w.heap.size 5 (u8s (spared zs)) ∧ w'.heap.size = w.heap.size + 1 ∧ Below w.heap.size w w' := by
  have HL : Hid (zs.length = n) := hx.len
  have HX : Hid (Seen w ao n zs) := hx
  obtain ⟨i0, hi, hz0, hz1, hz2⟩ := info_parts info_byte
  have hmk := run_make (P := Try.prog) w 22 5 i0 (.int .u8 0) Try.underlying22 hi hz0 .i64 .i64 ((n : Int) + 80) ((n : Int) + 80) (by omega) (Int.le_refl _) (by rw [hz2]; omega) (by omega)
  rw [hz1, show (((n : Int) + 80).toNat) = n + 80 by omega, Nat.mul_one, show (Value.int .u8 0).cells = #[.int .u8 0] from rfl, made_zero] at hmk
  obtain ⟨w1, hw1, HB⟩ : ∃ w1, w.alloc (.cells (u8s (List.replicate (n + 80) 0)).toArray 5) = w1 ∧ Hid (Blk w1 w.heap.size 5 (u8s (List.replicate (n + 80) 0)) ∧ Below w.heap.size w w1 ∧ w1.heap.size = w.heap.size + 1) := ⟨_, rfl, ⟨heap_alloc_new w _, (Below.refl _ _).alloc (Nat.le_refl _) _, by simp⟩⟩
  rw [hw1] at hmk
  clear hw1 hx hi hz0 hz1 hz2
  go_enter Try.func14, Try.ntmps14
  go_wp2
  go_loopw [4] (fun i wr => ∃ k : Nat, k ≤ n + 80 ∧ i = .int .i64 k ∧ Blk wr w.heap.size 5 (u8s ((spared zs).take k ++ List.replicate (n + 80 - k) 0)) ∧ Kept (fun b => b = w.heap.size) w1 wr ∧ wr.heap.size = w.heap.size + 1) (fun i _ => n + 80 - (intOf i).toNat)
  case atStart => exact ⟨0, Nat.zero_le _, rfl, HB.out.1, Kept.refl _ _, HB.out.2.2⟩
  case round =>
    obtain ⟨k, hk, rfl, hb, hkp, hws⟩ := hrel
    have hsl := spared_length zs
    have hl := HL.out
    by_cases hlt : k < n + 80
    · have cs := u8s_cell hb k (by simp [hsl]; omega)
      have fs := hb.frozen k
      have i1 : (0 : Int) ≤ (k : Int) := by omega
      have i2 : (k : Int) < (n : Int) + 80 := by omega
      have HT := take_next (spared zs) k (by omega) (n + 80 - (k + 1))
      rw [show n + 80 - (k + 1) + 1 = n + 80 - k by omega] at HT
      have HE : Hid (((spared zs).take k ++ List.replicate (n + 80 - k) 0).set k ((spared zs).getD k 0) = (spared zs).take (k + 1) ++ List.replicate (n + 80 - (k + 1)) 0) := HT
      have X0 : Hid (Blk wr w.heap.size 5 (u8s ((spared zs).take k ++ List.replicate (n + 80 - k) 0)) ∧ Kept (fun b => b = w.heap.size) w1 wr ∧ wr.heap.size = w.heap.size + 1) := ⟨hb, hkp, hws⟩
      by_cases hin : k < n
      · obtain ⟨b, o, rfl, hbl, hc⟩ := HX.out.cells (by omega)
        have c1 : wr.cell? ⟨b, o + k, none⟩ = some (.int .u8 (zs.getD k 0)) := (hkp.cell (p := ⟨b, o + k, none⟩) (by show b < _; have := HB.out.2.2; omega) (by show ¬ b = _; omega)).trans ((HB.out.2.1.cell (p := ⟨b, o + k, none⟩) hbl).trans (hc k hin))
        have HV : Hid ((spared zs).getD k 0 = zs.getD k 0) := spared_front zs k (by omega)
        obtain ⟨Z, hZ⟩ : ∃ Z, zs.getD k 0 = Z := ⟨_, rfl⟩
        rw [hZ] at c1 HV
        have i3 : (k : Int) < (n : Int) := by omega
        clear hb hkp hZ hc HT hsl hl hws
        go_wp2
        have R1 := X0.out.1.set k (.int .u8 Z)
        rw [u8s_set, ← HV.out, HE.out, HV.out] at R1
        exact ⟨⟨k + 1, by omega, by go_num, R1, X0.out.2.1.setCell (S := fun b => b = w.heap.size) rfl _, by have := X0.out.2.2; simpa [World.setCell] using this⟩, by simp [intOf]; omega⟩
      · have HV : Hid ((spared zs).getD k 0 = markB k) := spared_mark zs k (by omega) (by omega)
        have i3 : ¬ (k : Int) < (n : Int) := by omega
        clear hb hkp HT hsl hl hws
        go_wp2
        have R1 := X0.out.1.set k (.int .u8 (markB k))
        rw [u8s_set, ← HV.out, HE.out, HV.out] at R1
        exact ⟨⟨k + 1, by omega, by go_num, R1, X0.out.2.1.setCell (S := fun b => b = w.heap.size) rfl _, by have := X0.out.2.2; simpa [World.setCell] using this⟩, by simp [intOf]; omega⟩
    · obtain rfl : k = n + 80 := by omega
      rw [Nat.sub_self, List.replicate_zero, List.append_nil, List.take_of_length_le (by omega)] at hb
      have X3 : Hid (Blk wr w.heap.size 5 (u8s (spared zs)) ∧ wr.heap.size = w.heap.size + 1 ∧ Below w.heap.size w wr) := ⟨hb, hws, below_kept HB.out.2.1 hkp HB.out.2.1.size (fun j hj => by omega)⟩
      clear hb hkp hws hsl hl
      go_wp2
      go_ret
      exact ⟨rfl, X3.out.1, X3.out.2.1, X3.out.2.2⟩
set_option maxHeartbeats 1000000 in
set_option maxRecDepth 20000 in
theorem kept_big (g : Nat) (bo : Option Addr) (n d : Nat) (zs : List Int) (w : World) (hx : Blk w g 5 (u8s (spared zs))) (hy : Seen w bo n zs) (hn : n ≤ 140737488351232) :
    Calls Try.prog 16 #[.slice (some ⟨g, 0, none⟩) n (n + 80), .slice bo n d] w fun e w' => e = .returned (.bool true) ∧ ∃ q, w' = w.drewN q := by
  have hl := hy.len
  have S1 : Hid (Seen w (some ⟨g, 0, none⟩) n zs) := by
    have := spared_big hx hy.bytes (by omega)
    rwa [hl] at this
  have HY : Hid (Seen w bo n zs ∧ Blk w g 5 (u8s (spared zs)) ∧ zs.length = n) := ⟨hy, hx, hl⟩
  clear hx hy hl
  go_enter Try.func16, Try.ntmps16
  go_wp2_with fail
  refine (eqb_yes _ bo n (n + 80) d zs w S1.out HY.out.1).mono ?_
  rintro e w1 ⟨rfl, q, rfl⟩
  go_wp2
  go_loopw [6] (fun i wr => ∃ k : Nat, n ≤ k ∧ k ≤ n + 80 ∧ i = .int .i64 k ∧ ∃ q, wr = w.drewN q) (fun i _ => n + 80 - (intOf i).toNat)
  case atStart => exact ⟨n, Nat.le_refl _, by omega, rfl, q, rfl⟩
  case round =>
    obtain ⟨k, hk0, hk, rfl, q, rfl⟩ := hrel
    by_cases hlt : k < n + 80
    · have c1 : (w.drewN q).cell? ⟨g, k, none⟩ = some (.int .u8 (markB k)) := by
        have := u8s_cell HY.out.2.1 k (by rw [spared_length, HY.out.2.2]; omega)
        rw [spared_mark zs k (by rw [HY.out.2.2]; exact hk0) (by rw [HY.out.2.2]; exact hlt)] at this
        exact this
      rw [markB] at c1
      have i1 : (0 : Int) ≤ (k : Int) := by omega
      have i2 : (k : Int) < (n : Int) + 80 := by omega
      go_wp2
      exact ⟨⟨k + 1, by omega, by omega, by go_num, q, rfl⟩, by simp [intOf]; omega⟩
    · obtain rfl : k = n + 80 := by omega
      go_wp2
      go_ret
      exact ⟨rfl, q, rfl⟩
theorem spared_set (us : List Int) (k : Nat) (z : Int) (hk : k < us.length) : (spared us).set k z = spared (us.set k z) := by
  rw [spared, spared, List.set_append_left _ _ hk, List.length_set]
theorem cell_three (w : World) (x y z : Value) (t : TypeId) (j : Nat) (hj : j < 3) : (w.alloc (.cells #[x, y, z] t)).cell? ⟨w.heap.size, j, none⟩ = some ([x, y, z].getD j undef) := by
  have h : (w.alloc (.cells #[x, y, z] t)).heap[w.heap.size]? = some (.cells [x, y, z].toArray t (0, 0)) := heap_alloc_new w _
  rw [cell_of_row _ _ j _ t (0, 0) h]
  rcases (by omega : j = 0 ∨ j = 1 ∨ j = 2) with rfl | rfl | rfl <;> rfl
/-- The three rows, as a lot. -/
theorem lot3 {W : World} {o1 o2 o3 : Option Addr} {n c1 c2 c3 a1 b1 a2 b2 a3 b3 : Nat} {L1 L2 L3 : List Int} (h1 : Out W a1 b1 o1 n c1 L1) (h2 : Out W a2 b2 o2 n c2 L2) (h3 : Out W a3 b3 o3 n c3 L3) (e1 : b1 ≤ a2) (e2 : b2 ≤ a3) (i1 : a1 ≤ b1) (i2 : a2 ≤ b2) (i3 : a3 ≤ b3) (he : b3 ≤ W.heap.size) :
    Lot (W.alloc (.cells #[.slice o1 n c1, .slice o2 n c2, .slice o3 n c3] 22)) W.heap.size 3 (fun j => [o1, o2, o3].getD j none) (fun j => [n, n, n].getD j 0) (fun j => [c1, c2, c3].getD j 0) (fun j => [c1, c2, c3].getD j 0) (fun j => [L1, L2, L3].getD j []) ∧
    ∀ y, LotS 3 (fun j => [o1, o2, o3].getD j none) y → (a1 ≤ y ∧ y < b1) ∨ (a2 ≤ y ∧ y < b2) ∨ (a3 ≤ y ∧ y < b3) := by
  have l := (Below.refl W.heap.size W).alloc (Nat.le_refl _) (.cells #[.slice o1 n c1, .slice o2 n c2, .slice o3 n c3] 22)
  have hp : ∀ j g, j < 3 → [o1, o2, o3].getD j none = some ⟨g, 0, none⟩ → [a1, a2, a3].getD j 0 ≤ g ∧ g < [b1, b2, b3].getD j 0 := by
    intro j g hj e1
    rcases (by omega : j = 0 ∨ j = 1 ∨ j = 2) with rfl | rfl | rfl
    · exact h1.place g 0 e1
    · exact h2.place g 0 e1
    · exact h3.place g 0 e1
  refine ⟨⟨World.block_lt_of_cell? _ _ (cell_three W _ _ _ _ 0 (by decide)), fun j hj => ?_, fun j hj => ?_, fun j hj => .inl rfl, fun j j' g hj hj' e1 e2 => ?_, fun j g hj e1 => ?_⟩, fun y ⟨j, hj, e1⟩ => ?_⟩
  · rw [cell_three _ _ _ _ _ j hj]
    rcases (by omega : j = 0 ∨ j = 1 ∨ j = 2) with rfl | rfl | rfl <;> rfl
  · rcases (by omega : j = 0 ∨ j = 1 ∨ j = 2) with rfl | rfl | rfl
    · exact (h1.later l).own
    · exact (h2.later l).own
    · exact (h3.later l).own
  · have p1 := hp j g hj e1
    have p2 := hp j' g hj' e2
    rcases (by omega : j = 0 ∨ j = 1 ∨ j = 2) with rfl | rfl | rfl <;> rcases (by omega : j' = 0 ∨ j' = 1 ∨ j' = 2) with rfl | rfl | rfl <;> first | rfl | (simp at p1 p2; omega)
  · have := hp j g hj e1
    rcases (by omega : j = 0 ∨ j = 1 ∨ j = 2) with rfl | rfl | rfl <;> simp at this <;> omega
  · have := hp j y hj e1
    rcases (by omega : j = 0 ∨ j = 1 ∨ j = 2) with rfl | rfl | rfl <;> simp at this <;> omega
end Go.Proofs.Ytcimiajkbgabiaa
