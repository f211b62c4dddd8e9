/- Joined by program: what the theorem reaches. -/
import Derived.Laws.StructEq
import Derived.Lib.SmallJoins
import Derived.Laws.Cover3
import Derived.Lib.SliceRun
import Derived.WalkMore
import Derived.ScopeJumps
import Derived.WalkKit
import Derived.LaidEql
import Derived.Stop.Asserts
import Derived.RowKitTokens
import Derived.Lib.IfaceEq
import Derived.Test.YtpanagghppdiiaaGreatJA
import Derived.Test.YtpanagghppdiiaaGreatJB
import Derived.Test.YtpanagghppdiiaaGreatJC
import Derived.Test.YtpanagghppdiiaaGreatJD
import Derived.Test.YtpanagghppdiiaaGreatJE
namespace Go.Proofs.YtpanagghppdiiaaGreat
open Go.RowKit Go.Joins Go.Extern.Stop Go.Stop Go.Extern
set_option linter.unusedVariables false
set_option linter.unusedSimpArgs false
set_option maxRecDepth 20000
set_option maxHeartbeats 2000000
theorem infoByte : (Tryz.prog.info? 5).map (fun i => (i.zero, i.size)) = some (some (.int .u8 0), 1) := by kernel_rfl
def isP (n : Nat) (pss : List (List Int)) (v : Value) (w : World) : Prop := ∃ b c, v = .slice (some ⟨b, 0, none⟩) n c ∧ SeenP w (some ⟨b, 0, none⟩) n pss
theorem isP_later (n : Nat) (pss : List (List Int)) : ∀ v w w', Below w.heap.size w w' → isP n pss v w → isP n pss v w' := fun _ _ _ hb ⟨b, c, h1, h2⟩ => ⟨b, c, h1, h2.later hb (Nat.le_refl _)⟩
theorem Does.run {base : Nat} {E : Exp} {ρ : Operand → Value} {o : Oper} {w w' : World} (v : Value) (h : (execOp ρ o).run Tryz.prog w = .ok (.value v) w') (hE : E.ok base v w') (hb : Below w.heap.size w w') : Does base E ρ o w := by
 unfold Does; rw [h]; exact ⟨hE, hb⟩
theorem bs1 (s1 : Option Addr) (n1 c1 : Nat) (w : World) : (Instr.buildSlice 33 1 #[(0, .slice s1 n1 c1)]).run Tryz.prog w = .ok (.slice (some ⟨w.heap.size, 0, none⟩) 1 1) (w.alloc (.cells #[.slice s1 n1 c1] 37)) := by kernel_rfl
theorem Does.rows1 {base : Nat} {ρ : Operand → Value} {o : Oper} {w : World} (parts : Array (Nat × Operand)) (ho : o.op = .buildSlice 33 1 parts) (s1 : Option Addr) (n1 c1 : Nat) (z1 : List Int) (hp : (parts.map fun (i, x) => (i, ρ x)) = #[(0, .slice s1 n1 c1)]) (h1 : Seen w s1 n1 z1) (l1 : n1 ≤ c1) : Does base (.any (isP 1 [z1]) (isP_later _ _)) ρ o w := by
 refine Does.run (.slice (some ⟨w.heap.size, 0, none⟩) 1 1) (w' := w.alloc (.cells #[.slice s1 n1 c1] 37)) ?_ ⟨_, _, rfl, seenP1 w s1 n1 c1 z1 h1 l1⟩ ((Below.refl _ _).alloc (Nat.le_refl _) _)
 unfold execOp
 simp only [ho, hp, Sem.run_bind, bs1, Sem.run_pure, Result.andThen_ok]
def hdr (x : Option Addr × Nat × Nat × List Int) : Value := .slice x.1 x.2.1 x.2.2.1
theorem seenPn (W : World) (l : List (Option Addr × Nat × Nat × List Int)) (h : ∀ x ∈ l, Seen W x.1 x.2.1 x.2.2.2 ∧ x.2.1 ≤ x.2.2.1) :
  SeenP (W.alloc (.cells (l.map hdr).toArray 37)) (some ⟨W.heap.size, 0, none⟩) l.length (l.map (·.2.2.2)) := by
 have hb : Below W.heap.size W (W.alloc (.cells (l.map hdr).toArray 37)) := (Below.refl _ _).alloc (Nat.le_refl _) _
 have hh : (W.alloc (.cells (l.map hdr).toArray 37)).heap[W.heap.size]? = some (.cells (l.map hdr).toArray 37 (0, 0)) := heap_alloc_new W _
 refine ⟨by simp, fun i hi => ?_⟩
 have hx := h l[i] (List.getElem_mem hi)
 have e : (l.map (·.2.2.2)).getD i [] = l[i].2.2.2 := by simp [List.getD, hi]
 have el : l[i].2.2.2.length = l[i].2.1 := hx.1.len
 rw [e, el]
 refine ⟨_, 0, l[i].1, l[i].2.2.1, rfl, by simp, ?_, hx.1.later hb (Nat.le_refl _), hx.2⟩
 rw [cell_of_row _ _ _ _ _ _ hh]
 simp [hi, hdr]
theorem bs5 (s1 s2 s3 s4 s5 : Option Addr) (n1 n2 n3 n4 n5 c1 c2 c3 c4 c5 : Nat) (w : World) : (Instr.buildSlice 33 5 #[(0, .slice s1 n1 c1), (1, .slice s2 n2 c2), (2, .slice s3 n3 c3), (3, .slice s4 n4 c4), (4, .slice s5 n5 c5)]).run Tryz.prog w = .ok (.slice (some ⟨w.heap.size, 0, none⟩) 5 5) (w.alloc (.cells #[.slice s1 n1 c1, .slice s2 n2 c2, .slice s3 n3 c3, .slice s4 n4 c4, .slice s5 n5 c5] 37)) := by kernel_rfl
theorem Does.rows5 {base : Nat} {ρ : Operand → Value} {o : Oper} {w : World} (parts : Array (Nat × Operand)) (ho : o.op = .buildSlice 33 5 parts) (s1 s2 s3 s4 s5 : Option Addr) (n1 n2 n3 n4 n5 c1 c2 c3 c4 c5 : Nat) (z1 z2 z3 z4 z5 : List Int) (hp : (parts.map fun (i, x) => (i, ρ x)) = #[(0, .slice s1 n1 c1), (1, .slice s2 n2 c2), (2, .slice s3 n3 c3), (3, .slice s4 n4 c4), (4, .slice s5 n5 c5)])
  (h1 : Seen w s1 n1 z1 ∧ n1 ≤ c1) (h2 : Seen w s2 n2 z2 ∧ n2 ≤ c2) (h3 : Seen w s3 n3 z3 ∧ n3 ≤ c3) (h4 : Seen w s4 n4 z4 ∧ n4 ≤ c4) (h5 : Seen w s5 n5 z5 ∧ n5 ≤ c5) : Does base (.any (isP 5 [z1, z2, z3, z4, z5]) (isP_later _ _)) ρ o w := by
 refine Does.run (.slice (some ⟨w.heap.size, 0, none⟩) 5 5) (w' := w.alloc (.cells #[.slice s1 n1 c1, .slice s2 n2 c2, .slice s3 n3 c3, .slice s4 n4 c4, .slice s5 n5 c5] 37)) ?_ ⟨_, _, rfl, ?_⟩ ((Below.refl _ _).alloc (Nat.le_refl _) _)
 ·unfold execOp
  simp only [ho, hp, Sem.run_bind, bs5, Sem.run_pure, Result.andThen_ok]
 ·exact seenPn w [(s1, n1, c1, z1), (s2, n2, c2, z2), (s3, n3, c3, z3), (s4, n4, c4, z4), (s5, n5, c5, z5)] (fun x hx => by
   simp only [List.mem_cons, List.not_mem_nil, or_false] at hx
   rcases hx with rfl | rfl | rfl | rfl | rfl
   ·exact h1
   ·exact h2
   ·exact h3
   ·exact h4
   ·exact h5)
def isS (zs : List Int) (v : Value) (w : World) : Prop := ∃ vo n c, v = .slice vo n c ∧ Seen w vo n zs ∧ n ≤ c
theorem isS_later (zs : List Int) : ∀ v w w', Below w.heap.size w w' → isS zs v w → isS zs v w' := fun _ _ _ hb ⟨b, o, c, h1, h2, h3⟩ => ⟨b, o, c, h1, h2.later hb (Nat.le_refl _), h3⟩
theorem madeZ (n : Nat) : (madeCells #[Value.int .u8 0] n) = (u8s (List.replicate n 0)).toArray := by
 apply Array.ext'
 rw [toList_madeCells_one]
 simp [u8s]
theorem filler_any (ao : Option Addr) (n c : Nat) (hn : n ≤ 140737488355328) (w : World) :
  Calls Tryz.prog 144 #[.slice ao n c] w fun e w' => ∃ v, e = .returned v ∧ isS (fillL n) v w' ∧ Below w.heap.size w w' := by
 obtain ⟨i0, hi, hz0, hz1, hz2⟩ := info_parts info_byte
 obtain ⟨R, hR⟩ : ∃ R, n % 16 = R := ⟨_, rfl⟩
 obtain ⟨K, hK⟩ : ∃ K, fillN n = K := ⟨_, rfl⟩
 have hR16 : R < 16 := by omega
 have hK2 : (16 - R) % 16 = K := by rw [← hK, fillN, hR]
 have hK16 : K < 16 := by omega
 have n1 : (n : Int).tmod 16 = (R : Int) := by rw [Int.tmod_eq_emod_of_nonneg (by omega)]; omega
 have n2 : (n : Int) % 16 = (R : Int) := by omega
 have n3 : (16 - (R : Int)).tmod 16 = (K : Int) := by rw [Int.tmod_eq_emod_of_nonneg (by omega)]; omega
 have n4 : (16 - (R : Int)) % 16 = (K : Int) := by omega
 have hmk := run_make (P := Tryz.prog) w 37 5 i0 (.int .u8 0) Tryz.underlying37 hi hz0 .i64 .i64 (K : Int) (K : Int) (by omega) (Int.le_refl _) (by rw [hz2]; omega) (by omega)
 rw [hz1, show ((K : Int).toNat) = K by omega, Nat.mul_one, show (Value.int .u8 0).cells = #[.int .u8 0] from rfl, madeZ] at hmk
 obtain ⟨w1, hw1, HB⟩ : ∃ w1, w.alloc (.cells (u8s (List.replicate K 0)).toArray 5) = w1 ∧ Hid (Blk w1 w.heap.size 5 (u8s (List.replicate K 0)) ∧ Below w.heap.size w w1) := ⟨_, rfl, ⟨heap_alloc_new w _, (Below.refl _ _).alloc (Nat.le_refl _) _⟩⟩
 rw [hw1] at hmk
 have HE : Hid (fillL n = List.replicate K 0) := by show _ = _; rw [fillL, hK]
 clear hw1 hi hz0 hz1 hz2 hR hK hK2
 go_enter Tryz.func144, Tryz.ntmps144
 go_wp2
 go_ret
 refine ⟨_, rfl, ⟨_, _, _, rfl, ?_, Nat.le_refl _⟩, HB.out.2⟩
 rw [HE.out]
 have := seen_blk HB.out.1 (rep0_bytes K) (by simp; omega)
 simpa using this
theorem laidOver_any (key nonce : List Int) (n c : Nat) (ao : Option Addr) (zs : List Int) (hk : key.length = 32) (hno : nonce.length = 12) (hkb : Bytes key) (hnb : Bytes nonce) (hc : n ≤ 274877906880) (w : World) (hx : Seen w ao n zs) :
  Calls Tryz.prog 132 #[.agg (u8s key).toArray, .agg (u8s nonce).toArray, .slice ao n c] w fun e w' => ∃ v, e = .returned v ∧ w'.ownsRow w.heap.size 5 1 v n ((coverL key nonce zs).map (Value.int .u8)) ∧ Below w.heap.size w w' := by
 have HX : Hid (Seen w ao n zs) := hx
 clear hx
 have HS : Hid (key.length = 32 ∧ nonce.length = 12 ∧ Bytes key ∧ Bytes nonce) := ⟨hk, hno, hkb, hnb⟩
 clear hk hno hkb hnb
 go_enter Tryz.func132, Tryz.ntmps132
 go_wp2_with (first | (refine wpList_box_new rfl 30 _ rfl (u8s key) rfl ?_; intro w1 b1 s1 l1) | (refine wpList_box_new rfl 95 _ rfl (u8s nonce) rfl ?_; intro w2 b2 s2 l2) | (refine wpList_load_blk rfl 30 _ rfl _ rfl (u8s key) _ (by first | exact b1.later l2 (by omega)) Tryz.underlying30 rfl (by rw [u8s_length, HS.out.1]; exact sizeKey) ?_) | (refine wpList_load_blk rfl 95 _ rfl _ rfl (u8s nonce) _ (by first | exact b2 | (rw [← s1]; exact b2)) Tryz.underlying95 rfl (by rw [u8s_length, HS.out.2.1]; exact sizeNonce) ?_) | (go_at_call 141; refine (xor_any key nonce 1 n c ao zs HS.out.1 HS.out.2.1 HS.out.2.2.1 HS.out.2.2.2 (by decide) (by omega) _ (HX.out.later (below_chain l1 l2 (by omega)) (Nat.le_refl _))).mono ?_; rintro e w3 ⟨v, rfl, o3, l3⟩; have HO : Hid (w3.ownsRow w.heap.size 5 1 v n ((coverL key nonce zs).map (Value.int .u8)) ∧ Below w.heap.size w w3) := ⟨ownsRow_base o3 (by omega), below_chain (below_chain l1 l2 (by omega)) l3 (by omega)⟩; clear o3 l3 b1 s1 l1 b2 s2 l2))
 go_ret
 exact ⟨_, rfl, HO.out⟩
theorem arrKey (ao : Option Addr) (n c : Nat) (hn : 32 ≤ n) (w : World) : (Instr.arrayAt 30 (.slice ao n c)).run Tryz.prog w = .ok (.pointer ao) w := run_arrayAt w 30 5 32 ao n c Tryz.underlying30 hn
theorem sizeA64b : (Tryz.prog.info? 216).map (·.size) = some 64 := by kernel_rfl
theorem codeOf_any (key nonce : List Int) (n c m d : Nat) (ao bo : Option Addr) (ms zs : List Int) (hk : key.length = 32) (hno : nonce.length = 12) (hkb : Bytes key) (hnb : Bytes nonce) (w : World) (hx : Seen w ao n ms) (hy : Seen w bo m zs) (hc : n ≤ c) (hd : m ≤ d) :
  Calls Tryz.prog 133 #[.agg (u8s key).toArray, .agg (u8s nonce).toArray, .slice ao n c, .slice bo m d] w fun e w' => e = .returned (.agg (u8s (codeL key nonce ms zs)).toArray) ∧ Below w.heap.size w w' := by
 have HX : Hid (Seen w ao n ms ∧ Seen w bo m zs ∧ n ≤ c ∧ m ≤ d) := ⟨hx, hy, hc, hd⟩
 have HS : Hid (key.length = 32 ∧ nonce.length = 12 ∧ Bytes key ∧ Bytes nonce) := ⟨hk, hno, hkb, hnb⟩
 have t1 := hx.top
 have t2 := hy.top
 have e1 : ms.length = n := hx.len
 have e2 : zs.length = m := hy.len
 obtain ⟨B, hB⟩ : ∃ B, blkB key 0 nonce = B := ⟨_, rfl⟩
 obtain ⟨TK, hTK⟩ : ∃ T, tagKey key nonce = T := ⟨_, rfl⟩
 obtain ⟨CL, hCL⟩ : ∃ C, codeL key nonce ms zs = C := ⟨_, rfl⟩
 have HB : Hid (blkB key 0 nonce = B ∧ B.length = 64 ∧ u8s B = u8s TK ++ u8s (B.drop 32) ∧ TK.length = 32 ∧ Bytes TK ∧ CL.length = 16 ∧ tagB TK ([ms, fillL n, zs, fillL m, ends8 n m] : List (List Int)).flatten = CL) := by
  refine ⟨hB, by rw [← hB, blkB_length], ?_, by rw [← hTK, tagKey_length], by rw [← hTK]; exact tagKey_bytes _ _, by rw [← hCL, codeL_length], ?_⟩
  ·rw [← hTK, tagKey, hB, u8s, u8s, u8s, ← List.map_append, List.take_append_drop]
  ·rw [← hCL, codeL, hTK, vouched, e1, e2]
 rw [hCL]
 clear hx hy hk hno hkb hnb hB hTK hCL e1 e2 hc hd
 have v1 : IntKind.u64.wrap (n : Int) = (n : Int) := by simp only [IntKind.wrap, IntKind.bits, IntKind.signed]; simp; omega
 have v2 : IntKind.u64.wrap (m : Int) = (m : Int) := by simp only [IntKind.wrap, IntKind.bits, IntKind.signed]; simp; omega
 go_enter Tryz.func133, Tryz.ntmps133
 go_wp2_with (first | (refine wpList_box_new rfl 30 _ rfl (u8s key) rfl ?_; intro w1 b1 s1 l1) | (refine wpList_box_new rfl 95 _ rfl (u8s nonce) rfl ?_; intro w2 b2 s2 l2) | (refine wpList_alloc_new rfl 197 rfl 16 _ zeroTag ?_; intro w3 b3 s3 l3; have K3 : Hid (Blk w3 w.heap.size 30 (u8s key) ∧ Blk w3 w1.heap.size 95 (u8s nonce)) := ⟨(b1.later l2 (by omega)).later l3 (by omega), b2.later l3 (by omega)⟩) | (refine wpList_load_blk rfl 30 _ rfl _ rfl (u8s key) _ K3.out.1 Tryz.underlying30 rfl (by rw [u8s_length, HS.out.1]; exact sizeKey) ?_) | (refine wpList_load_blk rfl 95 _ rfl _ rfl (u8s nonce) _ (by first | exact K3.out.2 | (rw [← s1]; exact K3.out.2)) Tryz.underlying95 rfl (by rw [u8s_length, HS.out.2.1]; exact sizeNonce) ?_) | (go_at_call 142; refine (block_any key 0 nonce HS.out.1 HS.out.2.1 HS.out.2.2.1 HS.out.2.2.2 _).mono ?_; rintro e w4 ⟨rfl, l4⟩; rw [HB.out.1]) | (refine wpList_alloc_new rfl 216 rfl 64 _ zero64b ?_; intro w5 b5 s5 l5) | (refine wpList_store_blk rfl 216 216 _ _ rfl _ rfl _ (u8s B) rfl b5 (by rw [u8s_length, u8s_length, HB.out.2.1]; rfl) (by rw [u8s_length, HB.out.2.1]; exact sizeA64b) (u8s_one _) ?_; intro w6 b6 s6 k6))
 have q4 := l4.size
 obtain ⟨G, hG⟩ : ∃ G, w4.heap.size = G := ⟨_, rfl⟩
 try simp only [Act.put, sqA, sqB, sqC]
 rw [hG] at b6 k6 ⊢
 have H6 : Hid (Blk w6 G 216 (u8s B) ∧ Blk w6 (w.heap.size + 1 + 1) 197 (u8s (zs0 16)) ∧ Below w.heap.size w w6 ∧ w.heap.size + 1 + 1 < G) := by
  rw [s2, s1] at b3
  exact ⟨b6, ((b3.later l4 (by omega)).later l5 (by omega)).kept k6 (by omega), below_kept (below_chain (below_chain (below_chain (below_chain l1 l2 (by omega)) l3 (by omega)) l4 (by omega)) l5 (by omega)) k6 (by omega) (fun j hj => by omega), by omega⟩
 clear b1 s1 l1 b2 s2 l2 b3 s3 l3 l4 b5 s5 l5 b6 s6 k6 hG q4 K3
 refine (put_64 none 0 0 [] (n : Int) w6 (Seen.empty _ _) (fun _ => rfl) (by decide) (by omega)).mono ?_
 rintro e w7 ⟨v7, rfl, o7, l7⟩
 obtain ⟨p7, c7, rfl, d7, _⟩ := own_seen (by simp [leB_length]) (bytes_app (fun z hz => by cases hz) (leB_bytes _ _)) (by decide) o7
 have z7 : p7 = none → c7 = 0 := fun h => by
  obtain ⟨b, o, e, _⟩ := d7.cells (by decide)
  rw [h] at e; cases e
 have H7 : Hid (Blk w7 G 216 (u8s B) ∧ Blk w7 (w.heap.size + 1 + 1) 197 (u8s (zs0 16)) ∧ Below w.heap.size w w7 ∧ Seen w7 p7 (0 + 8) ([] ++ leB 8 n) ∧ w.heap.size + 1 + 1 < G) := ⟨H6.out.1.later l7 H6.out.1.lt, H6.out.2.1.later l7 H6.out.2.1.lt, below_chain H6.out.2.2.1 l7 H6.out.2.2.1.size, d7, H6.out.2.2.2⟩
 clear o7 l7 d7 H6
 go_wp2_with fail
 refine (put_64 p7 (0 + 8) c7 _ (m : Int) w7 H7.out.2.2.2.1 z7 (by decide) (by omega)).mono ?_
 rintro e w8 ⟨v8, rfl, o8, l8⟩
 have b8 : Bytes (([] ++ leB 8 (n : Int)) ++ leB 8 (m : Int)) := bytes_app (bytes_app (fun z hz => by cases hz) (leB_bytes _ _)) (leB_bytes _ _)
 have e8 : (([] ++ leB 8 (n : Int)) ++ leB 8 (m : Int) : List Int).length = 0 + 8 + 8 := by simp [leB_length]
 rw [← e8] at o8
 obtain ⟨po8, c8, rfl, d8, hc8, _⟩ := own_data b8 (by rw [e8]; decide) o8
 rw [e8] at d8 hc8
 have H8 : Hid (Blk w8 G 216 (u8s B) ∧ Blk w8 (w.heap.size + 1 + 1) 197 (u8s (zs0 16)) ∧ Below w.heap.size w w8 ∧ Seen w8 po8 16 (ends8 n m) ∧ 16 ≤ c8 ∧ Seen w8 ao n ms ∧ Seen w8 bo m zs) := by
  have L8 := below_chain H7.out.2.2.1 l8 H7.out.2.2.1.size
  refine ⟨H7.out.1.later l8 H7.out.1.lt, H7.out.2.1.later l8 H7.out.2.1.lt, L8, ?_, hc8, HX.out.1.later L8 (Nat.le_refl _), HX.out.2.1.later L8 (Nat.le_refl _)⟩
  simpa [ends8] using d8
 rw [e8]
 clear o8 l8 d8 hc8 H7 b8 e8 z7
 go_wp2_with fail
 try simp only [Act.put, sqA, sqB, sqC]
 refine region_inv [.val (.slice (some ⟨G, 0, none⟩) 32 64), .val (.pointer (some ⟨G, 0, none⟩)), .val (.agg (u8s TK).toArray), .val (.slice ao n c), .val (.slice ao n c), .any (isS (fillL n)) (isS_later _), .val (.slice bo m d), .val (.slice bo m d), .any (isS (fillL m)) (isS_later _), .val (.slice po8 16 c8), .any (isP 5 [ms, fillL n, zs, fillL m, ends8 n m]) (isP_later _ _), .val (.agg (u8s CL).toArray)] (by kernel_rfl) (by kernel_rfl) (by kernel_rfl) ?_ ?_
 ·refine Steps'.cons ?_ (Steps'.cons ?_ (Steps'.cons ?_ (Steps'.cons ?_ (Steps'.cons ?_ (Steps'.cons ?_ (Steps'.cons ?_ (Steps'.cons ?_ (Steps'.cons ?_ (Steps'.cons ?_ (Steps'.cons ?_ (Steps'.cons ?_ (Steps'.one _ _ _ _ _ _ _))))))))))))
  ·intro ax wx hb hs hd
   have h9 : ax.tmps.getD 9 undef = (.pointer (some ⟨G, 0, none⟩)) := hs 9 (by kernel_rfl)
   refine Does.value (.slice (some ⟨G, 0, none⟩) 32 64) ?_ rfl
   go_simp
  ·intro ax wx hb hs hd
   have h22 := sqV (hd 0 22 rfl (by kernel_rfl) (by decide))
   have hat := arrKey (some ⟨G, 0, none⟩) 32 64 (Nat.le_refl _) wx
   refine Does.value (.pointer (some ⟨G, 0, none⟩)) ?_ rfl
   go_simp
  ·intro ax wx hb hs hd
   have h23 := sqV (hd 1 23 rfl (by kernel_rfl) (by decide))
   exact Does.load 30 (.tmp 23) rfl G 0 h23 (u8s TK) _ (by have q := H8.out.1.later hb H8.out.1.lt; rw [HB.out.2.2.1] at q; exact Blk.range (xs := []) (ys := u8s TK) q) Tryz.underlying30 rfl (by rw [u8s_length, HB.out.2.2.2.1]; exact sizeKey)
  ·intro ax wx hb hs hd
   have h2 : ax.tmps.getD 2 undef = (.slice ao n c) := hs 2 (by kernel_rfl)
   refine Does.value (.slice ao n c) ?_ rfl
   go_simp
  ·intro ax wx hb hs hd
   have h2 : ax.tmps.getD 2 undef = (.slice ao n c) := hs 2 (by kernel_rfl)
   refine Does.value (.slice ao n c) ?_ rfl
   go_simp
  ·intro ax wx hb hs hd
   have h26 := sqV (hd 4 26 rfl (by kernel_rfl) (by decide))
   refine Does.call 144 #[(.slice ao n c)] (by go_simp) ?_
   exact filler_any _ _ _ t1 wx
  ·intro ax wx hb hs hd
   have h3 : ax.tmps.getD 3 undef = (.slice bo m d) := hs 3 (by kernel_rfl)
   refine Does.value (.slice bo m d) ?_ rfl
   go_simp
  ·intro ax wx hb hs hd
   have h3 : ax.tmps.getD 3 undef = (.slice bo m d) := hs 3 (by kernel_rfl)
   refine Does.value (.slice bo m d) ?_ rfl
   go_simp
  ·intro ax wx hb hs hd
   have h29 := sqV (hd 7 29 rfl (by kernel_rfl) (by decide))
   refine Does.call 144 #[(.slice bo m d)] (by go_simp) ?_
   exact filler_any _ _ _ t2 wx
  ·intro ax wx hb hs hd
   have h10 : ax.tmps.getD 10 undef = (.slice po8 16 c8) := hs 10 (by kernel_rfl)
   refine Does.value (.slice po8 16 c8) ?_ rfl
   go_simp
  ·intro ax wx hb hs hd
   have h25 := sqV (hd 3 25 rfl (by kernel_rfl) (by decide))
   have h28 := sqV (hd 6 28 rfl (by kernel_rfl) (by decide))
   have h31 := sqV (hd 9 31 rfl (by kernel_rfl) (by decide))
   obtain ⟨x1, n1, c1, h27, s27, q27⟩ : isS (fillL n) (ax.tmps.getD 27 undef) wx := hd 5 27 rfl (by kernel_rfl) (by decide)
   obtain ⟨x2, n2, c2, h30, s30, q30⟩ : isS (fillL m) (ax.tmps.getD 30 undef) wx := hd 8 30 rfl (by kernel_rfl) (by decide)
   exact Does.rows5 _ rfl _ _ _ _ _ _ _ _ _ _ _ _ _ _ _ _ _ _ _ _ (by simp only [List.map_toArray, List.map_cons, List.map_nil, Act.eval, h25, h27, h28, h30, h31]) ⟨H8.out.2.2.2.2.2.1.later hb (Nat.le_refl _), HX.out.2.2.1⟩ ⟨s27, q27⟩ ⟨H8.out.2.2.2.2.2.2.later hb (Nat.le_refl _), HX.out.2.2.2⟩ ⟨s30, q30⟩ ⟨H8.out.2.2.2.1.later hb (Nat.le_refl _), H8.out.2.2.2.2.1⟩
  ·intro ax wx hb hs hd
   have h24 := sqV (hd 2 24 rfl (by kernel_rfl) (by decide))
   obtain ⟨b, c', h32, s32⟩ : isP 5 [ms, fillL n, zs, fillL m, ends8 n m] (ax.tmps.getD 32 undef) wx := hd 10 32 rfl (by kernel_rfl) (by decide)
   refine Does.call 143 #[(.agg (u8s TK).toArray), .slice (some ⟨b, 0, none⟩) 5 c'] (by go_simp) ?_
   have q := tsum_any TK HB.out.2.2.2.1 HB.out.2.2.2.2.1 _ 5 c' _ wx s32 (by decide)
   rw [HB.out.2.2.2.2.2.2] at q
   refine q.mono ?_
   rintro e w' ⟨rfl, l⟩
   exact ⟨_, rfl, rfl, l⟩
 ·intro wx hb
  iterate 5 refine @Ends.val _ _ _ _ _ _ _ _ _ _ rfl ?_
  refine @Ends.any _ _ _ _ _ _ _ _ _ (isS (fillL n)) (isS_later _) rfl ?_
  intro v5 p5
  iterate 2 refine @Ends.val _ _ _ _ _ _ _ _ _ _ rfl ?_
  refine @Ends.any _ _ _ _ _ _ _ _ _ (isS (fillL m)) (isS_later _) rfl ?_
  intro v8 p8
  refine @Ends.val _ _ _ _ _ _ _ _ _ (.slice po8 16 c8) rfl ?_
  refine @Ends.any _ _ _ _ _ _ _ _ _ (isP 5 [ms, fillL n, zs, fillL m, ends8 n m]) (isP_later _ _) rfl ?_
  intro v10 p10
  refine @Ends.val _ _ _ _ _ _ _ _ _ (.agg (u8s CL).toArray) rfl ?_
  refine @Ends.one _ _ _ _ _ _ _ ?_
  simp only [Act.put, sqA, sqB, sqC]
  have qT := H8.out.2.1
  refine last_store 197 (.tmp 8) (.tmp 33) rfl rfl _ rfl 197 _ (u8s CL) rfl (qT.later hb qT.lt) (by rw [u8s_length, HB.out.2.2.2.2.2.1]; rfl) (by rw [u8s_length, HB.out.2.2.2.2.2.1]; exact sizeTag) (u8s_one _) ?_
  intro w9 b9 s9 k9
  have L9 : Hid (Below w.heap.size w w9) := below_kept (below_chain H8.out.2.2.1 hb H8.out.2.2.1.size) k9 (below_chain H8.out.2.2.1 hb H8.out.2.2.1.size).size (fun j hj => by omega)
  clear k9 s9 hb
  go_wp2_with fail
  exact ret_blk rfl (w.heap.size + 1 + 1) (u8s CL) _ rfl b9 Tryz.underlying197 rfl (by rw [u8s_length, HB.out.2.2.2.2.2.1]; exact sizeTag) rfl ⟨rfl, L9.out⟩
theorem seal_any (key nonce : List Int) (n c m d : Nat) (ao bo : Option Addr) (ms zs : List Int) (hk : key.length = 32) (hno : nonce.length = 12) (hkb : Bytes key) (hnb : Bytes nonce) (hn : n ≤ 1048576) (hm : m ≤ 1048576) (w : World) (hx : Seen w ao n ms) (hy : Seen w bo m zs) (hc : n ≤ c) (hd : m ≤ d) :
  Calls Tryz.prog 122 #[.agg (u8s key).toArray, .agg (u8s nonce).toArray, .slice ao n c, .slice bo m d] w fun e w' => ∃ v, e = .returned (.tuple #[v, .int .i64 0]) ∧ w'.ownsRow w.heap.size 5 1 v (m + 16) ((boxL key nonce ms zs).map (Value.int .u8)) ∧ Below w.heap.size w w' := by
 have HX : Hid (Seen w ao n ms ∧ Seen w bo m zs ∧ n ≤ c ∧ m ≤ d) := ⟨hx, hy, hc, hd⟩
 have HS : Hid (key.length = 32 ∧ nonce.length = 12 ∧ Bytes key ∧ Bytes nonce) := ⟨hk, hno, hkb, hnb⟩
 obtain ⟨V, hV⟩ : ∃ C, coverL key nonce zs = C := ⟨_, rfl⟩
 obtain ⟨CL, hCL⟩ : ∃ C, codeL key nonce ms V = C := ⟨_, rfl⟩
 have HV : Hid (coverL key nonce zs = V ∧ V.length = m ∧ Bytes V ∧ codeL key nonce ms V = CL ∧ CL.length = 16 ∧ Bytes CL ∧ boxL key nonce ms zs = V ++ CL) :=
  ⟨hV, by rw [← hV, coverL_length, hy.len], by rw [← hV]; exact coverL_bytes _ _ hy.bytes, hCL, by rw [← hCL, codeL_length], by rw [← hCL]; exact codeL_bytes _ _ _ _, by rw [boxL, hV, hCL]⟩
 clear hx hy hk hno hkb hnb hc hd hV hCL
 have i1 : ¬ (1048576 : Int) < (n : Int) := by omega
 have i2 : ¬ (1048576 : Int) < (m : Int) := by omega
 go_enter Tryz.func122, Tryz.ntmps122
 go_wp2_with (first | (refine wpList_box_new rfl 30 _ rfl (u8s key) rfl ?_; intro w1 b1 s1 l1) | (refine wpList_box_new rfl 95 _ rfl (u8s nonce) rfl ?_; intro w2 b2 s2 l2) | (refine wpList_load_blk rfl 30 _ rfl _ rfl (u8s key) _ (by first | exact b1.later l2 (by omega)) Tryz.underlying30 rfl (by rw [u8s_length, HS.out.1]; exact sizeKey) ?_) | (refine wpList_load_blk rfl 95 _ rfl _ rfl (u8s nonce) _ (by first | exact b2 | (rw [← s1]; exact b2)) Tryz.underlying95 rfl (by rw [u8s_length, HS.out.2.1]; exact sizeNonce) ?_))
 refine (laidOver_any key nonce m d bo zs HS.out.1 HS.out.2.1 HS.out.2.2.1 HS.out.2.2.2 (by omega) _ (HX.out.2.1.later (below_chain l1 l2 (by omega)) (Nat.le_refl _))).mono ?_
 rintro e w3 ⟨v, rfl, o3, l3⟩
 have q3 := l3.size
 rw [HV.out.1] at o3
 have o3' := o3
 rw [← HV.out.2.1] at o3'
 obtain ⟨vo, cap, rfl, d3, hc3, _⟩ := own_data HV.out.2.2.1 (by rw [HV.out.2.1]; omega) o3'
 rw [HV.out.2.1] at d3 hc3 o3 ⊢
 have H3 : Hid (Blk w3 w.heap.size 30 (u8s key) ∧ Blk w3 w1.heap.size 95 (u8s nonce) ∧ Below w.heap.size w w3 ∧ Seen w3 vo m V ∧ m ≤ cap ∧ Seen w3 ao n ms ∧ w3.ownsRow w2.heap.size 5 1 (.slice vo m cap) m (V.map (Value.int .u8)) ∧ w.heap.size ≤ w2.heap.size ∧ w2.heap.size ≤ w3.heap.size) := by
  have L3 := below_chain (below_chain l1 l2 (by omega)) l3 (by omega)
  exact ⟨(b1.later l2 (by omega)).later l3 (by omega), b2.later l3 (by omega), L3, d3, hc3, HX.out.1.later L3 (Nat.le_refl _), o3, by omega, q3⟩
 clear o3 o3' d3 hc3 l3 b1 l1 b2 s2 l2 q3
 go_wp2_with (first | (refine wpList_load_blk rfl 30 _ rfl _ rfl (u8s key) _ H3.out.1 Tryz.underlying30 rfl (by rw [u8s_length, HS.out.1]; exact sizeKey) ?_) | (refine wpList_load_blk rfl 95 _ rfl _ rfl (u8s nonce) _ (by first | exact H3.out.2.1 | (rw [← s1]; exact H3.out.2.1)) Tryz.underlying95 rfl (by rw [u8s_length, HS.out.2.1]; exact sizeNonce) ?_))
 refine (codeOf_any key nonce n c m cap ao vo ms V HS.out.1 HS.out.2.1 HS.out.2.2.1 HS.out.2.2.2 _ H3.out.2.2.2.2.2.1 H3.out.2.2.2.1 HX.out.2.2.1 H3.out.2.2.2.2.1).mono ?_
 rintro e w4 ⟨rfl, l4⟩
 rw [HV.out.2.2.2.1]
 have q4 := l4.size
 go_wp2_with (first | (refine wpList_alloc_new rfl 197 rfl 16 _ zeroTag ?_; intro w5 b5 s5 l5) | (refine wpList_store_blk rfl 197 197 _ _ rfl _ rfl _ (u8s CL) rfl b5 (by rw [u8s_length, HV.out.2.2.2.2.1]; rfl) (by rw [u8s_length, HV.out.2.2.2.2.1]; exact sizeTag) (u8s_one _) ?_; intro w6 b6 s6 k6; have H6 : Hid (w6.ownsRow w2.heap.size 5 1 (.slice vo m cap) m (V.map (Value.int .u8)) ∧ Seen w6 (some ⟨w4.heap.size, 0, none⟩) 16 CL ∧ Below w.heap.size w w6 ∧ w2.heap.size ≤ w6.heap.size) := (by have L6 := below_kept (below_chain l4 l5 (by omega)) k6 (by omega) (fun j hj => by omega); have q := seen_blk b6 HV.out.2.2.2.2.2.1 (by rw [HV.out.2.2.2.2.1]; decide); rw [HV.out.2.2.2.2.1] at q; exact ⟨ownsRow_below H3.out.2.2.2.2.2.2.1 L6, q, below_chain H3.out.2.2.1 L6 H3.out.2.2.1.size, (by have := H3.out.2.2.2.2.2.2.2.2; omega)⟩)) | (at_builtin; refine wpList_append_seen rfl _ _ rfl w2.heap.size (.slice vo m cap) m _ rfl H6.out.1 (some ⟨w4.heap.size, 0, none⟩) 16 16 CL rfl H6.out.2.1 (fun h => by cases h) (by omega) H6.out.2.2.2 ?_; intro v7 w7 o7 g7))
 go_ret2
 refine ⟨_, rfl, ?_, ?_⟩
 ·rw [HV.out.2.2.2.2.2.2, List.map_append]; exact ownsRow_base o7 H3.out.2.2.2.2.2.2.2.1
 ·exact H6.out.2.2.1.grown g7 H6.out.2.2.1.size (fun j hj => Nat.le_trans H3.out.2.2.2.2.2.2.2.1 (H6.out.1.lt j hj).1)
theorem seal_bad (key nonce : List Int) (n c m d : Nat) (ao bo : Option Addr) (hn : n ≤ 140737488355328) (hm : m ≤ 140737488355328) (hb : 1048576 < n ∨ 1048576 < m) (w : World) :
  Calls Tryz.prog 122 #[.agg (u8s key).toArray, .agg (u8s nonce).toArray, .slice ao n c, .slice bo m d] w fun e w' => e = .returned (.tuple #[.slice none 0 0, .int .i64 3]) ∧ Below w.heap.size w w' := by
 by_cases h1 : 1048576 < n
 ·have i1 : (1048576 : Int) < (n : Int) := by omega
  go_enter Tryz.func122, Tryz.ntmps122
  go_wp2_with (first | (refine wpList_box_new rfl 30 _ rfl (u8s key) rfl ?_; intro w1 b1 s1 l1) | (refine wpList_box_new rfl 95 _ rfl (u8s nonce) rfl ?_; intro w2 b2 s2 l2))
  go_ret2
  exact ⟨rfl, below_chain l1 l2 (by omega)⟩
 ·have i1 : ¬ (1048576 : Int) < (n : Int) := by omega
  have i2 : (1048576 : Int) < (m : Int) := by omega
  go_enter Tryz.func122, Tryz.ntmps122
  go_wp2_with (first | (refine wpList_box_new rfl 30 _ rfl (u8s key) rfl ?_; intro w1 b1 s1 l1) | (refine wpList_box_new rfl 95 _ rfl (u8s nonce) rfl ?_; intro w2 b2 s2 l2))
  go_ret2
  exact ⟨rfl, below_chain l1 l2 (by omega)⟩
def boxE (n m : Nat) : Int := if m < 16 then 4 else if 1048576 < n ∨ 1048592 < m then 3 else 0
theorem checkBox_any (ao bo : Option Addr) (n c m d : Nat) (hn : n ≤ 140737488355328) (hm : m ≤ 140737488355328) (w : World) :
  Calls Tryz.prog 127 #[.slice ao n c, .slice bo m d] w fun e w' => e = .returned (.int .i64 (boxE n m)) ∧ w = w' := by
 unfold boxE
 by_cases h1 : m < 16
 ·rw [if_pos h1]
  have i1 : (m : Int) < 16 := by omega
  go_enter Tryz.func127, Tryz.ntmps127
  go_wp2
  go_ret
  exact ⟨rfl, rfl⟩
 ·rw [if_neg h1]
  have i1 : ¬ (m : Int) < 16 := by omega
  by_cases h2 : 1048576 < n
  ·rw [if_pos (.inl h2)]
   have i2 : (1048576 : Int) < (n : Int) := by omega
   go_enter Tryz.func127, Tryz.ntmps127
   go_wp2
   go_ret
   exact ⟨rfl, rfl⟩
  ·have i2 : ¬ (1048576 : Int) < (n : Int) := by omega
   by_cases h3 : 1048592 < m
   ·rw [if_pos (.inr h3)]
    have i3 : (1048592 : Int) < (m : Int) := by omega
    go_enter Tryz.func127, Tryz.ntmps127
    go_wp2
    go_ret
    exact ⟨rfl, rfl⟩
   ·rw [if_neg (by omega)]
    have i3 : ¬ (1048592 : Int) < (m : Int) := by omega
    go_enter Tryz.func127, Tryz.ntmps127
    go_wp2
    go_ret
    exact ⟨rfl, rfl⟩
theorem zero_any (x : Int) (hx : Word x) (w : World) :
  Calls Tryz.prog 81 #[.int .u64 x] w fun e w' => e = .returned (.int .u64 (mk (x == 0))) ∧ w' = w := by
 have hb : Word (bits .or .u64 x (IntKind.u64.wrap (-x)) / 9223372036854775808) := by rw [top_code x hx]; split <;> decide
 have H : Hid (bits .xor .u64 IntKind.u64.max (mk (bits .or .u64 x (IntKind.u64.wrap (-x)) / 9223372036854775808 % 2 == 1)) = mk (x == 0)) := by
  show _ = _
  rw [not_mk, top_code x hx]
  by_cases h : x = 0
  ·simp [h]
  ·have h' : (x == 0) = false := by simpa using h
   simp [h, h']
 go_enter Tryz.func81, Tryz.ntmps81
 go_wp2_with (go_at_call 57; refine (bit_any _ hb _).mono ?_; rintro e w' ⟨rfl, rfl⟩)
 go_ret
 exact ⟨ret_int H.out, rfl⟩
theorem msame_any (ao bo : Option Addr) (n n' c c' : Nat) (xs ys : List Int) (w : World) (hx : Seen w ao n xs) (hy : Seen w bo n' ys) :
  Calls Tryz.prog 138 #[.slice ao n c, .slice bo n' c'] w fun e w' => e = .returned (.int .u64 (mk (decide (xs = ys)))) ∧ ∃ q, w' = w.drewN q := by
 have t1 := hx.top
 have t2 := hy.top
 by_cases hne : n = n'
 ·subst hne
  have HL : Hid (xs.length = n ∧ ys.length = n) := ⟨hx.len, hy.len⟩
  go_enter Tryz.func138, Tryz.ntmps138
  go_wp2
  go_loopw [5, 14] (fun u i wr => ∃ (k : Nat) (U : Int), k ≤ n ∧ i = .int .i64 k ∧ u = .int .u8 U ∧ (0 ≤ U ∧ U < 256) ∧ (U = 0 ↔ xs.take k = ys.take k) ∧ ∃ q, wr = w.drewN q) (fun _ i _ => n - (intOf i).toNat)
  case atStart => exact ⟨0, 0, Nat.zero_le _, rfl, rfl, by decide, by simp, 0, rfl⟩
  case round =>
   obtain ⟨k, U, hk, rfl, rfl, bU, hs, q, rfl⟩ := hrel
   by_cases hlt : k < n
   ·obtain ⟨b, o, rfl, hb, hc⟩ := hx.cells (by omega)
    obtain ⟨b', o', rfl, hb', hc'⟩ := hy.cells (by omega)
    have c1 := hc k hlt
    have c2 := hc' k hlt
    have l1 : k < xs.length := by have := HL.out.1; omega
    have l2 : k < ys.length := by have := HL.out.2; omega
    have HT := mtake_same_succ xs ys k l1 l2
    have bX := hx.bytes.at k l1
    have bY := hy.bytes.at k l2
    obtain ⟨X, hX⟩ : ∃ X, xs.getD k 0 = X := ⟨_, rfl⟩
    obtain ⟨Y, hY⟩ : ∃ Y, ys.getD k 0 = Y := ⟨_, rfl⟩
    rw [hX] at c1 HT bX
    rw [hY] at c2 HT bY
    have hO := orxor_bd U X Y bU bX bY
    have HO : Hid _ := hO.1
    have HI : Hid (bits .or .u8 U (bits .xor .u8 X Y) = 0 ↔ xs.take (k + 1) = ys.take (k + 1)) := by
     show _ ↔ _
     rw [hO.2, hs, HT]
    have i1 : (0 : Int) ≤ (k : Int) := by omega
    have i2 : (k : Int) < (n : Int) := by omega
    clear hX hY hc hc' hx hy hs HT hb hb' hO l1 l2
    go_wp2
    go_quiet (fail)
    go_wp2
    go_roundw
    case rel => exact ⟨k + 1, _, by omega, by go_num, rfl, HO.out, HI.out, _, rfl⟩
    case measure => simp [intOf]; omega
   ·have HE : Hid ((U == 0) = decide (xs = ys)) := by
     show _ = _
     have e1 : xs.take k = xs := List.take_of_length_le (by have := HL.out.1; omega)
     have e2 : ys.take k = ys := List.take_of_length_le (by have := HL.out.2; omega)
     rw [e1, e2] at hs
     rw [Bool.eq_iff_iff]; simp [hs]
    have wU : Word U := ⟨by omega, by omega⟩
    clear hs
    go_wp2_with (go_at_call 81; refine (zero_any _ wU _).mono ?_; rintro e w2 ⟨rfl, hw2⟩; have hw3 := hw2.symm; subst hw3)
    go_ret
    exact ⟨ret_int (by rw [HE.out]), _, rfl⟩
 ·have h : ((n : Int) != (n' : Int)) = true := by simp; omega
  have HN : Hid (decide (xs = ys) = false) := by
   show _ = _
   apply decide_eq_false
   intro h
   exact hne (by rw [← hx.len, ← hy.len, h])
  go_enter Tryz.func138, Tryz.ntmps138
  go_wp2
  go_ret
  exact ⟨ret_int (by rw [HN.out, mk_false]), 0, rfl⟩
theorem ch8_any (m x y : Int) (hm : Word m) (hx : 0 ≤ x ∧ x < 256) (hy : 0 ≤ y ∧ y < 256) (w : World) :
  Calls Tryz.prog 108 #[.int .u64 m, .int .u8 x, .int .u8 y] w fun e w' => e = .returned (.int .u8 (pk m x y)) ∧ w' = w := by
 have H : Hid (bits .xor .u8 y (bits .and .u8 (bits .xor .u8 x y) (m % 256)) = pk m x y) := choose_u8 m x y hm hx hy
 go_enter Tryz.func108, Tryz.ntmps108
 go_wp2
 go_ret
 exact ⟨ret_int H.out, rfl⟩
def mix (m : Int) (k : Nat) (xs ys : List Int) : List Int := xs.mapIdx fun i x => if i < k then pk m (ys.getD i 0) x else x
theorem mix_length (m : Int) (k : Nat) (xs ys : List Int) : (mix m k xs ys).length = xs.length := by simp [mix]
theorem mix_getD (m : Int) (k : Nat) (xs ys : List Int) (i : Nat) (hi : i < xs.length) : (mix m k xs ys).getD i 0 = if i < k then pk m (ys.getD i 0) (xs.getD i 0) else xs.getD i 0 := by
 simp [mix, List.getD, hi]
theorem mix_zero (m : Int) (xs ys : List Int) : mix m 0 xs ys = xs := by
 apply List.ext_getElem?
 intro i
 simp [mix]
theorem mix_succ (m : Int) (k : Nat) (xs ys : List Int) (hk : k < xs.length) : mix m (k + 1) xs ys = (mix m k xs ys).set k (pk m (ys.getD k 0) (xs.getD k 0)) := by
 apply List.ext_getElem?
 intro i
 rw [List.getElem?_set]
 by_cases h : k = i
 ·subst h; simp [mix, hk, List.getD]
 ·simp only [if_neg h]
  simp only [mix, List.getElem?_mapIdx]
  have : (i < k + 1) ↔ (i < k) := by omega
  simp [this]
theorem mix_no (n : Nat) (xs ys : List Int) (hx : Bytes xs) : mix 0 n xs ys = xs := by
 apply List.ext_getElem
 ·simp [mix]
 ·intro i h1 h2
  have b := hx.at i h2
  have e : xs.getD i 0 = xs[i] := by simp [List.getD, h2]
  rw [e] at b
  simp only [mix, List.getElem_mapIdx]
  split
  ·exact pk_zero _ _ b.1
  ·rfl
theorem mix_yes (xs ys : List Int) (hx : Bytes xs) (hy : Bytes ys) (hl : ys.length = xs.length) : mix 18446744073709551615 xs.length xs ys = ys := by
 apply List.ext_getElem
 ·simp [mix, hl]
 ·intro i h1 h2
  have h3 : i < xs.length := by omega
  have b := hx.at i h3
  have c := hy.at i h2
  have e : xs.getD i 0 = xs[i] := by simp [List.getD, h3]
  have e2 : ys.getD i 0 = ys[i] := by simp [List.getD, h2]
  rw [e] at b
  rw [e2] at c
  simp only [mix, List.getElem_mapIdx, if_pos h3, e2]
  exact pk_ones _ _ ⟨by omega, by omega⟩ ⟨by omega, by omega⟩
def isO (base n : Nat) (zs : List Int) (v : Value) (w : World) : Prop := w.ownsRow base 5 1 v n (zs.map (Value.int .u8))
theorem isO_later (base n : Nat) (zs : List Int) : ∀ v w w', Below w.heap.size w w' → isO base n zs v w → isO base n zs v w' := fun _ _ _ hb h => ownsRow_below h hb
theorem Blk.all {w : World} {g : Nat} {t : TypeId} {vs : List Value} (h : Blk w g t vs) : w.rangeAt g 0 vs := fun j v hv => by rw [Nat.zero_add, h.cell]; exact hv
theorem uncovered_any (key nonce : List Int) (n c m d : Nat) (ao bo : Option Addr) (ms zs : List Int) (hk : key.length = 32) (hno : nonce.length = 12) (hkb : Bytes key) (hnb : Bytes nonce) (h16 : 16 ≤ m) (hm : m ≤ 1048592) (w : World) (hx : Seen w ao n ms) (hy : Seen w bo m zs) (hc : n ≤ c) (hd : m ≤ d) :
  Calls Tryz.prog 128 #[.agg (u8s key).toArray, .agg (u8s nonce).toArray, .slice ao n c, .slice bo m d] w fun e w' => ∃ v, e = .returned (.tuple #[v, .int .u64 (mk (opensL key nonce ms zs))]) ∧ isO w.heap.size (m - 16) (textL key nonce zs) v w' ∧ Below w.heap.size w w' := by
 obtain ⟨M, rfl⟩ : ∃ M, m = M + 16 := ⟨m - 16, by omega⟩
 have hM : M ≤ 1048576 := by omega
 obtain ⟨CL, hCL⟩ : ∃ C, codeL key nonce ms (zs.take M) = C := ⟨_, rfl⟩
 obtain ⟨O, hO⟩ : ∃ b, opensL key nonce ms zs = b := ⟨_, rfl⟩
 obtain ⟨X, hX⟩ : ∃ X, textL key nonce zs = X := ⟨_, rfl⟩
 rw [hO, hX, Nat.add_sub_cancel]
 have hl := hy.len
 have SX : Hid (∀ W, Below w.heap.size w W → Seen W ao n ms ∧ Seen W (subA bo 0 d) M (zs.take M) ∧ Seen W (subA bo M d) 16 (zs.drop M)) := fun W hW => by
  have g1 := hy.sub 0 M d (Nat.zero_le _) (by omega) hd
  have g2 := hy.sub M (M + 16) d (by omega) (Nat.le_refl _) hd
  rw [Nat.sub_zero, List.drop_zero] at g1
  rw [Nat.add_sub_cancel_left, List.take_of_length_le (by rw [List.length_drop, hl]; omega)] at g2
  exact ⟨hx.later hW (Nat.le_refl _), g1.later hW (Nat.le_refl _), g2.later hW (Nat.le_refl _)⟩
 have HS : Hid (key.length = 32 ∧ nonce.length = 12 ∧ Bytes key ∧ Bytes nonce ∧ n ≤ c ∧ M ≤ d) := ⟨hk, hno, hkb, hnb, hc, by omega⟩
 have HV : Hid (codeL key nonce ms (zs.take M) = CL ∧ CL.length = 16 ∧ Bytes CL ∧ decide (CL = zs.drop M) = O ∧ coverL key nonce (zs.take M) = X) := by
  have e : zs.length - 16 = M := by rw [hl]; omega
  refine ⟨hCL, by rw [← hCL, codeL_length], by rw [← hCL]; exact codeL_bytes _ _ _ _, ?_, ?_⟩
  ·rw [← hO, opensL, e, hCL]
  ·rw [← hX, textL, e]
 have hsh : ∀ W, (Instr.sliceAt 37 (.slice bo (M + 16) d) none (some (.int .i64 (M : Int))) none).run Tryz.prog W = .ok (.slice (subA bo 0 d) M d) W := fun W => sl_h bo (M + 16) d M (by omega) W
 have hsl : ∀ W, (Instr.sliceAt 37 (.slice bo (M + 16) d) (some (.int .i64 (M : Int))) none none).run Tryz.prog W = .ok (.slice (subA bo M d) 16 (d - M)) W := fun W => by
  have := sl_l bo (M + 16) d M (by omega) W
  rwa [Nat.add_sub_cancel_left] at this
 have a1 : ((M + 16 : Nat) : Int) - 16 = (M : Int) := by omega
 have a2 : (M : Int) + 16 - 16 = (M : Int) := by omega
 have HD : Hid (M + 16 ≤ d) := hd
 clear hx hy hk hno hkb hnb hc hd hCL hO hX hl
 go_enter Tryz.func128, Tryz.ntmps128
 go_wp2_with (first | (refine wpList_box_new rfl 30 _ rfl (u8s key) rfl ?_; intro w1 b1 s1 l1) | (refine wpList_box_new rfl 95 _ rfl (u8s nonce) rfl ?_; intro w2 b2 s2 l2))
 have H2 : Hid (Blk w2 w.heap.size 30 (u8s key) ∧ Blk w2 (w.heap.size + 1) 95 (u8s nonce) ∧ Below w.heap.size w w2) := by
  rw [s1] at b2
  exact ⟨b1.later l2 (by omega), b2, below_chain l1 l2 (by omega)⟩
 clear b1 s1 l1 b2 s2 l2
 try simp only [Act.put, sqA, sqB, sqC]
 refine region_inv [.val (.agg (u8s key).toArray), .val (.agg (u8s nonce).toArray), .val (.slice ao n c), .val (.slice bo (M + 16) d), .val (.int .i64 (M : Int)), .val (.slice (subA bo 0 d) M d), .val (.agg (u8s CL).toArray), .blk 197 (u8s (zs0 16))] (by kernel_rfl) (by kernel_rfl) (by kernel_rfl) ?_ ?_
 ·refine Steps'.cons ?_ (Steps'.cons ?_ (Steps'.cons ?_ (Steps'.cons ?_ (Steps'.cons ?_ (Steps'.cons ?_ (Steps'.cons ?_ (Steps'.cons ?_ (Steps'.one _ _ _ _ _ _ _))))))))
  ·intro ax wx hb hs hd
   have h4 : ax.tmps.getD 4 undef = (.pointer (some ⟨w.heap.size, 0, none⟩)) := hs 4 (by kernel_rfl)
   exact Does.load 30 (.tmp 4) rfl w.heap.size 0 h4 (u8s key) _ ((H2.out.1.later hb H2.out.1.lt).all) Tryz.underlying30 rfl (by rw [u8s_length, HS.out.1]; exact sizeKey)
  ·intro ax wx hb hs hd
   have h5 : ax.tmps.getD 5 undef = (.pointer (some ⟨(w.heap.size + 1), 0, none⟩)) := hs 5 (by kernel_rfl)
   exact Does.load 95 (.tmp 5) rfl (w.heap.size + 1) 0 h5 (u8s nonce) _ ((H2.out.2.1.later hb H2.out.2.1.lt).all) Tryz.underlying95 rfl (by rw [u8s_length, HS.out.2.1]; exact sizeNonce)
  ·intro ax wx hb hs hd
   have h2 : ax.tmps.getD 2 undef = (.slice ao n c) := hs 2 (by kernel_rfl)
   refine Does.value (.slice ao n c) ?_ rfl
   go_simp
  ·intro ax wx hb hs hd
   have h3 : ax.tmps.getD 3 undef = (.slice bo (M + 16) d) := hs 3 (by kernel_rfl)
   refine Does.value (.slice bo (M + 16) d) ?_ rfl
   go_simp
  ·intro ax wx hb hs hd
   have h10 : ax.tmps.getD 10 undef = (.int .i64 (M : Int)) := hs 10 (by kernel_rfl)
   refine Does.value (.int .i64 (M : Int)) ?_ rfl
   go_simp
  ·intro ax wx hb hs hd
   have h18 := sqV (hd 3 18 rfl (by kernel_rfl) (by decide))
   have h19 := sqV (hd 4 19 rfl (by kernel_rfl) (by decide))
   refine Does.value (.slice (subA bo 0 d) M d) ?_ rfl
   go_simp
  ·intro ax wx hb hs hd
   have h15 := sqV (hd 0 15 rfl (by kernel_rfl) (by decide))
   have h16 := sqV (hd 1 16 rfl (by kernel_rfl) (by decide))
   have h17 := sqV (hd 2 17 rfl (by kernel_rfl) (by decide))
   have h20 := sqV (hd 5 20 rfl (by kernel_rfl) (by decide))
   refine Does.call 133 #[(.agg (u8s key).toArray), (.agg (u8s nonce).toArray), (.slice ao n c), (.slice (subA bo 0 d) M d)] (by go_simp) ?_
   have L := below_chain H2.out.2.2 hb H2.out.2.2.size
   have q := codeOf_any key nonce n c M d ao (subA bo 0 d) ms _ HS.out.1 HS.out.2.1 HS.out.2.2.1 HS.out.2.2.2.1 wx (SX.out wx L).1 (SX.out wx L).2.1 HS.out.2.2.2.2.1 HS.out.2.2.2.2.2
   rw [HV.out.1] at q
   refine q.mono ?_
   rintro e w' ⟨rfl, l⟩
   exact ⟨_, rfl, rfl, l⟩
  ·intro ax wx hb hs hd
   exact Does.alloc 197 rfl 16 _ zeroTag hb.size
 ·intro wx hb
  iterate 7 refine @Ends.val _ _ _ _ _ _ _ _ _ _ rfl ?_
  refine @Ends.blk _ _ _ _ _ _ _ _ _ 197 (u8s (zs0 16)) rfl ?_
  intro g7 hg7 bg7
  refine @Ends.one _ _ _ _ _ _ _ ?_
  simp only [Act.put, sqA, sqB, sqC]
  refine last_store 197 (.tmp 11) (.tmp 21) rfl rfl g7 rfl 197 _ (u8s CL) rfl bg7 (by rw [u8s_length, HV.out.2.1]; rfl) (by rw [u8s_length, HV.out.2.1]; exact sizeTag) (u8s_one _) ?_
  intro w3 b3 s3 k3
  have H3 : Hid (Blk w3 w.heap.size 30 (u8s key) ∧ Blk w3 (w.heap.size + 1) 95 (u8s nonce) ∧ Below w.heap.size w w3 ∧ Blk w3 g7 197 (u8s CL)) := by
   have L := below_kept hb k3 hb.size (fun j hj => by omega)
   exact ⟨H2.out.1.later L H2.out.1.lt, H2.out.2.1.later L H2.out.2.1.lt, below_chain H2.out.2.2 L H2.out.2.2.size, b3⟩
  clear hb hg7 bg7 b3 s3 k3 H2
  go_wp2_with fail
  try simp only [Act.put, sqA, sqB, sqC]
  refine region_inv [.val (.agg (u8s key).toArray), .val (.agg (u8s nonce).toArray), .val (.slice bo (M + 16) d), .val (.int .i64 (M : Int)), .val (.slice (subA bo 0 d) M d), .any (isO w.heap.size M X) (isO_later _ _ _), .val (.slice (some ⟨g7, 0, none⟩) 16 16), .val (.slice bo (M + 16) d), .val (.int .i64 (M : Int)), .val (.slice (subA bo M d) 16 (d - M)), .val (.int .u64 (mk O)), .any (isO w.heap.size M X) (isO_later _ _ _)] (by kernel_rfl) (by kernel_rfl) (by kernel_rfl) ?_ ?_
  ·refine Steps'.cons ?_ (Steps'.cons ?_ (Steps'.cons ?_ (Steps'.cons ?_ (Steps'.cons ?_ (Steps'.cons ?_ (Steps'.cons ?_ (Steps'.cons ?_ (Steps'.cons ?_ (Steps'.cons ?_ (Steps'.cons ?_ (Steps'.cons ?_ (Steps'.one _ _ _ _ _ _ _))))))))))))
   ·intro ax wx hb hs hd
    have h4 : ax.tmps.getD 4 undef = (.pointer (some ⟨w.heap.size, 0, none⟩)) := hs 4 (by kernel_rfl)
    exact Does.load 30 (.tmp 4) rfl w.heap.size 0 h4 (u8s key) _ ((H3.out.1.later hb H3.out.1.lt).all) Tryz.underlying30 rfl (by rw [u8s_length, HS.out.1]; exact sizeKey)
   ·intro ax wx hb hs hd
    have h5 : ax.tmps.getD 5 undef = (.pointer (some ⟨(w.heap.size + 1), 0, none⟩)) := hs 5 (by kernel_rfl)
    exact Does.load 95 (.tmp 5) rfl (w.heap.size + 1) 0 h5 (u8s nonce) _ ((H3.out.2.1.later hb H3.out.2.1.lt).all) Tryz.underlying95 rfl (by rw [u8s_length, HS.out.2.1]; exact sizeNonce)
   ·intro ax wx hb hs hd
    have h3 : ax.tmps.getD 3 undef = (.slice bo (M + 16) d) := hs 3 (by kernel_rfl)
    refine Does.value (.slice bo (M + 16) d) ?_ rfl
    go_simp
   ·intro ax wx hb hs hd
    have h10 : ax.tmps.getD 10 undef = (.int .i64 (M : Int)) := hs 10 (by kernel_rfl)
    refine Does.value (.int .i64 (M : Int)) ?_ rfl
    go_simp
   ·intro ax wx hb hs hd
    have h24 := sqV (hd 2 24 rfl (by kernel_rfl) (by decide))
    have h25 := sqV (hd 3 25 rfl (by kernel_rfl) (by decide))
    refine Does.value (.slice (subA bo 0 d) M d) ?_ rfl
    go_simp
   ·intro ax wx hb hs hd
    have h22 := sqV (hd 0 22 rfl (by kernel_rfl) (by decide))
    have h23 := sqV (hd 1 23 rfl (by kernel_rfl) (by decide))
    have h26 := sqV (hd 4 26 rfl (by kernel_rfl) (by decide))
    refine Does.call 132 #[(.agg (u8s key).toArray), (.agg (u8s nonce).toArray), (.slice (subA bo 0 d) M d)] (by go_simp) ?_
    have L := below_chain H3.out.2.2.1 hb H3.out.2.2.1.size
    have q := laidOver_any key nonce M d (subA bo 0 d) _ HS.out.1 HS.out.2.1 HS.out.2.2.1 HS.out.2.2.2.1 (by omega) wx (SX.out wx L).2.1
    rw [HV.out.2.2.2.2] at q
    refine q.mono ?_
    rintro e w' ⟨v, rfl, o, l⟩
    exact ⟨_, rfl, ownsRow_base o L.size, l⟩
   ·intro ax wx hb hs hd
    have h11 : ax.tmps.getD 11 undef = (.pointer (some ⟨g7, 0, none⟩)) := hs 11 (by kernel_rfl)
    refine Does.value (.slice (some ⟨g7, 0, none⟩) 16 16) ?_ rfl
    go_simp
   ·intro ax wx hb hs hd
    have h3 : ax.tmps.getD 3 undef = (.slice bo (M + 16) d) := hs 3 (by kernel_rfl)
    refine Does.value (.slice bo (M + 16) d) ?_ rfl
    go_simp
   ·intro ax wx hb hs hd
    have h10 : ax.tmps.getD 10 undef = (.int .i64 (M : Int)) := hs 10 (by kernel_rfl)
    refine Does.value (.int .i64 (M : Int)) ?_ rfl
    go_simp
   ·intro ax wx hb hs hd
    have h29 := sqV (hd 7 29 rfl (by kernel_rfl) (by decide))
    have h30 := sqV (hd 8 30 rfl (by kernel_rfl) (by decide))
    refine Does.value (.slice (subA bo M d) 16 (d - M)) ?_ rfl
    go_simp
   ·intro ax wx hb hs hd
    have h28 := sqV (hd 6 28 rfl (by kernel_rfl) (by decide))
    have h31 := sqV (hd 9 31 rfl (by kernel_rfl) (by decide))
    refine Does.call 138 #[(.slice (some ⟨g7, 0, none⟩) 16 16), (.slice (subA bo M d) 16 (d - M))] (by go_simp) ?_
    have L := below_chain H3.out.2.2.1 hb H3.out.2.2.1.size
    have s1 := seen_blk (Blk.later H3.out.2.2.2 hb H3.out.2.2.2.lt) HV.out.2.2.1 (by rw [HV.out.2.1]; decide)
    rw [HV.out.2.1] at s1
    have q := msame_any _ _ 16 16 16 (d - M) CL _ wx s1 (SX.out wx L).2.2
    rw [HV.out.2.2.2.1] at q
    refine q.mono ?_
    rintro e w' ⟨rfl, q, rfl⟩
    exact ⟨_, rfl, rfl, below_dn (Below.refl _ _) q⟩
   ·intro ax wx hb hs hd
    have h27 : isO w.heap.size M X (ax.tmps.getD 27 undef) wx := hd 5 27 rfl (by kernel_rfl) (by decide)
    exact Does.value (ax.tmps.getD 27 undef) rfl h27
  ·intro wx hb
   iterate 5 refine @Ends.val _ _ _ _ _ _ _ _ _ _ rfl ?_
   refine @Ends.any _ _ _ _ _ _ _ _ _ (isO w.heap.size M X) (isO_later _ _ _) rfl ?_
   intro v5 p5
   iterate 5 refine @Ends.val _ _ _ _ _ _ _ _ _ _ rfl ?_
   refine @Ends.any _ _ _ _ _ _ _ _ _ (isO w.heap.size M X) (isO_later _ _ _) rfl ?_
   intro v11 p11
   refine @Ends.one _ _ _ _ _ _ _ ?_
   simp only [Act.put, sqA, sqB, sqC]
   refine last_assign (.tmp 32) rfl (some 9) rfl _ rfl ?_
   simp only [Act.put, sqA, sqB, sqC]
   have HE : Hid (isO w.heap.size M X v11 wx ∧ Below w.heap.size w wx) := ⟨p11, below_chain H3.out.2.2.1 hb H3.out.2.2.1.size⟩
   clear hb p11 p5
   go_wp2_with fail
   go_ret2
   exact ⟨_, rfl, HE.out⟩
theorem boxE_ok {n m : Nat} (h16 : 16 ≤ m) (hm : m ≤ 1048592) (hn : n ≤ 1048576) : boxE n m = 0 := by
 unfold boxE
 rw [if_neg (by omega), if_neg (by omega)]
theorem clear_own {B n : Nat} {zs : List Int} {v : Value} {W : World} (h : isO B n zs v W) (hl : zs.length = n) : ∃ W', (∀ ty, (Builtin.clear_ #[37] ty #[v]).run Tryz.prog W = .ok (.tuple #[]) W') ∧ Kept (fun k => B ≤ k) W W' := by
 rcases own_len hl h with ⟨rfl, rfl⟩ | ⟨g, cap, rfl, hr, hg, _, _⟩
 ·exact ⟨W, fun ty => by simp [Builtin.clear_, run_underlying Tryz.underlying37], Kept.refl _ _⟩
 ·rcases Nat.eq_zero_or_pos n with rfl | h0
  ·exact ⟨W, fun ty => by simp [Builtin.clear_, run_underlying Tryz.underlying37], Kept.refl _ _⟩
  ·refine ⟨_, fun ty => Lib.run_clear_slice W 37 5 ty (.int .u8 0) Tryz.underlying37 (zero_of_info infoByte).1 rfl rfl g 0 n cap h0 (fun j hj => ?_) (fun j hj => ?_), (Kept.refl _ _).setCells hg _ _⟩
   ·rw [Nat.zero_add, hr.cell j (by omega)]; rfl
   ·exact hr.frozen _
theorem open_no (key nonce : List Int) (n c m d : Nat) (ao bo : Option Addr) (ms zs : List Int) (hk : key.length = 32) (hno : nonce.length = 12) (hkb : Bytes key) (hnb : Bytes nonce) (h16 : 16 ≤ m) (hm : m ≤ 1048592) (hn : n ≤ 1048576) (w : World) (hx : Seen w ao n ms) (hy : Seen w bo m zs) (hc : n ≤ c) (hd : m ≤ d) (hO : opensL key nonce ms zs = false) :
  Calls Tryz.prog 118 #[.agg (u8s key).toArray, .agg (u8s nonce).toArray, .slice ao n c, .slice bo m d] w fun e w' => e = .returned (.tuple #[.slice none 0 0, .int .i64 70]) ∧ Below w.heap.size w w' := by
 have HX : Hid (Seen w ao n ms ∧ Seen w bo m zs ∧ n ≤ c ∧ m ≤ d) := ⟨hx, hy, hc, hd⟩
 have HS : Hid (key.length = 32 ∧ nonce.length = 12 ∧ Bytes key ∧ Bytes nonce) := ⟨hk, hno, hkb, hnb⟩
 have t1 := hx.top
 have t2 := hy.top
 have hE := boxE_ok h16 hm hn
 have HL : Hid ((textL key nonce zs).length = m - 16) := by show _ = _; rw [textL_length, hy.len]
 clear hx hy hk hno hkb hnb hc hd
 go_enter Tryz.func118, Tryz.ntmps118
 go_wp2_with (first | (refine wpList_box_new rfl 30 _ rfl (u8s key) rfl ?_; intro w1 b1 s1 l1) | (refine wpList_box_new rfl 95 _ rfl (u8s nonce) rfl ?_; intro w2 b2 s2 l2))
 refine wp_scope_jumps 0 (fun a' w' => ∃ (T : Value) (u0 u1 u2 u3 u4 u5 u6 u7 u8 u9 u11 u13 u14 u15 u16 u17 u18 u19 u20 u21 u22 u23 u24 u25 u26 u27 u28 u29 u30 : Value), a' = { tmps := #[u0, u1, u2, u3, u4, u5, u6, u7, u8, u9, T, u11, .int .i64 70, u13, u14, u15, u16, u17, u18, u19, u20, u21, u22, u23, u24, u25, u26, u27, u28, u29, u30], defers := [] } ∧ ∃ W, (∀ ty, (Builtin.clear_ #[37] ty #[T]).run Tryz.prog w' = .ok (.tuple #[]) W) ∧ Below w.heap.size w W) (fun _ _ => 0) rfl ?_ ?_
 ·go_wp2_with (first | (refine wpList_load_blk rfl 30 _ rfl _ rfl (u8s key) _ (by first | exact b1.later l2 (by omega)) Tryz.underlying30 rfl (by rw [u8s_length, HS.out.1]; exact sizeKey) ?_) | (refine wpList_load_blk rfl 95 _ rfl _ rfl (u8s nonce) _ (by first | exact b2 | (rw [← s1]; exact b2)) Tryz.underlying95 rfl (by rw [u8s_length, HS.out.2.1]; exact sizeNonce) ?_) | (go_at_call 127; refine (checkBox_any ao bo n c m d t1 t2 _).mono ?_; rintro e w' ⟨rfl, rfl⟩; rw [hE]) | (go_at_call 128; refine (uncovered_any key nonce n c m d ao bo ms zs HS.out.1 HS.out.2.1 HS.out.2.2.1 HS.out.2.2.2 h16 hm _ (HX.out.1.later (below_chain l1 l2 (by omega)) (Nat.le_refl _)) (HX.out.2.1.later (below_chain l1 l2 (by omega)) (Nat.le_refl _)) HX.out.2.2.1 HX.out.2.2.2).mono ?_; rintro e w3 ⟨v, rfl, o3, l3⟩; rw [hO]; have HO : Hid (isO w2.heap.size (m - 16) (textL key nonce zs) v w3 ∧ Below w.heap.size w w3 ∧ w.heap.size ≤ w2.heap.size) := ⟨o3, below_chain (below_chain l1 l2 (by omega)) l3 (by omega), by omega⟩; clear o3 l3))
  go_step3
  obtain ⟨W, hcl, hkp⟩ := clear_own HO.out.1 HL.out
  exact ⟨rfl, _, _, _, _, _, _, _, _, _, _, _, _, _, _, _, _, _, _, _, _, _, _, _, _, _, _, _, _, _, _, rfl, W, hcl, below_kept HO.out.2.1 hkp HO.out.2.1.size (fun j hj => by have := HO.out.2.2; omega)⟩
 ·rintro a' w' ⟨T, u0, u1, u2, u3, u4, u5, u6, u7, u8, u9, u11, u13, u14, u15, u16, u17, u18, u19, u20, u21, u22, u23, u24, u25, u26, u27, u28, u29, u30, rfl, W, hcl, hbel⟩
  go_wp2_with fail
  try simp only [Exit.jump]
  go_ret2
  exact ⟨rfl, hbel⟩
theorem open_yes (key nonce : List Int) (n c m d : Nat) (ao bo : Option Addr) (ms zs : List Int) (hk : key.length = 32) (hno : nonce.length = 12) (hkb : Bytes key) (hnb : Bytes nonce) (h16 : 16 ≤ m) (hm : m ≤ 1048592) (hn : n ≤ 1048576) (w : World) (hx : Seen w ao n ms) (hy : Seen w bo m zs) (hc : n ≤ c) (hd : m ≤ d) (hO : opensL key nonce ms zs = true) :
  Calls Tryz.prog 118 #[.agg (u8s key).toArray, .agg (u8s nonce).toArray, .slice ao n c, .slice bo m d] w fun e w' => ∃ v, e = .returned (.tuple #[v, .int .i64 0]) ∧ isO w.heap.size (m - 16) (textL key nonce zs) v w' ∧ Below w.heap.size w w' := by
 have HX : Hid (Seen w ao n ms ∧ Seen w bo m zs ∧ n ≤ c ∧ m ≤ d) := ⟨hx, hy, hc, hd⟩
 have HS : Hid (key.length = 32 ∧ nonce.length = 12 ∧ Bytes key ∧ Bytes nonce) := ⟨hk, hno, hkb, hnb⟩
 have t1 := hx.top
 have t2 := hy.top
 have hE := boxE_ok h16 hm hn
 have HL : Hid ((textL key nonce zs).length = m - 16) := by show _ = _; rw [textL_length, hy.len]
 clear hx hy hk hno hkb hnb hc hd
 go_enter Tryz.func118, Tryz.ntmps118
 go_wp2_with (first | (refine wpList_box_new rfl 30 _ rfl (u8s key) rfl ?_; intro w1 b1 s1 l1) | (refine wpList_box_new rfl 95 _ rfl (u8s nonce) rfl ?_; intro w2 b2 s2 l2))
 go_step3
 go_wp2_with (first | (refine wpList_load_blk rfl 30 _ rfl _ rfl (u8s key) _ (by first | exact b1.later l2 (by omega)) Tryz.underlying30 rfl (by rw [u8s_length, HS.out.1]; exact sizeKey) ?_) | (refine wpList_load_blk rfl 95 _ rfl _ rfl (u8s nonce) _ (by first | exact b2 | (rw [← s1]; exact b2)) Tryz.underlying95 rfl (by rw [u8s_length, HS.out.2.1]; exact sizeNonce) ?_) | (go_at_call 127; refine (checkBox_any ao bo n c m d t1 t2 _).mono ?_; rintro e w' ⟨rfl, rfl⟩; rw [hE]) | (go_at_call 128; refine (uncovered_any key nonce n c m d ao bo ms zs HS.out.1 HS.out.2.1 HS.out.2.2.1 HS.out.2.2.2 h16 hm _ (HX.out.1.later (below_chain l1 l2 (by omega)) (Nat.le_refl _)) (HX.out.2.1.later (below_chain l1 l2 (by omega)) (Nat.le_refl _)) HX.out.2.2.1 HX.out.2.2.2).mono ?_; rintro e w3 ⟨v, rfl, o3, l3⟩; rw [hO]; have HO : Hid (isO w2.heap.size (m - 16) (textL key nonce zs) v w3 ∧ Below w.heap.size w w3 ∧ w.heap.size ≤ w2.heap.size) := ⟨o3, below_chain (below_chain l1 l2 (by omega)) l3 (by omega), by omega⟩; clear o3 l3))
 try rw [Exit.noGoto_ret]
 go_ret2
 exact ⟨_, rfl, ownsRow_base HO.out.1 HO.out.2.2, HO.out.2.1⟩
theorem isTypeOf (v : Value) (w : World) : (Extern.ReflectliteType.typeOf #[.iface 22 v]).run Tryz.prog w = .ok (.iface 205 (.agg #[.pointer (some ⟨0, 22, none⟩)])) w := by kernel_rfl
def cmpF : Array Value → Sem Value := Extern.ReflectliteType.method fun t => do Go.Extern.Rtype.noPackHeld "Comparable" t; pure (.bool (← typeInfo t).comparable)
theorem isComparable (w : World) : (cmpF #[.agg #[.pointer (some ⟨0, 22, none⟩)]]).run Tryz.prog w = .ok (.bool true) w := by kernel_rfl
theorem isMethodComparable (v : Value) (w : World) : (Go.method 404 205 v "Comparable").run Tryz.prog w = .ok (213, v) w := by kernel_rfl
theorem noIsE (v : Value) (xT : TypeId) (w : World) : (Instr.typeAssert (.iface 22 v) xT 207 true).run Tryz.prog w = .ok (.tuple #[.nilIface, .bool false]) w := run_typeAssert_lacksB Tryz.underlying207 (by kernel_rfl) (by kernel_rfl) v xT w
theorem noUnwrapE (v : Value) (xT : TypeId) (w : World) : (Instr.typeAssert (.iface 22 v) xT 210 true).run Tryz.prog w = .ok (.tuple #[.nilIface, .bool false]) w := run_typeAssert_lacksB Tryz.underlying210 (by kernel_rfl) (by kernel_rfl) v xT w
theorem noUnwrapsE (v : Value) (xT : TypeId) (w : World) : (Instr.typeAssert (.iface 22 v) xT 212 true).run Tryz.prog w = .ok (.tuple #[.nilIface, .bool false]) w := run_typeAssert_lacksB Tryz.underlying212 (by kernel_rfl) (by kernel_rfl) v xT w
theorem is_any (a : Int) (w : World) :
  Calls Tryz.prog 121 #[.iface 22 (.int .i64 a), .iface 22 (.int .i64 0)] w fun e w' => e = .returned (.bool (a == 0)) ∧ w' = w := by
 have h8 := @run_callFunc_extern Tryz.prog 130 _ Extern.ReflectliteType.typeOf Tryz.func130 (by kernel_rfl) (by kernel_rfl) (by kernel_rfl) (by kernel_rfl)
 have h32 := @run_callFunc_extern Tryz.prog 213 _ cmpF Tryz.func213 (by kernel_rfl) (by kernel_rfl) (by kernel_rfl) (by kernel_rfl)
 have tT := isTypeOf
 have cT := isComparable
 have mR := isMethodComparable
 have nE := noIsE
 have uE := noUnwrapE
 have vE := noUnwrapsE
 have heq := fun w => Go.Lib.run_eql_iface_int (P := Tryz.prog) w (t := 191) (tx := 22) (k := .i64) a 0 Tryz.underlying191 (by kernel_rfl) Tryz.underlying22
 by_cases h : a = 0
 ·subst h
  have heq0 : ∀ w, (binOp .eql 191 (.iface 22 (.int .i64 0)) (.iface 22 (.int .i64 0))).run Tryz.prog w = .ok (.bool true) w := heq
  clear heq
  go_enter Tryz.func121, Tryz.ntmps121
  go_wp2
  refine wp_loop_rounds 1 ?_
  rw [rounds_succ]
  go_wp2
  go_ret
  exact ⟨rfl, rfl⟩
 ·have hf : (a == 0) = false := by simpa using h
  rw [hf] at heq
  rw [hf]
  clear hf h
  go_enter Tryz.func121, Tryz.ntmps121
  go_wp2
  refine wp_loop_rounds 1 ?_
  rw [rounds_succ]
  go_wp2
  go_ret
  exact ⟨rfl, rfl⟩
theorem pzNonce : (Tryz.prog.info? 95).map (fun i => (i.zero, i.size)) = some (some (.agg (u8s (List.replicate 12 0)).toArray), 12) := by kernel_rfl
def U32 (x : Int) : Prop := 0 ≤ x ∧ x < 4294967296
def placeC (r c p q : Int) : List Value := [.int .u64 r, .int .u32 c, .int .u32 p, .int .u32 q]
def hdL (r c : Int) : List Int := leB 8 r ++ leB 4 c
def moL (p q : Int) : List Int := leB 4 p ++ leB 4 q
theorem hdL_length (r c : Int) : (hdL r c).length = 12 := by rw [hdL, List.length_append, leB_length, leB_length]
theorem moL_length (r c : Int) : (moL r c).length = 8 := by rw [moL, List.length_append, leB_length, leB_length]
theorem bytes_app' {a b : List Int} (h : Bytes a) (k : Bytes b) : Bytes (a ++ b) := fun z hz => (List.mem_append.1 hz).elim (h z) (k z)
theorem hdL_bytes (r c : Int) : Bytes (hdL r c) := bytes_app' (leB_bytes _ _) (leB_bytes _ _)
theorem moL_bytes (r c : Int) : Bytes (moL r c) := bytes_app' (leB_bytes _ _) (leB_bytes _ _)
def isPn (H : List Int) (v : Value) (w : World) : Prop := ∃ g, v = .pointer (some ⟨g, 0, none⟩) ∧ RowAt w g H
theorem isPn_later (H : List Int) : ∀ v w w', Below w.heap.size w w' → isPn H v w → isPn H v w' := fun _ _ _ hb ⟨g, h1, h2⟩ => ⟨g, h1, h2.block (hb.block g h2.lt)⟩
theorem Does.arrayAt {base : Nat} {E : Exp} {ρ : Operand → Value} {o : Oper} {w : World} (t : TypeId) (x : Operand) (ho : o.op = .sliceToArrayPointer t x) (v u : Value) (hx : ρ x = v) (hrun : (Instr.arrayAt t v).run Tryz.prog w = .ok u w) (hE : E.ok base u w) : Does base E ρ o w := by
 refine Does.value u ?_ hE
 unfold execOp
 simp only [ho, hx, Sem.run_bind, hrun, Sem.run_pure, Result.andThen_ok]
theorem at12 (g cap : Nat) (w : World) : (Instr.arrayAt 95 (.slice (some ⟨g, 0, none⟩) 12 cap)).run Tryz.prog w = .ok (.pointer (some ⟨g, 0, none⟩)) w := by kernel_rfl
theorem own_row {w : World} {base n : Nat} {v : Value} {zs : List Int} (hl : zs.length = n) (hn : 0 < n) (h : isO base n zs v w) : ∃ g cap, v = .slice (some ⟨g, 0, none⟩) n cap ∧ RowAt w g zs ∧ base ≤ g := by
 subst hl
 rcases own_cases h with ⟨_, h0⟩ | ⟨g, cap, rfl, hr, hg, _⟩
 ·rw [h0] at hn; cases hn
 ·exact ⟨g, cap, rfl, hr, hg⟩
theorem range_row {w : World} {g : Nat} {zs : List Int} (h : RowAt w g zs) : w.rangeAt g 0 (u8s zs) := fun j u hj => by
 obtain ⟨hj', e⟩ := List.getElem?_eq_some_iff.1 hj
 rw [u8s_length] at hj'
 rw [Nat.zero_add, h.cell j hj', ← e]
 simp [u8s, List.getD, hj']
theorem put64_own (r : Int) (hr : Word r) (W : World) : Calls Tryz.prog 129 #[.slice none 0 0, .int .u64 r] W fun e w' => ∃ v, e = .returned v ∧ isO W.heap.size 8 (leB 8 r) v w' ∧ Below W.heap.size W w' := by
 have h := put_64 none 0 0 [] r W (Seen.empty _ _) (fun _ => rfl) (by decide) hr
 rwa [List.nil_append, Nat.zero_add] at h
theorem put32_own (r : Int) (hr : U32 r) (W : World) : Calls Tryz.prog 90 #[.slice none 0 0, .int .u32 r] W fun e w' => ∃ v, e = .returned v ∧ isO W.heap.size 4 (leB 4 r) v w' ∧ Below W.heap.size W w' := by
 have h := put_32 none 0 0 [] r W (Seen.empty _ _) (fun _ => rfl) (by decide) hr
 rwa [List.nil_append, Nat.zero_add] at h
theorem put32_on (v : Value) (B n : Nat) (zs : List Int) (hn : zs.length = n) (hb : Bytes zs) (ht : n ≤ 100) (r : Int) (hr : U32 r) (W : World) (o : isO B n zs v W) : Calls Tryz.prog 90 #[v, .int .u32 r] W fun e w' => ∃ v, e = .returned v ∧ isO W.heap.size (n + 4) (zs ++ leB 4 r) v w' ∧ Below W.heap.size W w' := by
 subst hn
 obtain ⟨vo, cap, rfl, h1, h2, h3, _⟩ := own_data hb (by omega) o
 exact put_32 vo _ cap zs r W h1 h3 (by omega) hr
theorem headOf_any (r c p q : Int) (hr : Word r) (hc : U32 c) (w : World) :
  Calls Tryz.prog 119 #[.agg (placeC r c p q).toArray] w fun e w' => e = .returned (.agg (u8s (hdL r c)).toArray) ∧ Below w.heap.size w w' := by
 have HR : Hid (Word r ∧ U32 c) := ⟨hr, hc⟩
 obtain ⟨H, hH⟩ : ∃ H, hdL r c = H := ⟨_, rfl⟩
 have HH : Hid (leB 8 r ++ leB 4 c = H ∧ H.length = 12) := ⟨hH, by rw [← hH]; exact hdL_length r c⟩
 rw [hH]
 clear hr hc hH
 go_enter Tryz.func119, Tryz.ntmps119
 go_wp2_with (first | (refine wpList_box_new rfl 169 _ rfl (placeC r c p q) rfl ?_; intro w1 b1 s1 l1) | (refine wpList_alloc_new rfl 95 rfl 12 _ pzNonce ?_; intro w2 b2 s2 l2))
 have V : Hid (Below w.heap.size w w2 ∧ Blk w2 w.heap.size 169 (placeC r c p q) ∧ Blk w2 w1.heap.size 95 (u8s (List.replicate 12 0)) ∧ w.heap.size ≤ w1.heap.size) := ⟨below_chain l1 l2 (by omega), b1.later l2 (by omega), b2, by omega⟩
 clear b1 s2 l1 b2 l2 s1
 refine region_inv [.val (.pointer (some ⟨w.heap.size, 0, none⟩)), .val (.int .u64 r), .any (isO w.heap.size 8 (leB 8 r)) (isO_later _ _ _), .val (.pointer (some ⟨w.heap.size, 1, none⟩)), .val (.int .u32 c), .any (isO w.heap.size 12 H) (isO_later _ _ _), .any (isPn H) (isPn_later H), .val (.agg (u8s H).toArray)] (by kernel_rfl) (by kernel_rfl) (by kernel_rfl) ?_ ?_
 ·refine Steps'.cons ?_ (Steps'.cons ?_ (Steps'.cons ?_ (Steps'.cons ?_ (Steps'.cons ?_ (Steps'.cons ?_ (Steps'.cons ?_ (Steps'.cons ?_ (Steps'.one _ _ _ _ _ _ _))))))))
  ·intro ax wx hb hs hd
   have h1 : ax.tmps.getD 1 undef = (.pointer (some ⟨w.heap.size, 0, none⟩)) := hs 1 (by kernel_rfl)
   exact Does.value _ (by clear hs hd; go_simp) rfl
  ·intro ax wx hb hs hd
   have h3 := sqV (hd 0 3 rfl (by kernel_rfl) (by decide))
   have cx : wx.cell? ⟨w.heap.size, 0, none⟩ = some (.int .u64 r) := (V.out.2.1.later hb V.out.2.1.lt).cell 0
   exact Does.value _ (by clear hs hd; go_simp) rfl
  ·intro ax wx hb hs hd
   have h4 := sqV (hd 1 4 rfl (by kernel_rfl) (by decide))
   refine Does.call 129 #[.slice none 0 0, .int .u64 r] (by clear hs hd; go_simp) ?_
   refine (put64_own r HR.out.1 wx).mono ?_
   rintro e w' ⟨v, rfl, o, l⟩
   exact ⟨_, rfl, ownsRow_base o (by have := hb.size; have := V.out.1.size; omega), l⟩
  ·intro ax wx hb hs hd
   have h1 : ax.tmps.getD 1 undef = (.pointer (some ⟨w.heap.size, 0, none⟩)) := hs 1 (by kernel_rfl)
   exact Does.value _ (by clear hs hd; go_simp) rfl
  ·intro ax wx hb hs hd
   have h6 := sqV (hd 3 6 rfl (by kernel_rfl) (by decide))
   have cx : wx.cell? ⟨w.heap.size, 1, none⟩ = some (.int .u32 c) := (V.out.2.1.later hb V.out.2.1.lt).cell 1
   exact Does.value _ (by clear hs hd; go_simp) rfl
  ·intro ax wx hb hs hd
   have h7 := sqV (hd 4 7 rfl (by kernel_rfl) (by decide))
   have p5 : isO w.heap.size 8 (leB 8 r) (ax.tmps.getD 5 undef) wx := hd 2 5 rfl (by kernel_rfl) (by decide)
   obtain ⟨v5, h5⟩ : ∃ v, ax.tmps.getD 5 undef = v := ⟨_, rfl⟩
   rw [h5] at p5
   refine Does.call 90 #[v5, .int .u32 c] (by clear hs hd; go_simp) ?_
   refine (put32_on v5 _ 8 (leB 8 r) (leB_length _ _) (leB_bytes _ _) (by decide) c HR.out.2 wx p5).mono ?_
   rintro e w' ⟨v, rfl, o, l⟩
   rw [HH.out.1] at o
   exact ⟨_, rfl, ownsRow_base o (by have := hb.size; have := V.out.1.size; omega), l⟩
  ·intro ax wx hb hs hd
   have p8 : isO w.heap.size 12 H (ax.tmps.getD 8 undef) wx := hd 5 8 rfl (by kernel_rfl) (by decide)
   obtain ⟨g, cap, h8, hrow, _⟩ := own_row HH.out.2 (by decide) p8
   exact Does.arrayAt 95 (.tmp 8) rfl _ _ h8 (at12 g cap wx) ⟨g, rfl, hrow⟩
  ·intro ax wx hb hs hd
   obtain ⟨g, h9, hrow⟩ : isPn H (ax.tmps.getD 9 undef) wx := hd 6 9 rfl (by kernel_rfl) (by decide)
   exact Does.load 95 (.tmp 9) rfl g 0 h9 (u8s H) _ (range_row hrow) Tryz.underlying95 rfl (by rw [u8s_length, HH.out.2]; exact sizeNonce)
 ·intro wx hb
  iterate 2 refine @Ends.val _ _ _ _ _ _ _ _ _ _ rfl ?_
  refine @Ends.any _ _ _ _ _ _ _ _ _ (isO w.heap.size 8 (leB 8 r)) (isO_later _ _ _) rfl ?_
  intro v2 p2
  iterate 2 refine @Ends.val _ _ _ _ _ _ _ _ _ _ rfl ?_
  refine @Ends.any _ _ _ _ _ _ _ _ _ (isO w.heap.size 12 H) (isO_later _ _ _) rfl ?_
  intro v5 p5
  refine @Ends.any _ _ _ _ _ _ _ _ _ (isPn H) (isPn_later H) rfl ?_
  intro v6 p6
  refine @Ends.val _ _ _ _ _ _ _ _ _ (.agg (u8s H).toArray) rfl ?_
  refine @Ends.one _ _ _ _ _ _ _ ?_
  simp only [Act.put, sqA, sqB, sqC]
  have B := V.out.2.2.1.later hb V.out.2.2.1.lt
  have q0 := V.out.2.2.2
  refine last_store 95 (.tmp 2) (.tmp 10) rfl rfl w1.heap.size rfl 95 _ (u8s H) rfl B (by rw [u8s_length, HH.out.2]; rfl) (by rw [u8s_length, HH.out.2]; exact sizeNonce) (u8s_one _) ?_
  intro y6 b6 s6 k6
  have q1 := V.out.1.size
  have q2 := hb.size
  have L : Below w.heap.size w y6 := below_kept (below_chain V.out.1 hb (by omega)) k6 (by omega) (fun j hj => by omega)
  clear p2 p5 p6
  go_wp2
  exact ret_blk rfl w1.heap.size (u8s H) _ rfl b6 Tryz.underlying95 rfl (by rw [u8s_length, HH.out.2]; exact sizeNonce) rfl ⟨rfl, L⟩
theorem vouch_any (r c p q : Int) (hp : U32 p) (hq : U32 q) (w : World) :
  Calls Tryz.prog 120 #[.agg (placeC r c p q).toArray] w fun e w' => ∃ v, e = .returned v ∧ isO w.heap.size 8 (moL p q) v w' ∧ Below w.heap.size w w' := by
 have HR : Hid (U32 p ∧ U32 q) := ⟨hp, hq⟩
 obtain ⟨H, hH⟩ : ∃ H, moL p q = H := ⟨_, rfl⟩
 have HH : Hid (leB 4 p ++ leB 4 q = H ∧ H.length = 8) := ⟨hH, by rw [← hH]; exact moL_length p q⟩
 rw [hH]
 clear hp hq hH
 go_enter Tryz.func120, Tryz.ntmps120
 go_wp2_with (first | (refine wpList_box_new rfl 169 _ rfl (placeC r c p q) rfl ?_; intro w1 b1 s1 l1))
 have V : Hid (Below w.heap.size w w1 ∧ Blk w1 w.heap.size 169 (placeC r c p q)) := ⟨l1, b1⟩
 clear b1 l1 s1
 refine region_inv [.val (.pointer (some ⟨w.heap.size, 2, none⟩)), .val (.int .u32 p), .any (isO w.heap.size 4 (leB 4 p)) (isO_later _ _ _), .val (.pointer (some ⟨w.heap.size, 3, none⟩)), .val (.int .u32 q), .any (isO w.heap.size 8 H) (isO_later _ _ _)] (by kernel_rfl) (by kernel_rfl) (by kernel_rfl) ?_ ?_
 ·refine Steps'.cons ?_ (Steps'.cons ?_ (Steps'.cons ?_ (Steps'.cons ?_ (Steps'.cons ?_ (Steps'.cons ?_ (Steps'.one _ _ _ _ _ _ _))))))
  ·intro ax wx hb hs hd
   have h1 : ax.tmps.getD 1 undef = (.pointer (some ⟨w.heap.size, 0, none⟩)) := hs 1 (by kernel_rfl)
   exact Does.value _ (by clear hs hd; go_simp) rfl
  ·intro ax wx hb hs hd
   have h3 := sqV (hd 0 3 rfl (by kernel_rfl) (by decide))
   have cx : wx.cell? ⟨w.heap.size, 2, none⟩ = some (.int .u32 p) := (V.out.2.later hb V.out.2.lt).cell 2
   exact Does.value _ (by clear hs hd; go_simp) rfl
  ·intro ax wx hb hs hd
   have h4 := sqV (hd 1 4 rfl (by kernel_rfl) (by decide))
   refine Does.call 90 #[.slice none 0 0, .int .u32 p] (by clear hs hd; go_simp) ?_
   refine (put32_own p HR.out.1 wx).mono ?_
   rintro e w' ⟨v, rfl, o, l⟩
   exact ⟨_, rfl, ownsRow_base o (by have := hb.size; have := V.out.1.size; omega), l⟩
  ·intro ax wx hb hs hd
   have h1 : ax.tmps.getD 1 undef = (.pointer (some ⟨w.heap.size, 0, none⟩)) := hs 1 (by kernel_rfl)
   exact Does.value _ (by clear hs hd; go_simp) rfl
  ·intro ax wx hb hs hd
   have h6 := sqV (hd 3 6 rfl (by kernel_rfl) (by decide))
   have cx : wx.cell? ⟨w.heap.size, 3, none⟩ = some (.int .u32 q) := (V.out.2.later hb V.out.2.lt).cell 3
   exact Does.value _ (by clear hs hd; go_simp) rfl
  ·intro ax wx hb hs hd
   have h7 := sqV (hd 4 7 rfl (by kernel_rfl) (by decide))
   have p5 : isO w.heap.size 4 (leB 4 p) (ax.tmps.getD 5 undef) wx := hd 2 5 rfl (by kernel_rfl) (by decide)
   obtain ⟨v5, h5⟩ : ∃ v, ax.tmps.getD 5 undef = v := ⟨_, rfl⟩
   rw [h5] at p5
   refine Does.call 90 #[v5, .int .u32 q] (by clear hs hd; go_simp) ?_
   refine (put32_on v5 _ 4 (leB 4 p) (leB_length _ _) (leB_bytes _ _) (by decide) q HR.out.2 wx p5).mono ?_
   rintro e w' ⟨v, rfl, o, l⟩
   rw [HH.out.1] at o
   exact ⟨_, rfl, ownsRow_base o (by have := hb.size; have := V.out.1.size; omega), l⟩
 ·intro wx hb
  iterate 2 refine @Ends.val _ _ _ _ _ _ _ _ _ _ rfl ?_
  refine @Ends.any _ _ _ _ _ _ _ _ _ (isO w.heap.size 4 (leB 4 p)) (isO_later _ _ _) rfl ?_
  intro v2 p2
  iterate 2 refine @Ends.val _ _ _ _ _ _ _ _ _ _ rfl ?_
  refine @Ends.any _ _ _ _ _ _ _ _ _ (isO w.heap.size 8 H) (isO_later _ _ _) rfl ?_
  intro v5 p5
  refine @Ends.one _ _ _ _ _ _ _ ?_
  simp only [Act.put, sqA, sqB, sqC]
  have HE : Hid (isO w.heap.size 8 H v5 wx ∧ Below w.heap.size w wx) := ⟨p5, below_chain V.out.1 hb V.out.1.size⟩
  clear p2 p5
  refine last_assign (.tmp 8) rfl (some 2) rfl v5 rfl ?_
  simp only [Act.put, sqA, sqB, sqC]
  go_wp2
  go_ret
  exact ⟨_, rfl, HE.out.1, HE.out.2⟩
def tellR (zs : List Int) : Int := le (zs.take 8)
def tellC (zs : List Int) : Int := le ((zs.drop 8).take 4)
theorem phead_any (ao : Option Addr) (n c : Nat) (zs : List Int) (w : World) (hx : Seen w ao n zs) (h28 : 28 ≤ n) (hc : n ≤ c) :
  Calls Tryz.prog 117 #[.slice ao n c] w fun e w' => e = .returned (.tuple #[.int .u64 (tellR zs), .int .u32 (tellC zs), .int .i64 0]) ∧ Below w.heap.size w w' := by
 have i1 : ¬ (n : Int) < 28 := by omega
 have t1 := hx.top
 have S12 : ∀ W, (Instr.sliceAt 37 (.slice ao n c) none (some (.int .i64 12)) none).run Tryz.prog W = .ok (.slice (subA ao 0 c) 12 c) W := fun W => sl_h ao n c 12 (by omega) W
 obtain ⟨T, hT⟩ : ∃ T, zs.take 12 = T := ⟨_, rfl⟩
 have hs : Seen w (subA ao 0 c) 12 T := by
  have h := hx.sub 0 12 c (by omega) (by omega) hc
  rwa [List.drop_zero, Nat.sub_zero, hT] at h
 have HT : Hid (T.length = 12 ∧ T.take 8 = zs.take 8 ∧ (T.drop 8).take 4 = (zs.drop 8).take 4) := ⟨hs.len, by rw [← hT, List.take_take]; rfl, by rw [← hT, List.drop_take, List.take_take]; rfl⟩
 have HS : Hid (Seen w (subA ao 0 c) 12 T) := hs
 have N1 : nxL T 0 0 8 = T.take 8 ∧ nxP T 0 0 8 = 8 ∧ nxE T 0 0 8 = 0 := by
  have h := nx_ok (zs := T) (p := 0) (m := 8) (by have := HT.out.1; omega)
  rw [List.drop_zero, Nat.zero_add] at h; exact h
 have N2 : nxL T 8 0 4 = (T.drop 8).take 4 ∧ nxP T 8 0 4 = 12 ∧ nxE T 8 0 4 = 0 := nx_ok (zs := T) (p := 8) (m := 4) (by have := HT.out.1; omega)
 have HN : Hid ((nxL T 0 0 8 = T.take 8 ∧ nxP T 0 0 8 = 8 ∧ nxE T 0 0 8 = 0) ∧ (nxL T 8 0 4 = (T.drop 8).take 4 ∧ nxP T 8 0 4 = 12 ∧ nxE T 8 0 4 = 0)) := ⟨N1, N2⟩
 have HV : Hid (leV 8 (nxL T 0 0 8).length (nxL T 0 0 8) = tellR zs ∧ leV 4 (nxL T 8 0 4).length (nxL T 8 0 4) = tellC zs ∧ endE T.length 12 0 = 0) := by
  have hl := HT.out.1
  refine ⟨?_, ?_, ?_⟩
  ·rw [N1.1, List.length_take, hl]; show leV 8 8 _ = _; rw [leV_ok, HT.out.2.1]; rfl
  ·rw [N2.1, List.length_take, List.length_drop, hl]; show leV 4 4 _ = _; rw [leV_ok, HT.out.2.2]; rfl
  ·rw [hl]; rfl
 clear hx hT hs N1 N2
 go_enter Tryz.func117, Tryz.ntmps117
 go_wp2_with fail
 refine (newReader_any (subA ao 0 c) 12 c T w HS.out).mono ?_
 rintro e w1 ⟨r, ao', c', rfl, d1, g1, g2, l1⟩
 have D1 : Hid (Rd w1 r ao' c' T 0 0 ∧ w.heap.size ≤ r ∧ Below w.heap.size w w1) := ⟨d1, g1, l1⟩
 clear d1 g1 g2 l1
 go_wp2_with fail
 refine (ru_64 r ao' c' T 0 0 w1 D1.out.1).mono ?_
 rintro e w2 ⟨rfl, d2, k2⟩
 rw [HV.out.1]
 rw [HN.out.1.2.1, HN.out.1.2.2] at d2
 have D2 : Hid (Rd w2 r ao' c' T 8 0 ∧ Below w.heap.size w w2) := ⟨d2, below_kept D1.out.2.2 k2 D1.out.2.2.size (fun j hj => by have := D1.out.2.1; omega)⟩
 clear d2 k2
 go_wp2_with fail
 refine (ru_32 r ao' c' T 8 0 w2 D2.out.1).mono ?_
 rintro e w3 ⟨rfl, d3, k3⟩
 rw [HV.out.2.1]
 rw [HN.out.2.2.1, HN.out.2.2.2] at d3
 have D3 : Hid (Rd w3 r ao' c' T 12 0 ∧ Below w.heap.size w w3) := ⟨d3, below_kept D2.out.2 k3 D2.out.2.size (fun j hj => by have := D1.out.2.1; omega)⟩
 clear d3 k3
 go_wp2_with fail
 refine (end_any r ao' c' T 12 0 w3 D3.out.1).mono ?_
 rintro e w4 ⟨rfl, q, rfl⟩
 rw [HV.out.2.2]
 go_wp2_with fail
 go_ret3
 exact ⟨rfl, below_dn D3.out.2 q⟩
def pageL (key : List Int) (r c p q : Int) (zs : List Int) : List Int := hdL r c ++ boxL key (hdL r c) (moL p q) zs
theorem pageL_length (key : List Int) (r c p q : Int) (zs : List Int) : (pageL key r c p q zs).length = zs.length + 28 := by rw [pageL, List.length_append, hdL_length, boxL_length]; omega
theorem pageL_bytes (key : List Int) (r c p q : Int) {zs : List Int} (h : Bytes zs) : Bytes (pageL key r c p q zs) := bytes_app' (hdL_bytes _ _) (boxL_bytes _ _ _ h)
theorem pageL_head (key : List Int) (r c p q : Int) (zs : List Int) : (pageL key r c p q zs).take 12 = hdL r c := by rw [pageL, List.take_append_of_le_length (by rw [hdL_length]; omega), List.take_of_length_le (by rw [hdL_length]; omega)]
theorem pageL_box (key : List Int) (r c p q : Int) (zs : List Int) : (pageL key r c p q zs).drop 12 = boxL key (hdL r c) (moL p q) zs := by rw [pageL]; exact List.drop_left' (hdL_length r c)
def isT (base n : Nat) (zs : List Int) (E : Int) (v : Value) (w : World) : Prop := ∃ u, v = .tuple #[u, .int .i64 E] ∧ isO base n zs u w
theorem isT_later (base n : Nat) (zs : List Int) (E : Int) : ∀ v w w', Below w.heap.size w w' → isT base n zs E v w → isT base n zs E v w' := fun _ _ _ hb ⟨u, h1, h2⟩ => ⟨u, h1, isO_later _ _ _ _ _ _ hb h2⟩
theorem grow_seen {w : World} {b : Addr} {xs : List Int} {n : Nat} (hX : Seen w (some b) n xs) {ao : Option Addr} {m c : Nat} {zs : List Int} (hZ : Seen w ao m zs) (hm : 0 < m) (hb : n + m ≤ 1000000) : ∃ v w', (Builtin.append_ #[37, 37] 37 #[.slice (some b) n n, .slice ao m c]).run Tryz.prog w = .ok v w' ∧ isO w.heap.size (n + m) (xs ++ zs) v w' ∧ Below w.heap.size w w' := by
 obtain ⟨i0, hi, hz0, hz1, hz2⟩ := info_parts info_byte
 obtain ⟨g, o, rfl, _, _⟩ := hZ.cells hm
 have hr := run_append_grow (P := Tryz.prog) (w := w) 37 37 5 i0 (.int .u8 0) Tryz.underlying37 hi hz0 b n n (xs.map (Value.int .u8)) (by rw [List.length_map, hX.len, hz1, Nat.mul_one]) (seen_news hX rfl) ⟨g, o, none⟩ m c (zs.map (Value.int .u8)) (by rw [List.length_map, hZ.len, hz1, Nat.mul_one]) (seen_news hZ rfl) (by omega) (by omega) (growslice_fits (by omega) (by rw [hz2]; omega))
 have hge := grownCap_ge w (n + m) n 5
 have hle := grownCap_le_maxLen w (n + m) n 5 (by unfold maxLen; omega)
 refine ⟨_, _, hr, ⟨by rw [List.length_map, List.length_append, hX.len, hZ.len, Nat.mul_one], .inr ⟨w.heap.size, _, _, rfl, Nat.le_refl _, heap_alloc_new w.drew _, hge, hle, ?_, ?_⟩⟩, below_ahead (k := 1) ((Below.refl _ (w.drewN 1)).alloc (Nat.le_refl _) _)⟩
 ·simp [Builtin.zeroCells, Value.cells, hX.len, hZ.len]; omega
 ·rw [Nat.mul_one, Array.toList_append, Array.toList_append, List.map_append]
  exact List.take_left' (by simp [hX.len, hZ.len])
theorem pown_sl {w : World} {B n : Nat} {v : Value} {zs : List Int} (hl : zs.length = n) (hb : Bytes zs) (ht : n ≤ 140737488355328) (o : isO B n zs v w) : ∃ vo cap, v = .slice vo n cap ∧ Seen w vo n zs ∧ n ≤ cap ∧ (vo = none → cap = 0) := by
 subst hl
 obtain ⟨a1, a2, a3, a4, a5, a6, _⟩ := own_data hb ht o
 exact ⟨a1, a2, a3, a4, a5, a6⟩
theorem wpList_append_go {ops : Array Oper} {rest : List Oper} {o : Oper} {a : Act} {Q : Exit → Act → World → Prop} {w : World} (hgd : o.guard = none) (s x : Operand) (t ty : TypeId) (ho : o.op = .call { callee := .builtin .append, args := #[s, x], argTypes := #[t, t] }) (hty : o.type = ty)
  (va vb : Value) (hs : a.eval s = va) (hx : a.eval x = vb) (v' : Value) (w' : World) (hr : (Builtin.append_ #[t, t] ty #[va, vb]).run Tryz.prog w = .ok v' w') (h : wpList Tryz.prog ops Q rest (a.put o.dst v') w') : wpList Tryz.prog ops Q (o :: rest) a w := by
 refine wpList_plain hgd fun K hK => ?_
 subst hty
 unfold Oper.wp execOp
 simp only [ho, resolve, invoke, builtin, Sem.run_bind, Sem.run_pure, Result.andThen_ok, List.map_toArray, List.map_cons, List.map_nil, hs, hx, hr]
 exact hK _ _ h
theorem seen12 {w : World} {g : Nat} {H : List Int} (b : Blk w g 95 (u8s H)) (hl : H.length = 12) (hb : Bytes H) : Seen w (some ⟨g, 0, none⟩) 12 H := by
 have h := seen_blk b hb (by omega)
 rwa [hl] at h
theorem sl_arr12 (g : Nat) (w : World) : (Instr.sliceAt 95 (.pointer (some ⟨g, 0, none⟩)) none none none).run Tryz.prog w = .ok (.slice (some ⟨g, 0, none⟩) 12 12) w := by kernel_rfl
theorem pzKey : (Tryz.prog.info? 169).map (·.size) = some 4 := by kernel_rfl
theorem placeC_one (r c p q : Int) : ∀ v ∈ placeC r c p q, v.oneCell' = true := by intro v hv; simp [placeC] at hv; rcases hv with rfl | rfl | rfl | rfl <;> rfl
theorem pseal_any (key : List Int) (r c p q : Int) (bo : Option Addr) (m d : Nat) (zs : List Int) (hk : key.length = 32) (hkb : Bytes key) (hr : Word r) (hc : U32 c) (hp : U32 p) (hq : U32 q) (hm : m ≤ 4096) (w : World) (hy : Seen w bo m zs) (hd : m ≤ d) :
  Calls Tryz.prog 116 #[.agg (u8s key).toArray, .agg (placeC r c p q).toArray, .slice bo m d] w fun e w' => ∃ v, e = .returned (.tuple #[v, .int .i64 0]) ∧ isO w.heap.size (m + 28) (pageL key r c p q zs) v w' ∧ Below w.heap.size w w' := by
 have i1 : ¬ (4096 : Int) < (m : Int) := by omega
 obtain ⟨H, hH⟩ : ∃ H, hdL r c = H := ⟨_, rfl⟩
 obtain ⟨M, hM⟩ : ∃ H, moL p q = H := ⟨_, rfl⟩
 obtain ⟨X, hX⟩ : ∃ X, boxL key H M zs = X := ⟨_, rfl⟩
 have HH : Hid (hdL r c = H ∧ H.length = 12 ∧ Bytes H) := ⟨hH, by rw [← hH]; exact hdL_length r c, by rw [← hH]; exact hdL_bytes r c⟩
 have HM : Hid (moL p q = M ∧ M.length = 8 ∧ Bytes M) := ⟨hM, by rw [← hM]; exact moL_length p q, by rw [← hM]; exact moL_bytes p q⟩
 have HX : Hid (boxL key H M zs = X ∧ X.length = m + 16 ∧ Bytes X ∧ pageL key r c p q zs = H ++ X) := ⟨hX, by rw [← hX, boxL_length, hy.len], by rw [← hX]; exact boxL_bytes _ _ _ hy.bytes, by rw [pageL, hH, hM, hX]⟩
 have HK : Hid (key.length = 32 ∧ Bytes key ∧ Word r ∧ U32 c ∧ U32 p ∧ U32 q ∧ m ≤ 4096 ∧ m ≤ d) := ⟨hk, hkb, hr, hc, hp, hq, hm, hd⟩
 have HY : Hid (Seen w bo m zs) := hy
 clear hH hM hX hk hkb hr hc hp hq hy hd
 go_enter Tryz.func116, Tryz.ntmps116
 go_wp2_with (first | (refine wpList_box_new rfl 30 _ rfl (u8s key) rfl ?_; intro w1 b1 s1 l1) | (refine wpList_box_new rfl 169 _ rfl (placeC r c p q) rfl ?_; intro w2 b2 s2 l2) | (refine wpList_load_blk rfl 169 _ rfl _ rfl (placeC r c p q) _ (by first | exact b2 | (rw [← s1]; exact b2)) Tryz.underlying169 rfl pzKey ?_))
 refine (headOf_any r c p q HK.out.2.2.1 HK.out.2.2.2.1 w2).mono ?_
 rintro e w3 ⟨rfl, l3⟩
 rw [HH.out.1]
 have q3 := l3.size
 go_wp2_with (first | (refine wpList_alloc_new rfl 95 rfl 12 _ pzNonce ?_; intro w4 b4 s4 l4) | (refine wpList_store_blk rfl 95 95 _ _ rfl _ rfl _ (u8s H) rfl b4 (by rw [u8s_length, HH.out.2.1]; rfl) (by rw [u8s_length, HH.out.2.1]; exact sizeNonce) (u8s_one _) ?_; intro w5 b5 s5 k5))
 rw [s1] at b2
 have V : Hid (Blk w5 w.heap.size 30 (u8s key) ∧ Blk w5 (w.heap.size + 1) 169 (placeC r c p q) ∧ Blk w5 w3.heap.size 95 (u8s H) ∧ Below w.heap.size w w5 ∧ Seen w5 bo m zs) := by
  have L4 : Below w2.heap.size w2 w4 := below_chain l3 l4 (by omega)
  have L5 : Below w2.heap.size w2 w5 := below_kept L4 k5 (by omega) (fun j hj => by omega)
  have L : Below w.heap.size w w5 := below_chain (below_chain l1 l2 (by omega)) L5 (by omega)
  exact ⟨(b1.later l2 (by omega)).later L5 (by omega), b2.later L5 (by omega), b5, L, HY.out.later L (Nat.le_refl _)⟩
 clear b1 b2 b4 b5 l1 l2 l3 l4 k5 s2 s4 s5 q3 s1
 simp only [Act.put, sqA, sqB, sqC]
 refine region_inv [.val (.agg (u8s key).toArray), .val (.agg (u8s H).toArray), .val (.agg (placeC r c p q).toArray), .any (isO w.heap.size 8 M) (isO_later _ _ _), .val (.slice bo m d), .any (isT w.heap.size (m + 16) X 0) (isT_later _ _ _ _), .any (isT w.heap.size (m + 16) X 0) (isT_later _ _ _ _), .any (isO w.heap.size (m + 16) X) (isO_later _ _ _), .val (.int .i64 0), .any (isO w.heap.size (m + 16) X) (isO_later _ _ _)] (by kernel_rfl) (by kernel_rfl) (by kernel_rfl) ?_ ?_
 ·refine Steps'.cons ?_ (Steps'.cons ?_ (Steps'.cons ?_ (Steps'.cons ?_ (Steps'.cons ?_ (Steps'.cons ?_ (Steps'.cons ?_ (Steps'.cons ?_ (Steps'.cons ?_ (Steps'.cons ?_ (Steps'.one _ _ _ _ _ _ _))))))))))
  ·intro ax wx hb hs hd
   have h3 : ax.tmps.getD 3 undef = (.pointer (some ⟨w.heap.size, 0, none⟩)) := hs 3 (by kernel_rfl)
   exact Does.load 30 (.tmp 3) rfl w.heap.size 0 h3 (u8s key) _ ((V.out.1).later hb (V.out.1).lt).all Tryz.underlying30 rfl (by rw [u8s_length, HK.out.1]; exact sizeKey)
  ·intro ax wx hb hs hd
   have h8 : ax.tmps.getD 8 undef = (.pointer (some ⟨w3.heap.size, 0, none⟩)) := hs 8 (by kernel_rfl)
   exact Does.load 95 (.tmp 8) rfl w3.heap.size 0 h8 (u8s H) _ ((V.out.2.2.1).later hb (V.out.2.2.1).lt).all Tryz.underlying95 rfl (by rw [u8s_length, HH.out.2.1]; exact sizeNonce)
  ·intro ax wx hb hs hd
   have h4 : ax.tmps.getD 4 undef = (.pointer (some ⟨w.heap.size + 1, 0, none⟩)) := hs 4 (by kernel_rfl)
   exact Does.load 169 (.tmp 4) rfl (w.heap.size + 1) 0 h4 (placeC r c p q) _ ((V.out.2.1).later hb (V.out.2.1).lt).all Tryz.underlying169 rfl pzKey
  ·intro ax wx hb hs hd
   have h19 := sqV (hd 2 19 rfl (by kernel_rfl) (by decide))
   refine Does.call 120 #[.agg (placeC r c p q).toArray] (by clear hs hd; go_simp) ?_
   refine (vouch_any r c p q HK.out.2.2.2.2.1 HK.out.2.2.2.2.2.1 wx).mono ?_
   rintro e w' ⟨v, rfl, o, l⟩
   rw [HM.out.1] at o
   exact ⟨_, rfl, ownsRow_base o (by have := hb.size; have := V.out.2.2.2.1.size; omega), l⟩
  ·intro ax wx hb hs hd
   have h2 : ax.tmps.getD 2 undef = (.slice bo m d) := hs 2 (by kernel_rfl)
   exact Does.value _ (by clear hs hd; go_simp) rfl
  ·intro ax wx hb hs hd
   have h17 := sqV (hd 0 17 rfl (by kernel_rfl) (by decide))
   have h18 := sqV (hd 1 18 rfl (by kernel_rfl) (by decide))
   have p20 : (isO w.heap.size 8 M) (ax.tmps.getD 20 undef) wx := hd 3 20 rfl (by kernel_rfl) (by decide)
   have h21 := sqV (hd 4 21 rfl (by kernel_rfl) (by decide))
   obtain ⟨mo, mc, h20, s20, c20, _⟩ := pown_sl HM.out.2.1 HM.out.2.2 (by decide) p20
   clear p20
   refine Does.call 122 #[.agg (u8s key).toArray, .agg (u8s H).toArray, .slice mo 8 mc, .slice bo m d] (by clear hs hd; go_simp) ?_
   refine (seal_any key H 8 mc m d mo bo M zs HK.out.1 HH.out.2.1 HK.out.2.1 HH.out.2.2 (by decide) (by have := HK.out.2.2.2.2.2.2.1; omega) wx s20 (V.out.2.2.2.2.later hb (Nat.le_refl _)) c20 HK.out.2.2.2.2.2.2.2).mono ?_
   rintro e w' ⟨v, rfl, o, l⟩
   rw [HX.out.1] at o
   exact ⟨_, rfl, ⟨v, rfl, ownsRow_base o (by have := hb.size; have := V.out.2.2.2.1.size; omega)⟩, l⟩
  ·intro ax wx hb hs hd
   have p22 : (isT w.heap.size (m + 16) X 0) (ax.tmps.getD 22 undef) wx := hd 5 22 rfl (by kernel_rfl) (by decide)
   obtain ⟨u, h22, o⟩ := p22
   refine Does.value (.tuple #[u, .int .i64 0]) ?_ ⟨u, rfl, o⟩
   clear hs hd
   go_simp
  ·intro ax wx hb hs hd
   have p16 : (isT w.heap.size (m + 16) X 0) (ax.tmps.getD 16 undef) wx := hd 6 16 rfl (by kernel_rfl) (by decide)
   obtain ⟨u, h16, o⟩ := p16
   refine Does.value u ?_ o
   clear hs hd
   go_simp
  ·intro ax wx hb hs hd
   have p16 : (isT w.heap.size (m + 16) X 0) (ax.tmps.getD 16 undef) wx := hd 6 16 rfl (by kernel_rfl) (by decide)
   obtain ⟨u, h16, o⟩ := p16
   exact Does.value _ (by clear hs hd; go_simp) rfl
  ·intro ax wx hb hs hd
   have p23 : (isO w.heap.size (m + 16) X) (ax.tmps.getD 23 undef) wx := hd 7 23 rfl (by kernel_rfl) (by decide)
   obtain ⟨u, h23⟩ : ∃ u, ax.tmps.getD 23 undef = u := ⟨_, rfl⟩
   rw [h23] at p23
   refine Does.value u ?_ p23
   clear hs hd
   go_simp
 ·intro wx hb
  iterate 3 refine @Ends.val _ _ _ _ _ _ _ _ _ _ rfl ?_
  refine @Ends.any _ _ _ _ _ _ _ _ _ (isO w.heap.size 8 M) (isO_later _ _ _) rfl ?_
  intro v20 p20
  refine @Ends.val _ _ _ _ _ _ _ _ _ (.slice bo m d) rfl ?_
  refine @Ends.any _ _ _ _ _ _ _ _ _ (isT w.heap.size (m + 16) X 0) (isT_later _ _ _ _) rfl ?_
  intro v22 p22
  refine @Ends.any _ _ _ _ _ _ _ _ _ (isT w.heap.size (m + 16) X 0) (isT_later _ _ _ _) rfl ?_
  intro v16 p16
  refine @Ends.any _ _ _ _ _ _ _ _ _ (isO w.heap.size (m + 16) X) (isO_later _ _ _) rfl ?_
  intro v23 p23
  refine @Ends.val _ _ _ _ _ _ _ _ _ (.int .i64 0) rfl ?_
  refine @Ends.any _ _ _ _ _ _ _ _ _ (isO w.heap.size (m + 16) X) (isO_later _ _ _) rfl ?_
  intro v9 p9
  refine @Ends.one _ _ _ _ _ _ _ ?_
  simp only [Act.put, sqA, sqB, sqC]
  obtain ⟨xo, xc, rfl, sx, cx, nx⟩ := pown_sl HX.out.2.1 HX.out.2.2.1 (by omega) p9
  have W1 : Hid (Blk wx w3.heap.size 95 (u8s H) ∧ Below w.heap.size w wx ∧ Seen wx xo (m + 16) X) := ⟨V.out.2.2.1.later hb V.out.2.2.1.lt, below_chain V.out.2.2.2.1 hb V.out.2.2.2.1.size, sx⟩
  clear p9 p23 p22 p20 p16 sx nx
  refine last_assign (.tmp 24) rfl (some 10) rfl (.int .i64 0) rfl ?_
  simp only [Act.put, sqA, sqB, sqC]
  have SA := sl_arr12 w3.heap.size
  obtain ⟨v7, w7, hr7, o7, l7⟩ := grow_seen (c := xc) (seen12 W1.out.1 HH.out.2.1 HH.out.2.2) W1.out.2.2 (by omega) (by omega)
  have G7 : Hid (isO wx.heap.size (12 + (m + 16)) (H ++ X) v7 w7 ∧ Below wx.heap.size wx w7) := ⟨o7, l7⟩
  clear o7 l7
  go_wp2_with (first | (go_at_call 121; refine (is_any 0 _).mono ?_; rintro e w' ⟨rfl, rfl⟩; rw [show ((0 : Int) == 0) = true from rfl]) | (at_builtin; refine wpList_append_go rfl _ _ 37 37 rfl rfl _ _ rfl rfl v7 w7 hr7 ?_))
  go_ret2
  exact ⟨_, rfl, by rw [HX.out.2.2.2, show m + 28 = 12 + (m + 16) by omega]; exact ownsRow_base G7.out.1 W1.out.2.1.size, below_chain W1.out.2.1 G7.out.2 W1.out.2.1.size⟩
theorem neq_place (r c p q r' c' : Int) (w : World) : (binOp .neq 169 (.agg (placeC r c p q).toArray) (.agg (placeC r' c' p q).toArray)).run Tryz.prog w = .ok (.bool (!(r == r' && c == c'))) w := by
 have hf : Tryz.prog.underlying 169 = some (.struct (Tryz.prog.fieldsOf 169)) := by kernel_rfl
 have hp : Tryz.prog.stoodInHeld 169 = false := by kernel_rfl
 have hl : (Tryz.prog.fieldsOf 169).toList = [{ name := "Round", type := 31, offset := 0, embedded := false, tag := "", pkgPath := "", byteOffset := 0 }, { name := "Counter", type := 65, offset := 1, embedded := false, tag := "", pkgPath := "", byteOffset := 8 }, { name := "Page", type := 65, offset := 2, embedded := false, tag := "", pkgPath := "", byteOffset := 12 }, { name := "Version", type := 65, offset := 3, embedded := false, tag := "", pkgPath := "", byteOffset := 16 }] := by kernel_rfl
 rw [run_neq_struct, run_equalIn_struct w 9999 169 _ _ hf hp, hl]
 have p0 : ∀ r c : Int, (Go.part 31 (placeC r c p q).toArray 0).run Tryz.prog w = .ok (.int .u64 r) w := fun r c => by simp [Go.part, isAgg, run_underlying Tryz.underlying31, placeC]
 have p1 : ∀ r c : Int, (Go.part 65 (placeC r c p q).toArray 1).run Tryz.prog w = .ok (.int .u32 c) w := fun r c => by simp [Go.part, isAgg, run_underlying Tryz.underlying65, placeC]
 have p2 : ∀ r c : Int, (Go.part 65 (placeC r c p q).toArray 2).run Tryz.prog w = .ok (.int .u32 p) w := fun r c => by simp [Go.part, isAgg, run_underlying Tryz.underlying65, placeC]
 have p3 : ∀ r c : Int, (Go.part 65 (placeC r c p q).toArray 3).run Tryz.prog w = .ok (.int .u32 q) w := fun r c => by simp [Go.part, isAgg, run_underlying Tryz.underlying65, placeC]
 have q0 : ∀ x y : Int, (Op.equalIn 9999 31 (.int .u64 x) (.int .u64 y)).run Tryz.prog w = .ok (x == y) w := fun x y => by rw [run_equalIn_int w 9998 31 .u64 .u64 _ _ Tryz.underlying31]
 have q1 : ∀ x y : Int, (Op.equalIn 9999 65 (.int .u32 x) (.int .u32 y)).run Tryz.prog w = .ok (x == y) w := fun x y => by rw [run_equalIn_int w 9998 65 .u32 .u32 _ _ Tryz.underlying65]
 cases h0 : (r == r') <;> cases h1 : (c == c') <;> simp [Op.eqFields, p0, p1, p2, p3, q0, q1, h0, h1]
theorem pbuild (r c p q : Int) (w : World) : (Instr.build 169 #[(0, .int .u64 r), (1, .int .u32 c), (2, .int .u32 p), (3, .int .u32 q)]).run Tryz.prog w = .ok (.agg (placeC r c p q).toArray) w := by kernel_rfl
theorem pzPlace : (Tryz.prog.info? 169).map (fun i => (i.zero, i.size)) = some (some (.agg (placeC 0 0 0 0).toArray), 4) := by kernel_rfl
theorem tell_head {zs : List Int} {r c : Int} (hb : Bytes zs) (hl : 12 ≤ zs.length) (hr : Word r) (hc : U32 c) : (tellR zs = r ∧ tellC zs = c) ↔ zs.take 12 = hdL r c := by
 have e8 : (zs.take 8).length = 8 := by simp; omega
 have e4 : ((zs.drop 8).take 4).length = 4 := by simp; omega
 have ex : zs.take 12 = zs.take 8 ++ (zs.drop 8).take 4 := by rw [show 12 = 8 + 4 from rfl, List.take_add]
 constructor
 ·rintro ⟨rfl, rfl⟩
  have h8 := leB_le (zs.take 8) (fun z hz => hb z (List.mem_of_mem_take hz))
  have h4 := leB_le ((zs.drop 8).take 4) (fun z hz => hb z (List.mem_of_mem_drop (List.mem_of_mem_take hz)))
  rw [e8] at h8
  rw [e4] at h4
  rw [ex, hdL, tellR, tellC, h8, h4]
 ·intro h
  rw [ex, hdL] at h
  have hh := List.append_inj h (by rw [e8, leB_length])
  rw [tellR, tellC, hh.1, hh.2, le_leB, le_leB]
  have h1 := hr.1
  have h2 := hr.2
  have h3 := hc.1
  have h4 := hc.2
  exact ⟨Int.emod_eq_of_lt h1 (by omega), Int.emod_eq_of_lt h3 (by omega)⟩
theorem popen_long (key : List Int) (r c p q : Int) (bo : Option Addr) (m d : Nat) (t1 : m ≤ 140737488355328) (hm : 4124 < m) (w : World) :
  Calls Tryz.prog 115 #[.agg (u8s key).toArray, .agg (placeC r c p q).toArray, .slice bo m d] w fun e w' => e = .returned (.tuple #[.slice none 0 0, .int .i64 120]) ∧ Below w.heap.size w w' := by
 have i1 : (4124 : Int) < (m : Int) := by omega
 go_enter Tryz.func115, Tryz.ntmps115
 go_wp2_with (first | (refine wpList_box_new rfl 30 _ rfl (u8s key) rfl ?_; intro w1 b1 s1 l1) | (refine wpList_box_new rfl 169 _ rfl (placeC r c p q) rfl ?_; intro w2 b2 s2 l2))
 go_ret2
 exact ⟨rfl, below_chain l1 l2 (by omega)⟩
theorem popen_else (key : List Int) (r c p q : Int) (bo : Option Addr) (m d : Nat) (zs : List Int) (h28 : 28 ≤ m) (hm : m ≤ 4124) (w : World) (hy : Seen w bo m zs) (hd : m ≤ d) (hne : (tellR zs == r && tellC zs == c) = false) :
  Calls Tryz.prog 115 #[.agg (u8s key).toArray, .agg (placeC r c p q).toArray, .slice bo m d] w fun e w' => e = .returned (.tuple #[.slice none 0 0, .int .i64 120]) ∧ Below w.heap.size w w' := by
 have i1 : ¬ (4124 : Int) < (m : Int) := by omega
 have HY : Hid (Seen w bo m zs) := hy
 have HD : Hid (m ≤ d) := hd
 obtain ⟨R, hR⟩ : ∃ R, tellR zs = R := ⟨_, rfl⟩
 obtain ⟨C, hC⟩ : ∃ C, tellC zs = C := ⟨_, rfl⟩
 have HT : Hid (tellR zs = R ∧ tellC zs = C) := ⟨hR, hC⟩
 have HE : Hid ((!(R == r && C == c)) = true) := by show (!(R == r && C == c)) = true; rw [← hR, ← hC, hne]; rfl
 clear hy hd hR hC hne
 go_enter Tryz.func115, Tryz.ntmps115
 go_wp2_with (first | (refine wpList_box_new rfl 30 _ rfl (u8s key) rfl ?_; intro w1 b1 s1 l1) | (refine wpList_box_new rfl 169 _ rfl (placeC r c p q) rfl ?_; intro w2 b2 s2 l2))
 refine (phead_any bo m d zs w2 (HY.out.later (below_chain l1 l2 (by omega)) (Nat.le_refl _)) h28 HD.out).mono ?_
 rintro e w3 ⟨rfl, l3⟩
 rw [HT.out.1, HT.out.2]
 have q3 := l3.size
 rw [s1] at b2
 have V3 : Hid (Blk w3 w.heap.size 30 (u8s key) ∧ Blk w3 (w.heap.size + 1) 169 (placeC r c p q) ∧ Below w.heap.size w w3) := ⟨(b1.later l2 (by omega)).later l3 (by omega), b2.later l3 (by omega), below_chain (below_chain l1 l2 (by omega)) l3 (by omega)⟩
 have cp : w3.cell? ⟨w.heap.size + 1, 2, none⟩ = some (.int .u32 p) := V3.out.2.1.cell 2
 have cq : w3.cell? ⟨w.heap.size + 1, 3, none⟩ = some (.int .u32 q) := V3.out.2.1.cell 3
 clear b1 b2 l1 l2 l3 s2 s1 q3
 have NP := neq_place R C p q r c
 rw [HE.out] at NP
 go_wp2_with (first | (refine wpList_build rfl 169 _ rfl #[(0, .int .u64 R), (1, .int .u32 C), (2, .int .u32 p), (3, .int .u32 q)] (by simp only [List.map_toArray, List.map_cons, List.map_nil]; rfl) _ (pbuild R C p q _) ?_) | (refine wpList_alloc_new rfl 169 rfl 4 _ pzPlace ?_; intro w4 b4 s4 l4) | (refine wpList_store_blk rfl 169 169 _ _ rfl _ rfl _ (placeC R C p q) rfl b4 rfl pzKey (placeC_one _ _ _ _) ?_; intro w5 b5 s5 k5; have V5 : Hid (Blk w5 w.heap.size 30 (u8s key) ∧ Blk w5 (w.heap.size + 1) 169 (placeC r c p q) ∧ Below w.heap.size w w5 ∧ Blk w5 w3.heap.size 169 (placeC R C p q)) := (by have L5 : Below w3.heap.size w3 w5 := below_kept l4 k5 (by omega) (fun j hj => by omega); exact ⟨V3.out.1.later L5 V3.out.1.lt, V3.out.2.1.later L5 V3.out.2.1.lt, below_chain V3.out.2.2 L5 V3.out.2.2.size, b5⟩)) | ((with_reducible show wpList _ _ _ (({ dst := some 31, op := _, type := _, pos := _, after := _, guard := _ } : Oper) :: _) _ _); refine wpList_load_blk rfl 169 _ rfl _ rfl (placeC R C p q) _ V5.out.2.2.2 Tryz.underlying169 rfl pzKey ?_) | ((with_reducible show wpList _ _ _ (({ dst := some 32, op := _, type := _, pos := _, after := _, guard := _ } : Oper) :: _) _ _); refine wpList_load_blk rfl 169 _ rfl _ rfl (placeC r c p q) _ V5.out.2.1 Tryz.underlying169 rfl pzKey ?_))
 go_ret2
 exact ⟨rfl, V5.out.2.2.1⟩
theorem popen_no (key : List Int) (r c p q : Int) (bo : Option Addr) (m d : Nat) (zs : List Int) (hk : key.length = 32) (hkb : Bytes key) (hr : Word r) (hc : U32 c) (hp : U32 p) (hq : U32 q) (h28 : 28 ≤ m) (hm : m ≤ 4124) (w : World) (hy : Seen w bo m zs) (hd : m ≤ d) (heq : (tellR zs == r && tellC zs == c) = true) (hO : opensL key (hdL r c) (moL p q) (zs.drop 12) = false) :
  Calls Tryz.prog 115 #[.agg (u8s key).toArray, .agg (placeC r c p q).toArray, .slice bo m d] w fun e w' => e = .returned (.tuple #[.slice none 0 0, .int .i64 120]) ∧ Below w.heap.size w w' := by
 have i1 : ¬ (4124 : Int) < (m : Int) := by omega
 have HY : Hid (Seen w bo m zs) := hy
 have HD : Hid (m ≤ d) := hd
 obtain ⟨R, hR⟩ : ∃ R, tellR zs = R := ⟨_, rfl⟩
 obtain ⟨C, hC⟩ : ∃ C, tellC zs = C := ⟨_, rfl⟩
 have HT : Hid (tellR zs = R ∧ tellC zs = C) := ⟨hR, hC⟩
 have HE : Hid ((!(R == r && C == c)) = false) := by show (!(R == r && C == c)) = false; rw [← hR, ← hC, heq]; rfl
 obtain ⟨H, hH⟩ : ∃ H, hdL r c = H := ⟨_, rfl⟩
 obtain ⟨M, hM⟩ : ∃ H, moL p q = H := ⟨_, rfl⟩
 obtain ⟨B, hB⟩ : ∃ B, zs.drop 12 = B := ⟨_, rfl⟩
 have HH : Hid (hdL r c = H ∧ H.length = 12 ∧ Bytes H) := ⟨hH, by rw [← hH]; exact hdL_length r c, by rw [← hH]; exact hdL_bytes r c⟩
 have HM : Hid (moL p q = M ∧ M.length = 8 ∧ Bytes M) := ⟨hM, by rw [← hM]; exact moL_length p q, by rw [← hM]; exact moL_bytes p q⟩
 have HB : Hid ((∀ W, (Instr.sliceAt 37 (.slice bo m d) (some (.int .i64 12)) none none).run Tryz.prog W = .ok (.slice (subA bo 12 d) (m - 12) (d - 12)) W) ∧ Seen w (subA bo 12 d) (m - 12) B ∧ opensL key H M B = false) := by
  refine ⟨fun W => sl_l bo m d 12 (by omega) W, ?_, by rw [← hH, ← hM, ← hB]; exact hO⟩
  have h := hy.sub 12 m d (by omega) (Nat.le_refl _) hd
  rwa [hB, List.take_of_length_le (by rw [← hB, List.length_drop, hy.len]; omega)] at h
 have HK : Hid (key.length = 32 ∧ Bytes key ∧ Word r ∧ U32 c ∧ U32 p ∧ U32 q) := ⟨hk, hkb, hr, hc, hp, hq⟩
 clear hy hd hR hC heq hH hM hB hk hkb hr hc hp hq hO
 go_enter Tryz.func115, Tryz.ntmps115
 go_wp2_with (first | (refine wpList_box_new rfl 30 _ rfl (u8s key) rfl ?_; intro w1 b1 s1 l1) | (refine wpList_box_new rfl 169 _ rfl (placeC r c p q) rfl ?_; intro w2 b2 s2 l2))
 refine (phead_any bo m d zs w2 (HY.out.later (below_chain l1 l2 (by omega)) (Nat.le_refl _)) h28 HD.out).mono ?_
 rintro e w3 ⟨rfl, l3⟩
 rw [HT.out.1, HT.out.2]
 have q3 := l3.size
 rw [s1] at b2
 have V3 : Hid (Blk w3 w.heap.size 30 (u8s key) ∧ Blk w3 (w.heap.size + 1) 169 (placeC r c p q) ∧ Below w.heap.size w w3) := ⟨(b1.later l2 (by omega)).later l3 (by omega), b2.later l3 (by omega), below_chain (below_chain l1 l2 (by omega)) l3 (by omega)⟩
 have cp : w3.cell? ⟨w.heap.size + 1, 2, none⟩ = some (.int .u32 p) := V3.out.2.1.cell 2
 have cq : w3.cell? ⟨w.heap.size + 1, 3, none⟩ = some (.int .u32 q) := V3.out.2.1.cell 3
 clear b1 b2 l1 l2 l3 s2 s1 q3
 have NP := neq_place R C p q r c
 rw [HE.out] at NP
 go_wp2_with (first | (refine wpList_build rfl 169 _ rfl #[(0, .int .u64 R), (1, .int .u32 C), (2, .int .u32 p), (3, .int .u32 q)] (by simp only [List.map_toArray, List.map_cons, List.map_nil]; rfl) _ (pbuild R C p q _) ?_) | (refine wpList_alloc_new rfl 169 rfl 4 _ pzPlace ?_; intro w4 b4 s4 l4) | (refine wpList_store_blk rfl 169 169 _ _ rfl _ rfl _ (placeC R C p q) rfl b4 rfl pzKey (placeC_one _ _ _ _) ?_; intro w5 b5 s5 k5; have V5 : Hid (Blk w5 w.heap.size 30 (u8s key) ∧ Blk w5 (w.heap.size + 1) 169 (placeC r c p q) ∧ Below w.heap.size w w5 ∧ Blk w5 w3.heap.size 169 (placeC R C p q)) := (by have L5 : Below w3.heap.size w3 w5 := below_kept l4 k5 (by omega) (fun j hj => by omega); exact ⟨V3.out.1.later L5 V3.out.1.lt, V3.out.2.1.later L5 V3.out.2.1.lt, below_chain V3.out.2.2 L5 V3.out.2.2.size, b5⟩)) | ((with_reducible show wpList _ _ _ (({ dst := some 31, op := _, type := _, pos := _, after := _, guard := _ } : Oper) :: _) _ _); refine wpList_load_blk rfl 169 _ rfl _ rfl (placeC R C p q) _ V5.out.2.2.2 Tryz.underlying169 rfl pzKey ?_) | ((with_reducible show wpList _ _ _ (({ dst := some 32, op := _, type := _, pos := _, after := _, guard := _ } : Oper) :: _) _ _); refine wpList_load_blk rfl 169 _ rfl _ rfl (placeC r c p q) _ V5.out.2.1 Tryz.underlying169 rfl pzKey ?_))
 clear NP cp cq b4 s4 l4 b5 s5 k5
 refine region_inv [.val (.agg (u8s key).toArray), .val (.agg (placeC r c p q).toArray), .val (.agg (u8s H).toArray), .val (.agg (placeC r c p q).toArray), .any (isO w.heap.size 8 M) (isO_later _ _ _), .val (.slice bo m d), .val (.slice (subA bo 12 d) (m - 12) (d - 12)), .val (.tuple #[.slice none 0 0, .int .i64 70]), .val (.tuple #[.slice none 0 0, .int .i64 70]), .val (.slice none 0 0), .val (.int .i64 70), .val (.slice none 0 0)] (by kernel_rfl) (by kernel_rfl) (by kernel_rfl) ?_ ?_
 ·refine Steps'.cons ?_ (Steps'.cons ?_ (Steps'.cons ?_ (Steps'.cons ?_ (Steps'.cons ?_ (Steps'.cons ?_ (Steps'.cons ?_ (Steps'.cons ?_ (Steps'.cons ?_ (Steps'.cons ?_ (Steps'.cons ?_ (Steps'.cons ?_ (Steps'.one _ _ _ _ _ _ _))))))))))))
  ·intro ax wx hb hs hd
   have h3 : ax.tmps.getD 3 undef = (.pointer (some ⟨w.heap.size, 0, none⟩)) := hs 3 (by kernel_rfl)
   exact Does.load 30 (.tmp 3) rfl w.heap.size 0 h3 (u8s key) _ ((V5.out.1).later hb (V5.out.1).lt).all Tryz.underlying30 rfl (by rw [u8s_length, HK.out.1]; exact sizeKey)
  ·intro ax wx hb hs hd
   have h4 : ax.tmps.getD 4 undef = (.pointer (some ⟨w.heap.size + 1, 0, none⟩)) := hs 4 (by kernel_rfl)
   exact Does.load 169 (.tmp 4) rfl (w.heap.size + 1) 0 h4 (placeC r c p q) _ ((V5.out.2.1).later hb (V5.out.2.1).lt).all Tryz.underlying169 rfl pzKey
  ·intro ax wx hb hs hd
   have h36 := sqV (hd 1 36 rfl (by kernel_rfl) (by decide))
   refine Does.call 119 #[.agg (placeC r c p q).toArray] (by clear hs hd; go_simp) ?_
   refine (headOf_any r c p q HK.out.2.2.1 HK.out.2.2.2.1 wx).mono ?_
   rintro e w' ⟨rfl, l⟩
   rw [HH.out.1]
   exact ⟨_, rfl, rfl, l⟩
  ·intro ax wx hb hs hd
   have h4 : ax.tmps.getD 4 undef = (.pointer (some ⟨w.heap.size + 1, 0, none⟩)) := hs 4 (by kernel_rfl)
   exact Does.load 169 (.tmp 4) rfl (w.heap.size + 1) 0 h4 (placeC r c p q) _ ((V5.out.2.1).later hb (V5.out.2.1).lt).all Tryz.underlying169 rfl pzKey
  ·intro ax wx hb hs hd
   have h38 := sqV (hd 3 38 rfl (by kernel_rfl) (by decide))
   refine Does.call 120 #[.agg (placeC r c p q).toArray] (by clear hs hd; go_simp) ?_
   refine (vouch_any r c p q HK.out.2.2.2.2.1 HK.out.2.2.2.2.2 wx).mono ?_
   rintro e w' ⟨v, rfl, o, l⟩
   rw [HM.out.1] at o
   exact ⟨_, rfl, ownsRow_base o (by have := hb.size; have := V5.out.2.2.1.size; omega), l⟩
  ·intro ax wx hb hs hd
   have h2 : ax.tmps.getD 2 undef = (.slice bo m d) := hs 2 (by kernel_rfl)
   exact Does.value _ (by clear hs hd; go_simp) rfl
  ·intro ax wx hb hs hd
   have h40 := sqV (hd 5 40 rfl (by kernel_rfl) (by decide))
   have S12 := HB.out.1
   exact Does.value _ (by clear hs hd; go_simp) rfl
  ·intro ax wx hb hs hd
   have h35 := sqV (hd 0 35 rfl (by kernel_rfl) (by decide))
   have h37 := sqV (hd 2 37 rfl (by kernel_rfl) (by decide))
   have p39 : (isO w.heap.size 8 M) (ax.tmps.getD 39 undef) wx := hd 4 39 rfl (by kernel_rfl) (by decide)
   have h41 := sqV (hd 6 41 rfl (by kernel_rfl) (by decide))
   obtain ⟨mo, mc, h39, s39, c39, _⟩ := pown_sl HM.out.2.1 HM.out.2.2 (by decide) p39
   clear p39
   refine Does.call 118 #[.agg (u8s key).toArray, .agg (u8s H).toArray, .slice mo 8 mc, .slice (subA bo 12 d) (m - 12) (d - 12)] (by clear hs hd; go_simp) ?_
   refine (open_no key H 8 mc (m - 12) (d - 12) mo (subA bo 12 d) M B HK.out.1 HH.out.2.1 HK.out.2.1 HH.out.2.2 (by omega) (by omega) (by decide) wx s39 (HB.out.2.1.later (below_chain V5.out.2.2.1 hb V5.out.2.2.1.size) (Nat.le_refl _)) c39 (by have := HD.out; omega) HB.out.2.2).mono ?_
   rintro e w' ⟨rfl, l⟩
   exact ⟨_, rfl, rfl, l⟩
  ·intro ax wx hb hs hd
   have h42 := sqV (hd 7 42 rfl (by kernel_rfl) (by decide))
   exact Does.value _ (by clear hs hd; go_simp) rfl
  ·intro ax wx hb hs hd
   have h34 := sqV (hd 8 34 rfl (by kernel_rfl) (by decide))
   exact Does.value _ (by clear hs hd; go_simp) rfl
  ·intro ax wx hb hs hd
   have h34 := sqV (hd 8 34 rfl (by kernel_rfl) (by decide))
   exact Does.value _ (by clear hs hd; go_simp) rfl
  ·intro ax wx hb hs hd
   have h43 := sqV (hd 9 43 rfl (by kernel_rfl) (by decide))
   exact Does.value _ (by clear hs hd; go_simp) rfl
 ·intro wx hb
  iterate 4 refine @Ends.val _ _ _ _ _ _ _ _ _ _ rfl ?_
  refine @Ends.any _ _ _ _ _ _ _ _ _ (isO w.heap.size 8 M) (isO_later _ _ _) rfl ?_
  intro v39 p39
  iterate 7 refine @Ends.val _ _ _ _ _ _ _ _ _ _ rfl ?_
  refine @Ends.one _ _ _ _ _ _ _ ?_
  simp only [Act.put, sqA, sqB, sqC]
  have W1 : Hid (Below w.heap.size w wx) := below_chain V5.out.2.2.1 hb V5.out.2.2.1.size
  clear p39
  refine last_assign (.tmp 44) rfl (some 10) rfl (.int .i64 70) rfl ?_
  simp only [Act.put, sqA, sqB, sqC]
  go_wp2_with (go_at_call 121; refine (is_any 70 _).mono ?_; rintro e w' ⟨rfl, rfl⟩; rw [show ((70 : Int) == 0) = false from rfl])
  go_ret2
  exact ⟨rfl, W1.out⟩
theorem popen_yes (key : List Int) (r c p q : Int) (bo : Option Addr) (m d : Nat) (zs : List Int) (hk : key.length = 32) (hkb : Bytes key) (hr : Word r) (hc : U32 c) (hp : U32 p) (hq : U32 q) (h28 : 28 ≤ m) (hm : m ≤ 4124) (w : World) (hy : Seen w bo m zs) (hd : m ≤ d) (heq : (tellR zs == r && tellC zs == c) = true) (hO : opensL key (hdL r c) (moL p q) (zs.drop 12) = true) :
  Calls Tryz.prog 115 #[.agg (u8s key).toArray, .agg (placeC r c p q).toArray, .slice bo m d] w fun e w' => ∃ v, e = .returned (.tuple #[v, .int .i64 0]) ∧ isO w.heap.size (m - 28) (textL key (hdL r c) (zs.drop 12)) v w' ∧ Below w.heap.size w w' := by
 have i1 : ¬ (4124 : Int) < (m : Int) := by omega
 have HY : Hid (Seen w bo m zs) := hy
 have HD : Hid (m ≤ d) := hd
 obtain ⟨R, hR⟩ : ∃ R, tellR zs = R := ⟨_, rfl⟩
 obtain ⟨C, hC⟩ : ∃ C, tellC zs = C := ⟨_, rfl⟩
 have HT : Hid (tellR zs = R ∧ tellC zs = C) := ⟨hR, hC⟩
 have HE : Hid ((!(R == r && C == c)) = false) := by show (!(R == r && C == c)) = false; rw [← hR, ← hC, heq]; rfl
 obtain ⟨H, hH⟩ : ∃ H, hdL r c = H := ⟨_, rfl⟩
 obtain ⟨M, hM⟩ : ∃ H, moL p q = H := ⟨_, rfl⟩
 obtain ⟨B, hB⟩ : ∃ B, zs.drop 12 = B := ⟨_, rfl⟩
 have HH : Hid (hdL r c = H ∧ H.length = 12 ∧ Bytes H) := ⟨hH, by rw [← hH]; exact hdL_length r c, by rw [← hH]; exact hdL_bytes r c⟩
 have HM : Hid (moL p q = M ∧ M.length = 8 ∧ Bytes M) := ⟨hM, by rw [← hM]; exact moL_length p q, by rw [← hM]; exact moL_bytes p q⟩
 have HB : Hid ((∀ W, (Instr.sliceAt 37 (.slice bo m d) (some (.int .i64 12)) none none).run Tryz.prog W = .ok (.slice (subA bo 12 d) (m - 12) (d - 12)) W) ∧ Seen w (subA bo 12 d) (m - 12) B ∧ opensL key H M B = true) := by
  refine ⟨fun W => sl_l bo m d 12 (by omega) W, ?_, by rw [← hH, ← hM, ← hB]; exact hO⟩
  have h := hy.sub 12 m d (by omega) (Nat.le_refl _) hd
  rwa [hB, List.take_of_length_le (by rw [← hB, List.length_drop, hy.len]; omega)] at h
 have HK : Hid (key.length = 32 ∧ Bytes key ∧ Word r ∧ U32 c ∧ U32 p ∧ U32 q) := ⟨hk, hkb, hr, hc, hp, hq⟩
 obtain ⟨X, hX⟩ : ∃ X, textL key H B = X := ⟨_, rfl⟩
 have HX : Hid (textL key H B = X) := hX
 rw [hH, hB, hX]
 clear hX
 clear hy hd hR hC heq hH hM hB hk hkb hr hc hp hq hO
 go_enter Tryz.func115, Tryz.ntmps115
 go_wp2_with (first | (refine wpList_box_new rfl 30 _ rfl (u8s key) rfl ?_; intro w1 b1 s1 l1) | (refine wpList_box_new rfl 169 _ rfl (placeC r c p q) rfl ?_; intro w2 b2 s2 l2))
 refine (phead_any bo m d zs w2 (HY.out.later (below_chain l1 l2 (by omega)) (Nat.le_refl _)) h28 HD.out).mono ?_
 rintro e w3 ⟨rfl, l3⟩
 rw [HT.out.1, HT.out.2]
 have q3 := l3.size
 rw [s1] at b2
 have V3 : Hid (Blk w3 w.heap.size 30 (u8s key) ∧ Blk w3 (w.heap.size + 1) 169 (placeC r c p q) ∧ Below w.heap.size w w3) := ⟨(b1.later l2 (by omega)).later l3 (by omega), b2.later l3 (by omega), below_chain (below_chain l1 l2 (by omega)) l3 (by omega)⟩
 have cp : w3.cell? ⟨w.heap.size + 1, 2, none⟩ = some (.int .u32 p) := V3.out.2.1.cell 2
 have cq : w3.cell? ⟨w.heap.size + 1, 3, none⟩ = some (.int .u32 q) := V3.out.2.1.cell 3
 clear b1 b2 l1 l2 l3 s2 s1 q3
 have NP := neq_place R C p q r c
 rw [HE.out] at NP
 go_wp2_with (first | (refine wpList_build rfl 169 _ rfl #[(0, .int .u64 R), (1, .int .u32 C), (2, .int .u32 p), (3, .int .u32 q)] (by simp only [List.map_toArray, List.map_cons, List.map_nil]; rfl) _ (pbuild R C p q _) ?_) | (refine wpList_alloc_new rfl 169 rfl 4 _ pzPlace ?_; intro w4 b4 s4 l4) | (refine wpList_store_blk rfl 169 169 _ _ rfl _ rfl _ (placeC R C p q) rfl b4 rfl pzKey (placeC_one _ _ _ _) ?_; intro w5 b5 s5 k5; have V5 : Hid (Blk w5 w.heap.size 30 (u8s key) ∧ Blk w5 (w.heap.size + 1) 169 (placeC r c p q) ∧ Below w.heap.size w w5 ∧ Blk w5 w3.heap.size 169 (placeC R C p q)) := (by have L5 : Below w3.heap.size w3 w5 := below_kept l4 k5 (by omega) (fun j hj => by omega); exact ⟨V3.out.1.later L5 V3.out.1.lt, V3.out.2.1.later L5 V3.out.2.1.lt, below_chain V3.out.2.2 L5 V3.out.2.2.size, b5⟩)) | ((with_reducible show wpList _ _ _ (({ dst := some 31, op := _, type := _, pos := _, after := _, guard := _ } : Oper) :: _) _ _); refine wpList_load_blk rfl 169 _ rfl _ rfl (placeC R C p q) _ V5.out.2.2.2 Tryz.underlying169 rfl pzKey ?_) | ((with_reducible show wpList _ _ _ (({ dst := some 32, op := _, type := _, pos := _, after := _, guard := _ } : Oper) :: _) _ _); refine wpList_load_blk rfl 169 _ rfl _ rfl (placeC r c p q) _ V5.out.2.1 Tryz.underlying169 rfl pzKey ?_))
 clear NP cp cq b4 s4 l4 b5 s5 k5
 refine region_inv [.val (.agg (u8s key).toArray), .val (.agg (placeC r c p q).toArray), .val (.agg (u8s H).toArray), .val (.agg (placeC r c p q).toArray), .any (isO w.heap.size 8 M) (isO_later _ _ _), .val (.slice bo m d), .val (.slice (subA bo 12 d) (m - 12) (d - 12)), .any (isT w.heap.size (m - 28) X 0) (isT_later _ _ _ _), .any (isT w.heap.size (m - 28) X 0) (isT_later _ _ _ _), .any (isO w.heap.size (m - 28) X) (isO_later _ _ _), .val (.int .i64 0), .any (isO w.heap.size (m - 28) X) (isO_later _ _ _)] (by kernel_rfl) (by kernel_rfl) (by kernel_rfl) ?_ ?_
 ·refine Steps'.cons ?_ (Steps'.cons ?_ (Steps'.cons ?_ (Steps'.cons ?_ (Steps'.cons ?_ (Steps'.cons ?_ (Steps'.cons ?_ (Steps'.cons ?_ (Steps'.cons ?_ (Steps'.cons ?_ (Steps'.cons ?_ (Steps'.cons ?_ (Steps'.one _ _ _ _ _ _ _))))))))))))
  ·intro ax wx hb hs hd
   have h3 : ax.tmps.getD 3 undef = (.pointer (some ⟨w.heap.size, 0, none⟩)) := hs 3 (by kernel_rfl)
   exact Does.load 30 (.tmp 3) rfl w.heap.size 0 h3 (u8s key) _ ((V5.out.1).later hb (V5.out.1).lt).all Tryz.underlying30 rfl (by rw [u8s_length, HK.out.1]; exact sizeKey)
  ·intro ax wx hb hs hd
   have h4 : ax.tmps.getD 4 undef = (.pointer (some ⟨w.heap.size + 1, 0, none⟩)) := hs 4 (by kernel_rfl)
   exact Does.load 169 (.tmp 4) rfl (w.heap.size + 1) 0 h4 (placeC r c p q) _ ((V5.out.2.1).later hb (V5.out.2.1).lt).all Tryz.underlying169 rfl pzKey
  ·intro ax wx hb hs hd
   have h36 := sqV (hd 1 36 rfl (by kernel_rfl) (by decide))
   refine Does.call 119 #[.agg (placeC r c p q).toArray] (by clear hs hd; go_simp) ?_
   refine (headOf_any r c p q HK.out.2.2.1 HK.out.2.2.2.1 wx).mono ?_
   rintro e w' ⟨rfl, l⟩
   rw [HH.out.1]
   exact ⟨_, rfl, rfl, l⟩
  ·intro ax wx hb hs hd
   have h4 : ax.tmps.getD 4 undef = (.pointer (some ⟨w.heap.size + 1, 0, none⟩)) := hs 4 (by kernel_rfl)
   exact Does.load 169 (.tmp 4) rfl (w.heap.size + 1) 0 h4 (placeC r c p q) _ ((V5.out.2.1).later hb (V5.out.2.1).lt).all Tryz.underlying169 rfl pzKey
  ·intro ax wx hb hs hd
   have h38 := sqV (hd 3 38 rfl (by kernel_rfl) (by decide))
   refine Does.call 120 #[.agg (placeC r c p q).toArray] (by clear hs hd; go_simp) ?_
   refine (vouch_any r c p q HK.out.2.2.2.2.1 HK.out.2.2.2.2.2 wx).mono ?_
   rintro e w' ⟨v, rfl, o, l⟩
   rw [HM.out.1] at o
   exact ⟨_, rfl, ownsRow_base o (by have := hb.size; have := V5.out.2.2.1.size; omega), l⟩
  ·intro ax wx hb hs hd
   have h2 : ax.tmps.getD 2 undef = (.slice bo m d) := hs 2 (by kernel_rfl)
   exact Does.value _ (by clear hs hd; go_simp) rfl
  ·intro ax wx hb hs hd
   have h40 := sqV (hd 5 40 rfl (by kernel_rfl) (by decide))
   have S12 := HB.out.1
   exact Does.value _ (by clear hs hd; go_simp) rfl
  ·intro ax wx hb hs hd
   have h35 := sqV (hd 0 35 rfl (by kernel_rfl) (by decide))
   have h37 := sqV (hd 2 37 rfl (by kernel_rfl) (by decide))
   have p39 : (isO w.heap.size 8 M) (ax.tmps.getD 39 undef) wx := hd 4 39 rfl (by kernel_rfl) (by decide)
   have h41 := sqV (hd 6 41 rfl (by kernel_rfl) (by decide))
   obtain ⟨mo, mc, h39, s39, c39, _⟩ := pown_sl HM.out.2.1 HM.out.2.2 (by decide) p39
   clear p39
   refine Does.call 118 #[.agg (u8s key).toArray, .agg (u8s H).toArray, .slice mo 8 mc, .slice (subA bo 12 d) (m - 12) (d - 12)] (by clear hs hd; go_simp) ?_
   refine (open_yes key H 8 mc (m - 12) (d - 12) mo (subA bo 12 d) M B HK.out.1 HH.out.2.1 HK.out.2.1 HH.out.2.2 (by omega) (by omega) (by decide) wx s39 (HB.out.2.1.later (below_chain V5.out.2.2.1 hb V5.out.2.2.1.size) (Nat.le_refl _)) c39 (by have := HD.out; omega) HB.out.2.2).mono ?_
   rintro e w' ⟨v, rfl, o, l⟩
   rw [HX.out, show m - 12 - 16 = m - 28 by omega] at o
   exact ⟨_, rfl, ⟨v, rfl, ownsRow_base o (by have := hb.size; have := V5.out.2.2.1.size; omega)⟩, l⟩
  ·intro ax wx hb hs hd
   have p42 : (isT w.heap.size (m - 28) X 0) (ax.tmps.getD 42 undef) wx := hd 7 42 rfl (by kernel_rfl) (by decide)
   obtain ⟨u, h42, o⟩ := p42
   refine Does.value (.tuple #[u, .int .i64 0]) ?_ ⟨u, rfl, o⟩
   clear hs hd
   go_simp
  ·intro ax wx hb hs hd
   have p34 : (isT w.heap.size (m - 28) X 0) (ax.tmps.getD 34 undef) wx := hd 8 34 rfl (by kernel_rfl) (by decide)
   obtain ⟨u, h34, o⟩ := p34
   refine Does.value u ?_ o
   clear hs hd
   go_simp
  ·intro ax wx hb hs hd
   have p34 : (isT w.heap.size (m - 28) X 0) (ax.tmps.getD 34 undef) wx := hd 8 34 rfl (by kernel_rfl) (by decide)
   obtain ⟨u, h34, o⟩ := p34
   exact Does.value _ (by clear hs hd; go_simp) rfl
  ·intro ax wx hb hs hd
   have p43 : (isO w.heap.size (m - 28) X) (ax.tmps.getD 43 undef) wx := hd 9 43 rfl (by kernel_rfl) (by decide)
   obtain ⟨u, h43⟩ : ∃ u, ax.tmps.getD 43 undef = u := ⟨_, rfl⟩
   rw [h43] at p43
   refine Does.value u ?_ p43
   clear hs hd
   go_simp
 ·intro wx hb
  iterate 4 refine @Ends.val _ _ _ _ _ _ _ _ _ _ rfl ?_
  refine @Ends.any _ _ _ _ _ _ _ _ _ (isO w.heap.size 8 M) (isO_later _ _ _) rfl ?_
  intro v39 p39
  iterate 2 refine @Ends.val _ _ _ _ _ _ _ _ _ _ rfl ?_
  refine @Ends.any _ _ _ _ _ _ _ _ _ (isT w.heap.size (m - 28) X 0) (isT_later _ _ _ _) rfl ?_
  intro v42 p42
  refine @Ends.any _ _ _ _ _ _ _ _ _ (isT w.heap.size (m - 28) X 0) (isT_later _ _ _ _) rfl ?_
  intro v34 p34
  refine @Ends.any _ _ _ _ _ _ _ _ _ (isO w.heap.size (m - 28) X) (isO_later _ _ _) rfl ?_
  intro v43 p43
  refine @Ends.val _ _ _ _ _ _ _ _ _ (.int .i64 0) rfl ?_
  refine @Ends.any _ _ _ _ _ _ _ _ _ (isO w.heap.size (m - 28) X) (isO_later _ _ _) rfl ?_
  intro v12 p12
  refine @Ends.one _ _ _ _ _ _ _ ?_
  simp only [Act.put, sqA, sqB, sqC]
  have W1 : Hid (isO w.heap.size (m - 28) X v12 wx ∧ Below w.heap.size w wx) := ⟨p12, below_chain V5.out.2.2.1 hb V5.out.2.2.1.size⟩
  clear p12 p43 p42 p39 p34
  refine last_assign (.tmp 44) rfl (some 10) rfl (.int .i64 0) rfl ?_
  simp only [Act.put, sqA, sqB, sqC]
  go_wp2_with (go_at_call 121; refine (is_any 0 _).mono ?_; rintro e w' ⟨rfl, rfl⟩; rw [show ((0 : Int) == 0) = true from rfl])
  go_ret2
  exact ⟨_, rfl, W1.out.1, W1.out.2⟩
def pOpens (key : List Int) (r c p q : Int) (zs : List Int) : Bool := decide (28 ≤ zs.length) && decide (zs.length ≤ 4124) && ((tellR zs == r && tellC zs == c) && opensL key (hdL r c) (moL p q) (zs.drop 12))
def pText (key : List Int) (r c : Int) (zs : List Int) : List Int := textL key (hdL r c) (zs.drop 12)
theorem pOpens_len {key : List Int} {r c p q : Int} {zs : List Int} (h : pOpens key r c p q zs = true) : 28 ≤ zs.length ∧ zs.length ≤ 4124 ∧ (tellR zs == r && tellC zs == c) = true ∧ opensL key (hdL r c) (moL p q) (zs.drop 12) = true := by
 simp only [pOpens, Bool.and_eq_true, decide_eq_true_eq] at h
 exact ⟨h.1.1, h.1.2, by rw [h.2.1.1, h.2.1.2]; rfl, h.2.2⟩
theorem popen_good (key : List Int) (r c p q : Int) (bo : Option Addr) (m d : Nat) (zs : List Int) (hk : key.length = 32) (hkb : Bytes key) (hr : Word r) (hc : U32 c) (hp : U32 p) (hq : U32 q) (w : World) (hy : Seen w bo m zs) (hd : m ≤ d) (hO : pOpens key r c p q zs = true) :
  Calls Tryz.prog 115 #[.agg (u8s key).toArray, .agg (placeC r c p q).toArray, .slice bo m d] w fun e w' => ∃ v, e = .returned (.tuple #[v, .int .i64 0]) ∧ isO w.heap.size (m - 28) (pText key r c zs) v w' ∧ Below w.heap.size w w' := by
 obtain ⟨h1, h2, h3, h4⟩ := pOpens_len hO
 have hl := hy.len
 exact popen_yes key r c p q bo m d zs hk hkb hr hc hp hq (by omega) (by omega) w hy hd h3 h4
theorem tell_page (key : List Int) (r c p q : Int) {zs : List Int} (hb : Bytes zs) (hr : Word r) (hc : U32 c) : tellR (pageL key r c p q zs) = r ∧ tellC (pageL key r c p q zs) = c :=
 (tell_head (pageL_bytes key r c p q hb) (by rw [pageL_length]; omega) hr hc).2 (pageL_head key r c p q zs)
theorem opens_page (key : List Int) (r c p q : Int) {zs : List Int} (hb : Bytes zs) (hl : zs.length ≤ 4096) (hr : Word r) (hc : U32 c) : pOpens key r c p q (pageL key r c p q zs) = true := by
 have h := tell_page key r c p q hb hr hc
 rw [pOpens, pageL_length, decide_eq_true (by omega), decide_eq_true (by omega), h.1, h.2, pageL_box, opens_box]
 simp
theorem text_page (key : List Int) (r c p q : Int) {zs : List Int} (hb : Bytes zs) : pText key r c (pageL key r c p q zs) = zs := by rw [pText, pageL_box, text_box _ _ _ hb]
def k7 : List Int := 7 :: List.replicate 31 0
theorem hc {w : World} {h : Nat} {s : HSt} {gl gm : Nat} {lg : Value} (b : Blk w h 102 (hostC s gl gm lg)) (j : Nat) : w.cell? ⟨h, j, none⟩ = (hostC s gl gm lg)[j]? := b.cell j
theorem pages_any (h : Nat) (s : HSt) (M : Nat → Prop) (w : World) (x : HostAt w M h s) : Calls Tryz.prog 192 #[.pointer (some ⟨h, 0, none⟩)] w fun e w' => e = .returned (.int .i64 s.pages) ∧ w = w' := by
 obtain ⟨gl, gm, lg, rws, n, D, x⟩ := x
 have c1 : w.cell? ⟨h, 1, none⟩ = some (.slice (some ⟨gl, 0, none⟩) s.pages s.pages) := x.blk.cell 1
 clear x
 go_enter Tryz.func192, Tryz.ntmps192
 go_wp2
 go_ret
 exact ⟨rfl, rfl⟩
theorem size_any (h : Nat) (s : HSt) (M : Nat → Prop) (w : World) (x : HostAt w M h s) : Calls Tryz.prog 195 #[.pointer (some ⟨h, 0, none⟩)] w fun e w' => e = .returned (.int .i64 s.size) ∧ w = w' := by
 obtain ⟨gl, gm, lg, rws, n, D, x⟩ := x
 have c0 : w.cell? ⟨h, 0, none⟩ = some (.int .i64 s.size) := x.blk.cell 0
 clear x
 go_enter Tryz.func195, Tryz.ntmps195
 go_wp2
 go_ret
 exact ⟨rfl, rfl⟩
def hasP (s : HSt) (p : Int) : Bool := decide (0 ≤ p ∧ p < s.pages)
theorem has_any (h : Nat) (s : HSt) (p : Int) (M : Nat → Prop) (w : World) (x : HostAt w M h s) : Calls Tryz.prog 204 #[.pointer (some ⟨h, 0, none⟩), .int .i64 p] w fun e w' => e = .returned (.bool (hasP s p)) ∧ w = w' := by
 obtain ⟨gl, gm, lg, rws, n, D, x⟩ := x
 have c1 : w.cell? ⟨h, 1, none⟩ = some (.slice (some ⟨gl, 0, none⟩) s.pages s.pages) := x.blk.cell 1
 clear x
 by_cases h0 : 0 ≤ p
 ·by_cases h1 : p < s.pages
  ·go_enter Tryz.func204, Tryz.ntmps204
   go_wp2
   go_ret
   exact ⟨ret_bool (by simp [hasP, h0, h1]), rfl⟩
  ·go_enter Tryz.func204, Tryz.ntmps204
   go_wp2
   go_ret
   exact ⟨ret_bool (by simp [hasP, h0, h1]), rfl⟩
 ·go_enter Tryz.func204, Tryz.ntmps204
  go_wp2
  go_ret
  exact ⟨ret_bool (by simp [hasP]; omega), rfl⟩
theorem checkH_any (h : Nat) (s : HSt) (p : Int) (M : Nat → Prop) (w : World) (x : HostAt w M h s) : Calls Tryz.prog 197 #[.pointer (some ⟨h, 0, none⟩), .int .i64 p] w fun e w' => e = .returned (.int .i64 (if hasP s p then 0 else 2)) ∧ w = w' := by
 have C := has_any h s p M w x
 cases hp : hasP s p
 ·rw [hp] at C
  clear x hp
  go_enter Tryz.func197, Tryz.ntmps197
  go_wp2_with (go_at_call 204; refine C.mono ?_; rintro e _ ⟨rfl, rfl⟩)
  go_ret
  exact ⟨rfl, rfl⟩
 ·rw [hp] at C
  clear x hp
  go_enter Tryz.func197, Tryz.ntmps197
  go_wp2_with (go_at_call 204; refine C.mono ?_; rintro e _ ⟨rfl, rfl⟩)
  go_ret
  exact ⟨rfl, rfl⟩
def known (fs : List Fl) : Bool := fs.all fun f => decide (0 ≤ f.k ∧ f.k ≤ 4)
theorem known_cut {fs : List Fl} {i : Nat} (hi : i < fs.length) (h : ¬ (0 ≤ (fs.getD i default).k ∧ (fs.getD i default).k ≤ 4)) : known fs = false := by
 have e : fs.getD i default = fs[i] := by simp [List.getD, hi]
 rw [e] at h
 cases hk : known fs with
 | false => rfl
 | true =>
  simp only [known, List.all_eq_true] at hk
  have := hk _ (List.getElem_mem hi)
  simp only [decide_eq_true_eq] at this
  exact absurd this h
theorem allKnown_any (v : Value) (fs : List Fl) (M : Nat → Prop) (w : World) (x : FlS w M v fs) : Calls Tryz.prog 82 #[v] w fun e w' => e = .returned (.bool (known fs)) ∧ Below w.heap.size w w' := by
 obtain ⟨ao, c, rfl, hx⟩ := x.ex
 have X : Hid (FlS w M (.slice ao fs.length c) fs) := x
 have HX : Hid (∀ i, i < fs.length → ∃ b o, ao = some ⟨b, o, none⟩ ∧ b < w.heap.size ∧ M b ∧ w.rangeAt b (o + i * 6) (flC (fs.getD i default))) := hx
 have ht := x.top
 clear x hx
 obtain ⟨n, hn⟩ : ∃ n, fs.length = n := ⟨_, rfl⟩
 rw [hn] at ht ⊢
 have HN : Hid (fs.length = n) := hn
 clear hn
 go_enter Tryz.func82, Tryz.ntmps82
 go_wp2
 go_loopw [7] (fun i wr => ∃ k : Nat, k ≤ n ∧ i = .int .i64 k ∧ Below w.heap.size w wr ∧ ∀ j, j < k → 0 ≤ (fs.getD j default).k ∧ (fs.getD j default).k ≤ 4) (fun i _ => n - (intOf i).toNat)
 case atStart => exact ⟨0, Nat.zero_le _, rfl, Below.refl _ _, fun j hj => by omega⟩
 case round =>
  obtain ⟨k, hk, rfl, hbel, hall⟩ := hrel
  by_cases hlt : k < n
  ·obtain ⟨b, o, rfl, hbl, _, hrg⟩ := HX.out k (by rw [HN.out]; exact hlt)
   obtain ⟨f, hf⟩ : ∃ f, fs.getD k default = f := ⟨_, rfl⟩
   rw [hf] at hrg
   have hg : f.Good := by rw [← hf]; exact Fl.good_at X.out.good k (by rw [HN.out]; exact hlt)
   have HB : Hid (Below w.heap.size w wr ∧ wr.rangeAt b (o + k * 6) (flC f) ∧ (∀ j, j < k → 0 ≤ (fs.getD j default).k ∧ (fs.getD j default).k ≤ 4) ∧ fs.getD k default = f) := ⟨hbel, rangeAt_same hrg (hbel.block b hbl), hall, hf⟩
   have hk1 := hg.2.1
   have i1 : (0 : Int) ≤ (k : Int) := by omega
   have i2 : (k : Int) < (n : Int) := by omega
   clear hbl hrg hf hg hbel hall
   by_cases h0 : 0 ≤ f.k ∧ f.k ≤ 4
   ·have h01 := h0.1
    have h02 := h0.2
    have HK : Hid (0 ≤ f.k ∧ f.k ≤ 4) := h0
    clear h0
    go_wp2_with (first | (refine wpList_load_mid rfl 163 (.tmp 9) rfl b (o + k * 6) rfl (flC f) _ HB.out.2.1 Tryz.underlying163 rfl (sizeFl f) ?_) | (refine wpList_alloc_new rfl 163 rfl 6 _ zeroFl ?_; intro w4 b4 s4 l4) | (refine wpList_store_blk rfl 163 163 (.tmp 4) _ rfl _ rfl _ (flC f) rfl b4 rfl (sizeFl f) (flC_one f) ?_; intro w5 b5 s5 k5; have c1 : w5.cell? ⟨wr.heap.size, 1, none⟩ = some (.int .i64 f.k) := b5.cell 1))
    have R : Hid (Below w.heap.size w w5) := below_chain HB.out.1 (below_kept l4 k5 (by omega) (fun j hj => by omega)) HB.out.1.size
    clear b4 s4 l4 b5 s5 k5 c1
    go_roundw
    case rel => exact ⟨k + 1, by omega, by go_num, R.out, fun j hj => by
     rcases Nat.lt_or_ge j k with h1 | h1
     ·exact HB.out.2.2.1 j h1
     ·obtain rfl : j = k := by omega
      rw [HB.out.2.2.2]; exact HK.out⟩
    case measure => simp [intOf] <;> omega
   ·have HF : Hid (known fs = false) := known_cut (i := k) (by rw [HN.out]; exact hlt) (by rw [HB.out.2.2.2]; exact h0)
    rcases (show f.k < 0 ∨ (0 ≤ f.k ∧ 4 < f.k) by omega) with h1 | ⟨h1, h2⟩
    all_goals
     clear h0
     go_wp2_with (first | (refine wpList_load_mid rfl 163 (.tmp 9) rfl b (o + k * 6) rfl (flC f) _ HB.out.2.1 Tryz.underlying163 rfl (sizeFl f) ?_) | (refine wpList_alloc_new rfl 163 rfl 6 _ zeroFl ?_; intro w4 b4 s4 l4) | (refine wpList_store_blk rfl 163 163 (.tmp 4) _ rfl _ rfl _ (flC f) rfl b4 rfl (sizeFl f) (flC_one f) ?_; intro w5 b5 s5 k5; have c1 : w5.cell? ⟨wr.heap.size, 1, none⟩ = some (.int .i64 f.k) := b5.cell 1))
     have R : Hid (Below w.heap.size w w5) := below_chain HB.out.1 (below_kept l4 k5 (by omega) (fun j hj => by omega)) HB.out.1.size
     clear b4 s4 l4 b5 s5 k5 c1
     go_ret
     exact ⟨ret_bool HF.out.symm, R.out⟩
  ·obtain rfl : k = n := by omega
   have HF : Hid (known fs = true ∧ Below w.heap.size w wr) := ⟨by
    simp only [known, List.all_eq_true, decide_eq_true_eq]
    intro f hf
    obtain ⟨j, hj, rfl⟩ := List.getElem_of_mem hf
    have := hall j (by have := HN.out; omega)
    simpa [List.getD, hj] using this, hbel⟩
   clear hbel hall hk
   go_wp2
   go_ret
   exact ⟨ret_bool HF.out.1.symm, HF.out.2⟩
def powL (fs : List Fl) : Int := if fs.any (fun f => f.k == 3) then 1 else if fs.any (fun f => f.k == 4) then 2 else 0
theorem powL_ahead {fs : List Fl} {i : Nat} (hi : i < fs.length) (h : (fs.getD i default).k = 3) : powL fs = 1 := by
 have e : fs.getD i default = fs[i] := by simp [List.getD, hi]
 rw [e] at h
 unfold powL
 rw [if_pos]
 exact List.any_eq_true.2 ⟨_, List.getElem_mem hi, by simp [h]⟩
theorem take_any_succ {fs : List Fl} {k : Nat} (hk : k < fs.length) (q : Fl → Bool) : (fs.take (k + 1)).any q = ((fs.take k).any q || q (fs.getD k default)) := by
 rw [List.take_succ_eq_append_getElem hk, List.any_append]
 simp [List.getD, hk]
theorem power_any (v : Value) (fs : List Fl) (M : Nat → Prop) (w : World) (x : FlS w M v fs) : Calls Tryz.prog 206 #[v] w fun e w' => e = .returned (.int .i64 (powL fs)) ∧ Below w.heap.size w w' := by
 obtain ⟨ao, c, rfl, hx⟩ := x.ex
 have X : Hid (FlS w M (.slice ao fs.length c) fs) := x
 have HX : Hid (∀ i, i < fs.length → ∃ b o, ao = some ⟨b, o, none⟩ ∧ b < w.heap.size ∧ M b ∧ w.rangeAt b (o + i * 6) (flC (fs.getD i default))) := hx
 have ht := x.top
 clear x hx
 obtain ⟨n, hn⟩ : ∃ n, fs.length = n := ⟨_, rfl⟩
 rw [hn] at ht ⊢
 have HN : Hid (fs.length = n) := hn
 clear hn
 go_enter Tryz.func206, Tryz.ntmps206
 go_wp2
 go_loopw [3, 8] (fun pw i wr => ∃ k : Nat, k ≤ n ∧ i = .int .i64 k ∧ Below w.heap.size w wr ∧ (fs.take k).any (fun f => f.k == 3) = false ∧ pw = .int .i64 (if (fs.take k).any (fun f => f.k == 4) then 2 else 0)) (fun _ i _ => n - (intOf i).toNat)
 case atStart => exact ⟨0, Nat.zero_le _, rfl, Below.refl _ _, by simp, by simp⟩
 case round =>
  obtain ⟨k, hk, rfl, hbel, hall, rfl⟩ := hrel
  obtain ⟨pw, hpw⟩ : ∃ q, (if (fs.take k).any (fun f => f.k == 4) then (2 : Int) else 0) = q := ⟨_, rfl⟩
  rw [hpw]
  have HP : Hid ((if (fs.take k).any (fun f => f.k == 4) then (2 : Int) else 0) = pw) := hpw
  clear hpw
  by_cases hlt : k < n
  ·obtain ⟨b, o, rfl, hbl, _, hrg⟩ := HX.out k (by rw [HN.out]; exact hlt)
   have hlt' : k < fs.length := by rw [HN.out]; exact hlt
   obtain ⟨f, hf⟩ : ∃ f, fs.getD k default = f := ⟨_, rfl⟩
   rw [hf] at hrg
   have HB : Hid (Below w.heap.size w wr ∧ wr.rangeAt b (o + k * 6) (flC f) ∧ (fs.take k).any (fun f => f.k == 3) = false ∧ fs.getD k default = f ∧ k < fs.length) := ⟨hbel, rangeAt_same hrg (hbel.block b hbl), hall, hf, hlt'⟩
   have i1 : (0 : Int) ≤ (k : Int) := by omega
   have i2 : (k : Int) < (n : Int) := by omega
   clear hbl hrg hf hbel hall hlt'
   by_cases h3 : f.k = 3
   ·have h3' : (f.k == 3) = true := by simp [h3]
    have HF : Hid (powL fs = 1) := powL_ahead (i := k) HB.out.2.2.2.2 (by rw [HB.out.2.2.2.1]; exact h3)
    clear h3
    go_wp2_with (first | (refine wpList_load_mid rfl 163 (.tmp 10) rfl b (o + k * 6) rfl (flC f) _ HB.out.2.1 Tryz.underlying163 rfl (sizeFl f) ?_) | (refine wpList_alloc_new rfl 163 rfl 6 _ zeroFl ?_; intro w4 b4 s4 l4) | (refine wpList_store_blk rfl 163 163 (.tmp 5) _ rfl _ rfl _ (flC f) rfl b4 rfl (sizeFl f) (flC_one f) ?_; intro w5 b5 s5 k5; have c1 : w5.cell? ⟨wr.heap.size, 1, none⟩ = some (.int .i64 f.k) := b5.cell 1))
    have R : Hid (Below w.heap.size w w5) := below_chain HB.out.1 (below_kept l4 k5 (by omega) (fun j hj => by omega)) HB.out.1.size
    clear b4 s4 l4 b5 s5 k5 c1
    go_ret
    exact ⟨ret_int HF.out.symm, R.out⟩
   ·have h3' : (f.k == 3) = false := by simp [h3]
    rcases (show f.k = 4 ∨ f.k ≠ 4 by omega) with h4 | h4
    ·have h4' : (f.k == 4) = true := by simp [h4]
     have HF : Hid ((fs.take (k + 1)).any (fun f => f.k == 3) = false ∧ (if (fs.take (k + 1)).any (fun f => f.k == 4) then (2 : Int) else 0) = 2) := ⟨by rw [take_any_succ HB.out.2.2.2.2, HB.out.2.2.1, HB.out.2.2.2.1, h3']; rfl, by rw [take_any_succ HB.out.2.2.2.2, HB.out.2.2.2.1, h4', Bool.or_true]; rfl⟩
     clear h3 h4
     go_wp2_with (first | (refine wpList_load_mid rfl 163 (.tmp 10) rfl b (o + k * 6) rfl (flC f) _ HB.out.2.1 Tryz.underlying163 rfl (sizeFl f) ?_) | (refine wpList_alloc_new rfl 163 rfl 6 _ zeroFl ?_; intro w4 b4 s4 l4) | (refine wpList_store_blk rfl 163 163 (.tmp 5) _ rfl _ rfl _ (flC f) rfl b4 rfl (sizeFl f) (flC_one f) ?_; intro w5 b5 s5 k5; have c1 : w5.cell? ⟨wr.heap.size, 1, none⟩ = some (.int .i64 f.k) := b5.cell 1))
     have R : Hid (Below w.heap.size w w5) := below_chain HB.out.1 (below_kept l4 k5 (by omega) (fun j hj => by omega)) HB.out.1.size
     clear b4 s4 l4 b5 s5 k5 c1
     go_roundw
     case rel => exact ⟨k + 1, by omega, by go_num, R.out, HF.out.1, by rw [HF.out.2]⟩
     case measure => simp [intOf] <;> omega
    ·have h4' : (f.k == 4) = false := by simp [h4]
     have HF : Hid ((fs.take (k + 1)).any (fun f => f.k == 3) = false ∧ (if (fs.take (k + 1)).any (fun f => f.k == 4) then (2 : Int) else 0) = pw) := ⟨by rw [take_any_succ HB.out.2.2.2.2, HB.out.2.2.1, HB.out.2.2.2.1, h3']; rfl, by rw [take_any_succ HB.out.2.2.2.2, HB.out.2.2.2.1, h4', Bool.or_false]; exact HP.out⟩
     clear h3 h4
     go_wp2_with (first | (refine wpList_load_mid rfl 163 (.tmp 10) rfl b (o + k * 6) rfl (flC f) _ HB.out.2.1 Tryz.underlying163 rfl (sizeFl f) ?_) | (refine wpList_alloc_new rfl 163 rfl 6 _ zeroFl ?_; intro w4 b4 s4 l4) | (refine wpList_store_blk rfl 163 163 (.tmp 5) _ rfl _ rfl _ (flC f) rfl b4 rfl (sizeFl f) (flC_one f) ?_; intro w5 b5 s5 k5; have c1 : w5.cell? ⟨wr.heap.size, 1, none⟩ = some (.int .i64 f.k) := b5.cell 1))
     have R : Hid (Below w.heap.size w w5) := below_chain HB.out.1 (below_kept l4 k5 (by omega) (fun j hj => by omega)) HB.out.1.size
     clear b4 s4 l4 b5 s5 k5 c1
     go_roundw
     case rel => exact ⟨k + 1, by omega, by go_num, R.out, HF.out.1, by rw [HF.out.2]⟩
     case measure => simp [intOf] <;> omega
  ·obtain rfl : k = n := by omega
   have HF : Hid (powL fs = pw ∧ Below w.heap.size w wr) := ⟨by
    have e := HN.out
    rw [List.take_of_length_le (by omega)] at hall
    have p := HP.out
    rw [List.take_of_length_le (by omega)] at p
    unfold powL
    rw [hall, p]; rfl, hbel⟩
   clear hbel hall hk
   go_wp2
   go_ret
   exact ⟨ret_int HF.out.1.symm, HF.out.2⟩
end Go.Proofs.YtpanagghppdiiaaGreat
