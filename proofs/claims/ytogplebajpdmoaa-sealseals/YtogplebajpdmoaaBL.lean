/- Joined texts: LPlain LFill LCode LSeal LUncov LOpen LPeek LWorks LCase LCaseIn. -/
import Derived.Test.YtogplebajpdmoaaBS
import Derived.Test.YtogplebajpdmoaaBU
import Derived.Laws.Cover3
import Derived.Lib.SliceRun
import Derived.WalkMore
import Derived.ScopeJumps
import Derived.ProofKit
import Derived.OpenShut
import Derived.ShutString
import Derived.ChangeOld
import Derived.SizedLaws
/- Layer seal, plain: what fills up, the tag key, the tag of a cover, the box of a text. -/
namespace Go.Proofs.Ytogplebajpdmoaa
open Go.RowKit
set_option linter.unusedVariables false
set_option linter.unusedSimpArgs false

def fillN (n : Nat) : Nat := (16 - n % 16) % 16
def fillL (n : Nat) : List Int := List.replicate (fillN n) 0
theorem fillL_length (n : Nat) : (fillL n).length = fillN n := by simp [fillL]
theorem fillN_lt (n : Nat) : fillN n < 16 := by unfold fillN; omega
theorem rep0_bytes (n : Nat) : Bytes (List.replicate n 0) := fun z hz => by rw [List.eq_of_mem_replicate hz]; decide
theorem fillL_bytes (n : Nat) : Bytes (fillL n) := rep0_bytes _
/-- The key of a tag. -/
def tagKey (key nonce : List Int) : List Int := (blkB key 0 nonce).take 32
theorem tagKey_length (key nonce : List Int) : (tagKey key nonce).length = 32 := by rw [tagKey, List.length_take, blkB_length]; rfl
theorem tagKey_bytes (key nonce : List Int) : Bytes (tagKey key nonce) := bytes_take (blkB_bytes _ _ _) _
/-- What a tag vouches for. -/
def ends8 (a b : Nat) : List Int := leB 8 (a : Int) ++ leB 8 (b : Int)
def vouched (more cover : List Int) : List Int := ([more, fillL more.length, cover, fillL cover.length, ends8 more.length cover.length] : List (List Int)).flatten
/-- The tag of a cover. -/
def codeL (key nonce more cover : List Int) : List Int := tagB (tagKey key nonce) (vouched more cover)
theorem codeL_length (key nonce more cover : List Int) : (codeL key nonce more cover).length = 16 := tagB_length _ _
theorem codeL_bytes (key nonce more cover : List Int) : Bytes (codeL key nonce more cover) := tagB_bytes _ _
/-- The cover and the box of a text. -/
def coverL (key nonce zs : List Int) : List Int := over key nonce 64 zs
theorem coverL_length (key nonce zs : List Int) : (coverL key nonce zs).length = zs.length := over_length _ _ _ _
theorem coverL_bytes (key nonce : List Int) {zs : List Int} (h : Bytes zs) : Bytes (coverL key nonce zs) := over_bytes _ _ _ _ h
theorem cover_cover (key nonce : List Int) {zs : List Int} (h : Bytes zs) : coverL key nonce (coverL key nonce zs) = zs := over_over _ _ _ _ h
def boxL (key nonce more zs : List Int) : List Int := coverL key nonce zs ++ codeL key nonce more (coverL key nonce zs)
theorem boxL_length (key nonce more zs : List Int) : (boxL key nonce more zs).length = zs.length + 16 := by rw [boxL, List.length_append, coverL_length, codeL_length]
theorem boxL_bytes (key nonce more : List Int) {zs : List Int} (h : Bytes zs) : Bytes (boxL key nonce more zs) := bytes_app (coverL_bytes _ _ h) (codeL_bytes _ _ _ _)
theorem boxL_front (key nonce more zs : List Int) : (boxL key nonce more zs).take zs.length = coverL key nonce zs := by
  rw [boxL, List.take_append_of_le_length (by rw [coverL_length]; exact Nat.le_refl _), List.take_of_length_le (by rw [coverL_length]; exact Nat.le_refl _)]
theorem boxL_back (key nonce more zs : List Int) : (boxL key nonce more zs).drop zs.length = codeL key nonce more (coverL key nonce zs) := by
  have h := List.drop_left (l₁ := coverL key nonce zs) (l₂ := codeL key nonce more (coverL key nonce zs))
  rwa [coverL_length] at h
/-- Does a box open? -/
def opensL (key nonce more box : List Int) : Bool := decide (codeL key nonce more (box.take (box.length - 16)) = box.drop (box.length - 16))
/-- The text under a cover. -/
def textL (key nonce box : List Int) : List Int := coverL key nonce (box.take (box.length - 16))
theorem textL_length (key nonce box : List Int) : (textL key nonce box).length = box.length - 16 := by rw [textL, coverL_length, List.length_take]; omega
theorem textL_bytes (key nonce : List Int) {box : List Int} (h : Bytes box) : Bytes (textL key nonce box) := coverL_bytes _ _ (bytes_take h _)
theorem opens_box (key nonce more : List Int) {zs : List Int} : opensL key nonce more (boxL key nonce more zs) = true := by
  rw [opensL, boxL_length, Nat.add_sub_cancel, boxL_front, boxL_back]; simp
theorem text_box (key nonce more : List Int) {zs : List Int} (h : Bytes zs) : textL key nonce (boxL key nonce more zs) = zs := by
  rw [textL, boxL_length, Nat.add_sub_cancel, boxL_front, cover_cover _ _ h]
/-- What opens is the box of the text that it opens as. -/
theorem box_text (key nonce more : List Int) {box : List Int} (h : Bytes box) (ho : opensL key nonce more box = true) : boxL key nonce more (textL key nonce box) = box := by
  have e : coverL key nonce (textL key nonce box) = box.take (box.length - 16) := cover_cover _ _ (bytes_take h _)
  rw [boxL, e]
  rw [opensL, decide_eq_true_eq] at ho
  rw [ho, List.take_append_drop]
end Go.Proofs.Ytogplebajpdmoaa

/- Layer seal: filler, laidOver. -/
namespace Go.Proofs.Ytogplebajpdmoaa
open Go.RowKit
set_option linter.unusedVariables false
set_option linter.unusedSimpArgs false

theorem madeZ (n : Nat) : (madeCells #[Value.int .u8 0] n) = (u8s (List.replicate n 0)).toArray := by
  apply Array.ext'
  rw [toList_madeCells_one]
  simp [u8s]
set_option maxRecDepth 20000 in
theorem filler_any (ao : Option Addr) (n c : Nat) (hn : n ≤ 140737488355328) (w : World) :
    Calls Try.prog 90 #[.slice ao n c] w fun e w' => ∃ v, e = .returned v ∧ isS (fillL n) v w' ∧ Below w.heap.size w w' := by
  obtain ⟨i0, hi, hz0, hz1, hz2⟩ := info_parts info_byte
  obtain ⟨R, hR⟩ : ∃ R, n % 16 = R := ⟨_, rfl⟩
  obtain ⟨K, hK⟩ : ∃ K, fillN n = K := ⟨_, rfl⟩
  have hR16 : R < 16 := by omega
  have hK2 : (16 - R) % 16 = K := by rw [← hK, fillN, hR]
  have hK16 : K < 16 := by omega
  have n1 : (n : Int).tmod 16 = (R : Int) := by rw [Int.tmod_eq_emod_of_nonneg (by omega)]; omega
  have n2 : (n : Int) % 16 = (R : Int) := by omega
  have n3 : (16 - (R : Int)).tmod 16 = (K : Int) := by rw [Int.tmod_eq_emod_of_nonneg (by omega)]; omega
  have n4 : (16 - (R : Int)) % 16 = (K : Int) := by omega
  have hmk := run_make (P := Try.prog) w 31 5 i0 (.int .u8 0) Try.underlying31 hi hz0 .i64 .i64 (K : Int) (K : Int) (by omega) (Int.le_refl _) (by rw [hz2]; omega) (by omega)
  rw [hz1, show ((K : Int).toNat) = K by omega, Nat.mul_one, show (Value.int .u8 0).cells = #[.int .u8 0] from rfl, madeZ] at hmk
  obtain ⟨w1, hw1, HB⟩ : ∃ w1, w.alloc (.cells (u8s (List.replicate K 0)).toArray 5) = w1 ∧ Hid (Blk w1 w.heap.size 5 (u8s (List.replicate K 0)) ∧ Below w.heap.size w w1) := ⟨_, rfl, ⟨heap_alloc_new w _, (Below.refl _ _).alloc (Nat.le_refl _) _⟩⟩
  rw [hw1] at hmk
  have HE : Hid (fillL n = List.replicate K 0) := by show _ = _; rw [fillL, hK]
  clear hw1 hi hz0 hz1 hz2 hR hK hK2
  go_enter Try.func90, Try.ntmps90
  go_wp2
  go_ret
  refine ⟨_, rfl, ⟨_, _, _, rfl, ?_, Nat.le_refl _⟩, HB.out.2⟩
  rw [HE.out]
  have := seen_blk HB.out.1 (rep0_bytes K) (by simp; omega)
  simpa using this
set_option maxRecDepth 20000 in
set_option maxHeartbeats 1000000 in
theorem laidOver_any (key nonce : List Int) (n c : Nat) (ao : Option Addr) (zs : List Int) (hk : key.length = 32) (hno : nonce.length = 12) (hkb : Bytes key) (hnb : Bytes nonce) (hc : n ≤ 274877906880) (w : World) (hx : Seen w ao n zs) :
    Calls Try.prog 53 #[.agg (u8s key).toArray, .agg (u8s nonce).toArray, .slice ao n c] w fun e w' => ∃ v, e = .returned v ∧ w'.ownsRow w.heap.size 5 1 v n ((coverL key nonce zs).map (Value.int .u8)) ∧ Below w.heap.size w w' := by
  have HX : Hid (Seen w ao n zs) := hx
  clear hx
  have HS : Hid (key.length = 32 ∧ nonce.length = 12 ∧ Bytes key ∧ Bytes nonce) := ⟨hk, hno, hkb, hnb⟩
  clear hk hno hkb hnb
  go_enter Try.func53, Try.ntmps53
  go_wp2_with (first | (refine wpList_box_new rfl 30 _ rfl (u8s key) rfl ?_; intro w1 b1 s1 l1) | (refine wpList_box_new rfl 25 _ rfl (u8s nonce) rfl ?_; intro w2 b2 s2 l2) | (refine wpList_load_blk rfl 30 _ rfl _ rfl (u8s key) _ (by first | exact b1.later l2 (by omega)) Try.underlying30 rfl (by rw [u8s_length, HS.out.1]; exact sizeKey) ?_) | (refine wpList_load_blk rfl 25 _ rfl _ rfl (u8s nonce) _ (by first | exact b2 | (rw [← s1]; exact b2)) Try.underlying25 rfl (by rw [u8s_length, HS.out.2.1]; exact sizeNonce) ?_) | (go_at_call 42; refine (xor_any key nonce 1 n c ao zs HS.out.1 HS.out.2.1 HS.out.2.2.1 HS.out.2.2.2 (by decide) (by omega) _ (HX.out.later (below_chain l1 l2 (by omega)) (Nat.le_refl _))).mono ?_; rintro e w3 ⟨v, rfl, o3, l3⟩; have HO : Hid (w3.ownsRow w.heap.size 5 1 v n ((coverL key nonce zs).map (Value.int .u8)) ∧ Below w.heap.size w w3) := ⟨ownsRow_base o3 (by omega), below_chain (below_chain l1 l2 (by omega)) l3 (by omega)⟩; clear o3 l3 b1 s1 l1 b2 s2 l2))
  go_ret
  exact ⟨_, rfl, HO.out⟩
end Go.Proofs.Ytogplebajpdmoaa

/- Layer seal: codeOf. -/
namespace Go.Proofs.Ytogplebajpdmoaa
open Go.RowKit
set_option linter.unusedVariables false
set_option linter.unusedSimpArgs false

theorem arrKey (ao : Option Addr) (n c : Nat) (hn : 32 ≤ n) (w : World) : (Instr.arrayAt 30 (.slice ao n c)).run Try.prog w = .ok (.pointer ao) w := run_arrayAt w 30 5 32 ao n c Try.underlying30 hn
theorem sizeA64b : (Try.prog.info? 68).map (·.size) = some 64 := by kernel_rfl
set_option maxRecDepth 20000 in
set_option maxHeartbeats 1000000 in
theorem codeOf_any (key nonce : List Int) (n c m d : Nat) (ao bo : Option Addr) (ms zs : List Int) (hk : key.length = 32) (hno : nonce.length = 12) (hkb : Bytes key) (hnb : Bytes nonce) (w : World) (hx : Seen w ao n ms) (hy : Seen w bo m zs) (hc : n ≤ c) (hd : m ≤ d) :
    Calls Try.prog 54 #[.agg (u8s key).toArray, .agg (u8s nonce).toArray, .slice ao n c, .slice bo m d] w fun e w' => e = .returned (.agg (u8s (codeL key nonce ms zs)).toArray) ∧ Below w.heap.size w w' := by
  have HX : Hid (Seen w ao n ms ∧ Seen w bo m zs ∧ n ≤ c ∧ m ≤ d) := ⟨hx, hy, hc, hd⟩
  have HS : Hid (key.length = 32 ∧ nonce.length = 12 ∧ Bytes key ∧ Bytes nonce) := ⟨hk, hno, hkb, hnb⟩
  have t1 := hx.top
  have t2 := hy.top
  have e1 : ms.length = n := hx.len
  have e2 : zs.length = m := hy.len
  obtain ⟨B, hB⟩ : ∃ B, blkB key 0 nonce = B := ⟨_, rfl⟩
  obtain ⟨TK, hTK⟩ : ∃ T, tagKey key nonce = T := ⟨_, rfl⟩
  obtain ⟨CL, hCL⟩ : ∃ C, codeL key nonce ms zs = C := ⟨_, rfl⟩
  have HB : Hid (blkB key 0 nonce = B ∧ B.length = 64 ∧ u8s B = u8s TK ++ u8s (B.drop 32) ∧ TK.length = 32 ∧ Bytes TK ∧ CL.length = 16 ∧ tagB TK ([ms, fillL n, zs, fillL m, ends8 n m] : List (List Int)).flatten = CL) := by
    refine ⟨hB, by rw [← hB, blkB_length], ?_, by rw [← hTK, tagKey_length], by rw [← hTK]; exact tagKey_bytes _ _, by rw [← hCL, codeL_length], ?_⟩
    · rw [← hTK, tagKey, hB, u8s, u8s, u8s, ← List.map_append, List.take_append_drop]
    · rw [← hCL, codeL, hTK, vouched, e1, e2]
  rw [hCL]
  clear hx hy hk hno hkb hnb hB hTK hCL e1 e2 hc hd
  have v1 : IntKind.u64.wrap (n : Int) = (n : Int) := by simp only [IntKind.wrap, IntKind.bits, IntKind.signed]; simp; omega
  have v2 : IntKind.u64.wrap (m : Int) = (m : Int) := by simp only [IntKind.wrap, IntKind.bits, IntKind.signed]; simp; omega
  go_enter Try.func54, Try.ntmps54
  go_wp2_with (first | (refine wpList_box_new rfl 30 _ rfl (u8s key) rfl ?_; intro w1 b1 s1 l1) | (refine wpList_box_new rfl 25 _ rfl (u8s nonce) rfl ?_; intro w2 b2 s2 l2) | (refine wpList_alloc_new rfl 47 rfl 16 _ zeroTag ?_; intro w3 b3 s3 l3; have K3 : Hid (Blk w3 w.heap.size 30 (u8s key) ∧ Blk w3 w1.heap.size 25 (u8s nonce)) := ⟨(b1.later l2 (by omega)).later l3 (by omega), b2.later l3 (by omega)⟩) | (refine wpList_load_blk rfl 30 _ rfl _ rfl (u8s key) _ K3.out.1 Try.underlying30 rfl (by rw [u8s_length, HS.out.1]; exact sizeKey) ?_) | (refine wpList_load_blk rfl 25 _ rfl _ rfl (u8s nonce) _ (by first | exact K3.out.2 | (rw [← s1]; exact K3.out.2)) Try.underlying25 rfl (by rw [u8s_length, HS.out.2.1]; exact sizeNonce) ?_) | (go_at_call 37; refine (block_any key 0 nonce HS.out.1 HS.out.2.1 HS.out.2.2.1 HS.out.2.2.2 _).mono ?_; rintro e w4 ⟨rfl, l4⟩; rw [HB.out.1]) | (refine wpList_alloc_new rfl 68 rfl 64 _ zero64b ?_; intro w5 b5 s5 l5) | (refine wpList_store_blk rfl 68 68 _ _ rfl _ rfl _ (u8s B) rfl b5 (by rw [u8s_length, u8s_length, HB.out.2.1]; rfl) (by rw [u8s_length, HB.out.2.1]; exact sizeA64b) (u8s_one _) ?_; intro w6 b6 s6 k6))
  have q4 := l4.size
  obtain ⟨G, hG⟩ : ∃ G, w4.heap.size = G := ⟨_, rfl⟩
  try simp only [Act.put, List.setIfInBounds_toArray, List.set_cons_zero, List.set_cons_succ]
  rw [hG] at b6 k6 ⊢
  have H6 : Hid (Blk w6 G 68 (u8s B) ∧ Blk w6 (w.heap.size + 1 + 1) 47 (u8s (zs0 16)) ∧ Below w.heap.size w w6 ∧ w.heap.size + 1 + 1 < G) := by
    rw [s2, s1] at b3
    exact ⟨b6, ((b3.later l4 (by omega)).later l5 (by omega)).kept k6 (by omega), below_kept (below_chain (below_chain (below_chain (below_chain l1 l2 (by omega)) l3 (by omega)) l4 (by omega)) l5 (by omega)) k6 (by omega) (fun j hj => by omega), by omega⟩
  clear b1 s1 l1 b2 s2 l2 b3 s3 l3 l4 b5 s5 l5 b6 s6 k6 hG q4 K3
  refine (put_64 none 0 0 [] (n : Int) w6 (Seen.empty _ _) (fun _ => rfl) (by decide) (by omega)).mono ?_
  rintro e w7 ⟨v7, rfl, o7, l7⟩
  obtain ⟨p7, c7, rfl, d7, _⟩ := own_seen (by simp [leB_length]) (bytes_app (fun z hz => by cases hz) (leB_bytes _ _)) (by decide) o7
  have z7 : p7 = none → c7 = 0 := fun h => by
    obtain ⟨b, o, e, _⟩ := d7.cells (by decide)
    rw [h] at e; cases e
  have H7 : Hid (Blk w7 G 68 (u8s B) ∧ Blk w7 (w.heap.size + 1 + 1) 47 (u8s (zs0 16)) ∧ Below w.heap.size w w7 ∧ Seen w7 p7 (0 + 8) ([] ++ leB 8 n) ∧ w.heap.size + 1 + 1 < G) := ⟨H6.out.1.later l7 H6.out.1.lt, H6.out.2.1.later l7 H6.out.2.1.lt, below_chain H6.out.2.2.1 l7 H6.out.2.2.1.size, d7, H6.out.2.2.2⟩
  clear o7 l7 d7 H6
  go_wp2_with fail
  refine (put_64 p7 (0 + 8) c7 _ (m : Int) w7 H7.out.2.2.2.1 z7 (by decide) (by omega)).mono ?_
  rintro e w8 ⟨v8, rfl, o8, l8⟩
  have b8 : Bytes (([] ++ leB 8 (n : Int)) ++ leB 8 (m : Int)) := bytes_app (bytes_app (fun z hz => by cases hz) (leB_bytes _ _)) (leB_bytes _ _)
  have e8 : (([] ++ leB 8 (n : Int)) ++ leB 8 (m : Int) : List Int).length = 0 + 8 + 8 := by simp [leB_length]
  rw [← e8] at o8
  obtain ⟨po8, c8, rfl, d8, hc8, _⟩ := own_data b8 (by rw [e8]; decide) o8
  rw [e8] at d8 hc8
  have H8 : Hid (Blk w8 G 68 (u8s B) ∧ Blk w8 (w.heap.size + 1 + 1) 47 (u8s (zs0 16)) ∧ Below w.heap.size w w8 ∧ Seen w8 po8 16 (ends8 n m) ∧ 16 ≤ c8 ∧ Seen w8 ao n ms ∧ Seen w8 bo m zs) := by
    have L8 := below_chain H7.out.2.2.1 l8 H7.out.2.2.1.size
    refine ⟨H7.out.1.later l8 H7.out.1.lt, H7.out.2.1.later l8 H7.out.2.1.lt, L8, ?_, hc8, HX.out.1.later L8 (Nat.le_refl _), HX.out.2.1.later L8 (Nat.le_refl _)⟩
    simpa [ends8] using d8
  rw [e8]
  clear o8 l8 d8 hc8 H7 b8 e8 z7
  go_wp2_with fail
  try simp only [Act.put, List.setIfInBounds_toArray, List.set_cons_zero, List.set_cons_succ]
  refine region_inv [.val (.slice (some ⟨G, 0, none⟩) 32 64), .val (.pointer (some ⟨G, 0, none⟩)), .val (.agg (u8s TK).toArray), .val (.slice ao n c), .val (.slice ao n c), .any (isS (fillL n)) (isS_later _), .val (.slice bo m d), .val (.slice bo m d), .any (isS (fillL m)) (isS_later _), .val (.slice po8 16 c8), .any (isP 5 [ms, fillL n, zs, fillL m, ends8 n m]) (isP_later _ _), .val (.agg (u8s CL).toArray)] (by kernel_rfl) (by kernel_rfl) (by kernel_rfl) ?_ ?_
  · refine Steps'.cons ?_ (Steps'.cons ?_ (Steps'.cons ?_ (Steps'.cons ?_ (Steps'.cons ?_ (Steps'.cons ?_ (Steps'.cons ?_ (Steps'.cons ?_ (Steps'.cons ?_ (Steps'.cons ?_ (Steps'.cons ?_ (Steps'.cons ?_ (Steps'.one _ _ _ _ _ _ _))))))))))))
    · intro ax wx hb hs hd
      have h9 : ax.tmps.getD 9 undef = (.pointer (some ⟨G, 0, none⟩)) := hs 9 (by kernel_rfl)
      refine Does.value (.slice (some ⟨G, 0, none⟩) 32 64) ?_ rfl
      go_simp
    · intro ax wx hb hs hd
      have h22 : ax.tmps.getD 22 undef = (.slice (some ⟨G, 0, none⟩) 32 64) := hd 0 22 rfl (by kernel_rfl) (by decide)
      have hat := arrKey (some ⟨G, 0, none⟩) 32 64 (Nat.le_refl _) wx
      refine Does.value (.pointer (some ⟨G, 0, none⟩)) ?_ rfl
      go_simp
    · intro ax wx hb hs hd
      have h23 : ax.tmps.getD 23 undef = (.pointer (some ⟨G, 0, none⟩)) := hd 1 23 rfl (by kernel_rfl) (by decide)
      exact Does.load 30 (.tmp 23) rfl G 0 h23 (u8s TK) _ (by have q := H8.out.1.later hb H8.out.1.lt; rw [HB.out.2.2.1] at q; exact Blk.range (xs := []) (ys := u8s TK) q) Try.underlying30 rfl (by rw [u8s_length, HB.out.2.2.2.1]; exact sizeKey)
    · intro ax wx hb hs hd
      have h2 : ax.tmps.getD 2 undef = (.slice ao n c) := hs 2 (by kernel_rfl)
      refine Does.value (.slice ao n c) ?_ rfl
      go_simp
    · intro ax wx hb hs hd
      have h2 : ax.tmps.getD 2 undef = (.slice ao n c) := hs 2 (by kernel_rfl)
      refine Does.value (.slice ao n c) ?_ rfl
      go_simp
    · intro ax wx hb hs hd
      have h26 : ax.tmps.getD 26 undef = (.slice ao n c) := hd 4 26 rfl (by kernel_rfl) (by decide)
      refine Does.call 90 #[(.slice ao n c)] (by go_simp) ?_
      exact filler_any _ _ _ t1 wx
    · intro ax wx hb hs hd
      have h3 : ax.tmps.getD 3 undef = (.slice bo m d) := hs 3 (by kernel_rfl)
      refine Does.value (.slice bo m d) ?_ rfl
      go_simp
    · intro ax wx hb hs hd
      have h3 : ax.tmps.getD 3 undef = (.slice bo m d) := hs 3 (by kernel_rfl)
      refine Does.value (.slice bo m d) ?_ rfl
      go_simp
    · intro ax wx hb hs hd
      have h29 : ax.tmps.getD 29 undef = (.slice bo m d) := hd 7 29 rfl (by kernel_rfl) (by decide)
      refine Does.call 90 #[(.slice bo m d)] (by go_simp) ?_
      exact filler_any _ _ _ t2 wx
    · intro ax wx hb hs hd
      have h10 : ax.tmps.getD 10 undef = (.slice po8 16 c8) := hs 10 (by kernel_rfl)
      refine Does.value (.slice po8 16 c8) ?_ rfl
      go_simp
    · intro ax wx hb hs hd
      have h25 : ax.tmps.getD 25 undef = (.slice ao n c) := hd 3 25 rfl (by kernel_rfl) (by decide)
      have h28 : ax.tmps.getD 28 undef = (.slice bo m d) := hd 6 28 rfl (by kernel_rfl) (by decide)
      have h31 : ax.tmps.getD 31 undef = (.slice po8 16 c8) := hd 9 31 rfl (by kernel_rfl) (by decide)
      obtain ⟨x1, n1, c1, h27, s27, q27⟩ : isS (fillL n) (ax.tmps.getD 27 undef) wx := hd 5 27 rfl (by kernel_rfl) (by decide)
      obtain ⟨x2, n2, c2, h30, s30, q30⟩ : isS (fillL m) (ax.tmps.getD 30 undef) wx := hd 8 30 rfl (by kernel_rfl) (by decide)
      exact Does.rows5 _ rfl _ _ _ _ _ _ _ _ _ _ _ _ _ _ _ _ _ _ _ _ (by simp only [List.map_toArray, List.map_cons, List.map_nil, Act.eval, h25, h27, h28, h30, h31]) ⟨H8.out.2.2.2.2.2.1.later hb (Nat.le_refl _), HX.out.2.2.1⟩ ⟨s27, q27⟩ ⟨H8.out.2.2.2.2.2.2.later hb (Nat.le_refl _), HX.out.2.2.2⟩ ⟨s30, q30⟩ ⟨H8.out.2.2.2.1.later hb (Nat.le_refl _), H8.out.2.2.2.2.1⟩
    · intro ax wx hb hs hd
      have h24 : ax.tmps.getD 24 undef = (.agg (u8s TK).toArray) := hd 2 24 rfl (by kernel_rfl) (by decide)
      obtain ⟨b, c', h32, s32⟩ : isP 5 [ms, fillL n, zs, fillL m, ends8 n m] (ax.tmps.getD 32 undef) wx := hd 10 32 rfl (by kernel_rfl) (by decide)
      refine Does.call 28 #[(.agg (u8s TK).toArray), .slice (some ⟨b, 0, none⟩) 5 c'] (by go_simp) ?_
      have q := tsum_any TK HB.out.2.2.2.1 HB.out.2.2.2.2.1 _ 5 c' _ wx s32 (by decide)
      rw [HB.out.2.2.2.2.2.2] at q
      refine q.mono ?_
      rintro e w' ⟨rfl, l⟩
      exact ⟨_, rfl, rfl, l⟩
  · intro wx hb
    refine @Ends.val _ _ _ _ _ _ _ _ _ (.slice (some ⟨G, 0, none⟩) 32 64) rfl ?_
    refine @Ends.val _ _ _ _ _ _ _ _ _ (.pointer (some ⟨G, 0, none⟩)) rfl ?_
    refine @Ends.val _ _ _ _ _ _ _ _ _ (.agg (u8s TK).toArray) rfl ?_
    refine @Ends.val _ _ _ _ _ _ _ _ _ (.slice ao n c) rfl ?_
    refine @Ends.val _ _ _ _ _ _ _ _ _ (.slice ao n c) rfl ?_
    refine @Ends.any _ _ _ _ _ _ _ _ _ (isS (fillL n)) (isS_later _) rfl ?_
    intro v5 p5
    refine @Ends.val _ _ _ _ _ _ _ _ _ (.slice bo m d) rfl ?_
    refine @Ends.val _ _ _ _ _ _ _ _ _ (.slice bo m d) rfl ?_
    refine @Ends.any _ _ _ _ _ _ _ _ _ (isS (fillL m)) (isS_later _) rfl ?_
    intro v8 p8
    refine @Ends.val _ _ _ _ _ _ _ _ _ (.slice po8 16 c8) rfl ?_
    refine @Ends.any _ _ _ _ _ _ _ _ _ (isP 5 [ms, fillL n, zs, fillL m, ends8 n m]) (isP_later _ _) rfl ?_
    intro v10 p10
    refine @Ends.val _ _ _ _ _ _ _ _ _ (.agg (u8s CL).toArray) rfl ?_
    refine @Ends.one _ _ _ _ _ _ _ ?_
    simp only [Act.put, List.setIfInBounds_toArray, List.set_cons_zero, List.set_cons_succ]
    have qT := H8.out.2.1
    refine last_store 47 (.tmp 8) (.tmp 33) rfl rfl _ rfl 47 _ (u8s CL) rfl (qT.later hb qT.lt) (by rw [u8s_length, HB.out.2.2.2.2.2.1]; rfl) (by rw [u8s_length, HB.out.2.2.2.2.2.1]; exact sizeTag) (u8s_one _) ?_
    intro w9 b9 s9 k9
    have L9 : Hid (Below w.heap.size w w9) := below_kept (below_chain H8.out.2.2.1 hb H8.out.2.2.1.size) k9 (below_chain H8.out.2.2.1 hb H8.out.2.2.1.size).size (fun j hj => by omega)
    clear k9 s9 hb
    go_wp2_with fail
    exact ret_blk rfl (w.heap.size + 1 + 1) (u8s CL) _ rfl b9 Try.underlying47 rfl (by rw [u8s_length, HB.out.2.2.2.2.2.1]; exact sizeTag) rfl ⟨rfl, L9.out⟩
end Go.Proofs.Ytogplebajpdmoaa

/- Layer seal: Seal, checkBox. -/
namespace Go.Proofs.Ytogplebajpdmoaa
open Go.RowKit
set_option linter.unusedVariables false
set_option linter.unusedSimpArgs false

set_option maxRecDepth 20000 in
set_option maxHeartbeats 1000000 in
theorem seal_any (key nonce : List Int) (n c m d : Nat) (ao bo : Option Addr) (ms zs : List Int) (hk : key.length = 32) (hno : nonce.length = 12) (hkb : Bytes key) (hnb : Bytes nonce) (hn : n ≤ 1048576) (hm : m ≤ 1048576) (w : World) (hx : Seen w ao n ms) (hy : Seen w bo m zs) (hc : n ≤ c) (hd : m ≤ d) :
    Calls Try.prog 19 #[.agg (u8s key).toArray, .agg (u8s nonce).toArray, .slice ao n c, .slice bo m d] w fun e w' => ∃ v, e = .returned (.tuple #[v, .int .i64 0]) ∧ w'.ownsRow w.heap.size 5 1 v (m + 16) ((boxL key nonce ms zs).map (Value.int .u8)) ∧ Below w.heap.size w w' := by
  have HX : Hid (Seen w ao n ms ∧ Seen w bo m zs ∧ n ≤ c ∧ m ≤ d) := ⟨hx, hy, hc, hd⟩
  have HS : Hid (key.length = 32 ∧ nonce.length = 12 ∧ Bytes key ∧ Bytes nonce) := ⟨hk, hno, hkb, hnb⟩
  obtain ⟨V, hV⟩ : ∃ C, coverL key nonce zs = C := ⟨_, rfl⟩
  obtain ⟨CL, hCL⟩ : ∃ C, codeL key nonce ms V = C := ⟨_, rfl⟩
  have HV : Hid (coverL key nonce zs = V ∧ V.length = m ∧ Bytes V ∧ codeL key nonce ms V = CL ∧ CL.length = 16 ∧ Bytes CL ∧ boxL key nonce ms zs = V ++ CL) :=
    ⟨hV, by rw [← hV, coverL_length, hy.len], by rw [← hV]; exact coverL_bytes _ _ hy.bytes, hCL, by rw [← hCL, codeL_length], by rw [← hCL]; exact codeL_bytes _ _ _ _, by rw [boxL, hV, hCL]⟩
  clear hx hy hk hno hkb hnb hc hd hV hCL
  have i1 : ¬ (1048576 : Int) < (n : Int) := by omega
  have i2 : ¬ (1048576 : Int) < (m : Int) := by omega
  go_enter Try.func19, Try.ntmps19
  go_wp2_with (first | (refine wpList_box_new rfl 30 _ rfl (u8s key) rfl ?_; intro w1 b1 s1 l1) | (refine wpList_box_new rfl 25 _ rfl (u8s nonce) rfl ?_; intro w2 b2 s2 l2) | (refine wpList_load_blk rfl 30 _ rfl _ rfl (u8s key) _ (by first | exact b1.later l2 (by omega)) Try.underlying30 rfl (by rw [u8s_length, HS.out.1]; exact sizeKey) ?_) | (refine wpList_load_blk rfl 25 _ rfl _ rfl (u8s nonce) _ (by first | exact b2 | (rw [← s1]; exact b2)) Try.underlying25 rfl (by rw [u8s_length, HS.out.2.1]; exact sizeNonce) ?_))
  refine (laidOver_any key nonce m d bo zs HS.out.1 HS.out.2.1 HS.out.2.2.1 HS.out.2.2.2 (by omega) _ (HX.out.2.1.later (below_chain l1 l2 (by omega)) (Nat.le_refl _))).mono ?_
  rintro e w3 ⟨v, rfl, o3, l3⟩
  have q3 := l3.size
  rw [HV.out.1] at o3
  have o3' := o3
  rw [← HV.out.2.1] at o3'
  obtain ⟨vo, cap, rfl, d3, hc3, _⟩ := own_data HV.out.2.2.1 (by rw [HV.out.2.1]; omega) o3'
  rw [HV.out.2.1] at d3 hc3 o3 ⊢
  have H3 : Hid (Blk w3 w.heap.size 30 (u8s key) ∧ Blk w3 w1.heap.size 25 (u8s nonce) ∧ Below w.heap.size w w3 ∧ Seen w3 vo m V ∧ m ≤ cap ∧ Seen w3 ao n ms ∧ w3.ownsRow w2.heap.size 5 1 (.slice vo m cap) m (V.map (Value.int .u8)) ∧ w.heap.size ≤ w2.heap.size ∧ w2.heap.size ≤ w3.heap.size) := by
    have L3 := below_chain (below_chain l1 l2 (by omega)) l3 (by omega)
    exact ⟨(b1.later l2 (by omega)).later l3 (by omega), b2.later l3 (by omega), L3, d3, hc3, HX.out.1.later L3 (Nat.le_refl _), o3, by omega, q3⟩
  clear o3 o3' d3 hc3 l3 b1 l1 b2 s2 l2 q3
  go_wp2_with (first | (refine wpList_load_blk rfl 30 _ rfl _ rfl (u8s key) _ H3.out.1 Try.underlying30 rfl (by rw [u8s_length, HS.out.1]; exact sizeKey) ?_) | (refine wpList_load_blk rfl 25 _ rfl _ rfl (u8s nonce) _ (by first | exact H3.out.2.1 | (rw [← s1]; exact H3.out.2.1)) Try.underlying25 rfl (by rw [u8s_length, HS.out.2.1]; exact sizeNonce) ?_))
  refine (codeOf_any key nonce n c m cap ao vo ms V HS.out.1 HS.out.2.1 HS.out.2.2.1 HS.out.2.2.2 _ H3.out.2.2.2.2.2.1 H3.out.2.2.2.1 HX.out.2.2.1 H3.out.2.2.2.2.1).mono ?_
  rintro e w4 ⟨rfl, l4⟩
  rw [HV.out.2.2.2.1]
  have q4 := l4.size
  go_wp2_with (first | (refine wpList_alloc_new rfl 47 rfl 16 _ zeroTag ?_; intro w5 b5 s5 l5) | (refine wpList_store_blk rfl 47 47 _ _ rfl _ rfl _ (u8s CL) rfl b5 (by rw [u8s_length, HV.out.2.2.2.2.1]; rfl) (by rw [u8s_length, HV.out.2.2.2.2.1]; exact sizeTag) (u8s_one _) ?_; intro w6 b6 s6 k6; have H6 : Hid (w6.ownsRow w2.heap.size 5 1 (.slice vo m cap) m (V.map (Value.int .u8)) ∧ Seen w6 (some ⟨w4.heap.size, 0, none⟩) 16 CL ∧ Below w.heap.size w w6 ∧ w2.heap.size ≤ w6.heap.size) := (by have L6 := below_kept (below_chain l4 l5 (by omega)) k6 (by omega) (fun j hj => by omega); have q := seen_blk b6 HV.out.2.2.2.2.2.1 (by rw [HV.out.2.2.2.2.1]; decide); rw [HV.out.2.2.2.2.1] at q; exact ⟨ownsRow_below H3.out.2.2.2.2.2.2.1 L6, q, below_chain H3.out.2.2.1 L6 H3.out.2.2.1.size, (by have := H3.out.2.2.2.2.2.2.2.2; omega)⟩)) | (at_builtin; refine wpList_append_seen rfl _ _ rfl w2.heap.size (.slice vo m cap) m _ rfl H6.out.1 (some ⟨w4.heap.size, 0, none⟩) 16 16 CL rfl H6.out.2.1 (fun h => by cases h) (by omega) H6.out.2.2.2 ?_; intro v7 w7 o7 g7))
  go_ret2
  refine ⟨_, rfl, ?_, ?_⟩
  · rw [HV.out.2.2.2.2.2.2, List.map_append]; exact ownsRow_base o7 H3.out.2.2.2.2.2.2.2.1
  · exact H6.out.2.2.1.grown g7 H6.out.2.2.1.size (fun j hj => Nat.le_trans H3.out.2.2.2.2.2.2.2.1 (H6.out.1.lt j hj).1)
set_option maxRecDepth 20000 in
set_option maxHeartbeats 1000000 in
theorem seal_bad (key nonce : List Int) (n c m d : Nat) (ao bo : Option Addr) (hn : n ≤ 140737488355328) (hm : m ≤ 140737488355328) (hb : 1048576 < n ∨ 1048576 < m) (w : World) :
    Calls Try.prog 19 #[.agg (u8s key).toArray, .agg (u8s nonce).toArray, .slice ao n c, .slice bo m d] w fun e w' => e = .returned (.tuple #[.slice none 0 0, .int .i64 3]) ∧ Below w.heap.size w w' := by
  by_cases h1 : 1048576 < n
  · have i1 : (1048576 : Int) < (n : Int) := by omega
    go_enter Try.func19, Try.ntmps19
    go_wp2_with (first | (refine wpList_box_new rfl 30 _ rfl (u8s key) rfl ?_; intro w1 b1 s1 l1) | (refine wpList_box_new rfl 25 _ rfl (u8s nonce) rfl ?_; intro w2 b2 s2 l2))
    go_ret2
    exact ⟨rfl, below_chain l1 l2 (by omega)⟩
  · have i1 : ¬ (1048576 : Int) < (n : Int) := by omega
    have i2 : (1048576 : Int) < (m : Int) := by omega
    go_enter Try.func19, Try.ntmps19
    go_wp2_with (first | (refine wpList_box_new rfl 30 _ rfl (u8s key) rfl ?_; intro w1 b1 s1 l1) | (refine wpList_box_new rfl 25 _ rfl (u8s nonce) rfl ?_; intro w2 b2 s2 l2))
    go_ret2
    exact ⟨rfl, below_chain l1 l2 (by omega)⟩
/-- What checkBox says. -/
def boxE (n m : Nat) : Int := if m < 16 then 4 else if 1048576 < n ∨ 1048592 < m then 3 else 0
theorem checkBox_any (ao bo : Option Addr) (n c m d : Nat) (hn : n ≤ 140737488355328) (hm : m ≤ 140737488355328) (w : World) :
    Calls Try.prog 58 #[.slice ao n c, .slice bo m d] w fun e w' => e = .returned (.int .i64 (boxE n m)) ∧ w = w' := by
  unfold boxE
  by_cases h1 : m < 16
  · rw [if_pos h1]
    have i1 : (m : Int) < 16 := by omega
    go_enter Try.func58, Try.ntmps58
    go_wp2
    go_ret
    exact ⟨rfl, rfl⟩
  · rw [if_neg h1]
    have i1 : ¬ (m : Int) < 16 := by omega
    by_cases h2 : 1048576 < n
    · rw [if_pos (.inl h2)]
      have i2 : (1048576 : Int) < (n : Int) := by omega
      go_enter Try.func58, Try.ntmps58
      go_wp2
      go_ret
      exact ⟨rfl, rfl⟩
    · have i2 : ¬ (1048576 : Int) < (n : Int) := by omega
      by_cases h3 : 1048592 < m
      · rw [if_pos (.inr h3)]
        have i3 : (1048592 : Int) < (m : Int) := by omega
        go_enter Try.func58, Try.ntmps58
        go_wp2
        go_ret
        exact ⟨rfl, rfl⟩
      · rw [if_neg (by omega)]
        have i3 : ¬ (1048592 : Int) < (m : Int) := by omega
        go_enter Try.func58, Try.ntmps58
        go_wp2
        go_ret
        exact ⟨rfl, rfl⟩
end Go.Proofs.Ytogplebajpdmoaa

/- Layer seal: uncovered. -/
namespace Go.Proofs.Ytogplebajpdmoaa
open Go.RowKit
set_option linter.unusedVariables false
set_option linter.unusedSimpArgs false

/-- A value that owns these bytes in new memory. -/
def isO (base n : Nat) (zs : List Int) (v : Value) (w : World) : Prop := w.ownsRow base 5 1 v n (zs.map (Value.int .u8))
theorem isO_later (base n : Nat) (zs : List Int) : ∀ v w w', Below w.heap.size w w' → isO base n zs v w → isO base n zs v w' := fun _ _ _ hb h => ownsRow_below h hb
theorem Blk.all {w : World} {g : Nat} {t : TypeId} {vs : List Value} (h : Blk w g t vs) : w.rangeAt g 0 vs := fun j v hv => by rw [Nat.zero_add, h.cell]; exact hv
set_option maxRecDepth 20000 in
set_option maxHeartbeats 1000000 in
theorem uncovered_any (key nonce : List Int) (n c m d : Nat) (ao bo : Option Addr) (ms zs : List Int) (hk : key.length = 32) (hno : nonce.length = 12) (hkb : Bytes key) (hnb : Bytes nonce) (h16 : 16 ≤ m) (hm : m ≤ 1048592) (w : World) (hx : Seen w ao n ms) (hy : Seen w bo m zs) (hc : n ≤ c) (hd : m ≤ d) :
    Calls Try.prog 59 #[.agg (u8s key).toArray, .agg (u8s nonce).toArray, .slice ao n c, .slice bo m d] w fun e w' => ∃ v, e = .returned (.tuple #[v, .int .u64 (mk (opensL key nonce ms zs))]) ∧ isO w.heap.size (m - 16) (textL key nonce zs) v w' ∧ Below w.heap.size w w' := by
  obtain ⟨M, rfl⟩ : ∃ M, m = M + 16 := ⟨m - 16, by omega⟩
  have hM : M ≤ 1048576 := by omega
  obtain ⟨CL, hCL⟩ : ∃ C, codeL key nonce ms (zs.take M) = C := ⟨_, rfl⟩
  obtain ⟨O, hO⟩ : ∃ b, opensL key nonce ms zs = b := ⟨_, rfl⟩
  obtain ⟨X, hX⟩ : ∃ X, textL key nonce zs = X := ⟨_, rfl⟩
  rw [hO, hX, Nat.add_sub_cancel]
  have hl := hy.len
  have SX : Hid (∀ W, Below w.heap.size w W → Seen W ao n ms ∧ Seen W (subA bo 0 d) M (zs.take M) ∧ Seen W (subA bo M d) 16 (zs.drop M)) := fun W hW => by
    have g1 := hy.sub 0 M d (Nat.zero_le _) (by omega) hd
    have g2 := hy.sub M (M + 16) d (by omega) (Nat.le_refl _) hd
    rw [Nat.sub_zero, List.drop_zero] at g1
    rw [Nat.add_sub_cancel_left, List.take_of_length_le (by rw [List.length_drop, hl]; omega)] at g2
    exact ⟨hx.later hW (Nat.le_refl _), g1.later hW (Nat.le_refl _), g2.later hW (Nat.le_refl _)⟩
  have HS : Hid (key.length = 32 ∧ nonce.length = 12 ∧ Bytes key ∧ Bytes nonce ∧ n ≤ c ∧ M ≤ d) := ⟨hk, hno, hkb, hnb, hc, by omega⟩
  have HV : Hid (codeL key nonce ms (zs.take M) = CL ∧ CL.length = 16 ∧ Bytes CL ∧ decide (CL = zs.drop M) = O ∧ coverL key nonce (zs.take M) = X) := by
    have e : zs.length - 16 = M := by rw [hl]; omega
    refine ⟨hCL, by rw [← hCL, codeL_length], by rw [← hCL]; exact codeL_bytes _ _ _ _, ?_, ?_⟩
    · rw [← hO, opensL, e, hCL]
    · rw [← hX, textL, e]
  have hsh : ∀ W, (Instr.sliceAt 31 (.slice bo (M + 16) d) none (some (.int .i64 (M : Int))) none).run Try.prog W = .ok (.slice (subA bo 0 d) M d) W := fun W => sl_h bo (M + 16) d M (by omega) W
  have hsl : ∀ W, (Instr.sliceAt 31 (.slice bo (M + 16) d) (some (.int .i64 (M : Int))) none none).run Try.prog W = .ok (.slice (subA bo M d) 16 (d - M)) W := fun W => by
    have := sl_l bo (M + 16) d M (by omega) W
    rwa [Nat.add_sub_cancel_left] at this
  have a1 : ((M + 16 : Nat) : Int) - 16 = (M : Int) := by omega
  have a2 : (M : Int) + 16 - 16 = (M : Int) := by omega
  have HD : Hid (M + 16 ≤ d) := hd
  clear hx hy hk hno hkb hnb hc hd hCL hO hX hl
  go_enter Try.func59, Try.ntmps59
  go_wp2_with (first | (refine wpList_box_new rfl 30 _ rfl (u8s key) rfl ?_; intro w1 b1 s1 l1) | (refine wpList_box_new rfl 25 _ rfl (u8s nonce) rfl ?_; intro w2 b2 s2 l2))
  have H2 : Hid (Blk w2 w.heap.size 30 (u8s key) ∧ Blk w2 (w.heap.size + 1) 25 (u8s nonce) ∧ Below w.heap.size w w2) := by
    rw [s1] at b2
    exact ⟨b1.later l2 (by omega), b2, below_chain l1 l2 (by omega)⟩
  clear b1 s1 l1 b2 s2 l2
  try simp only [Act.put, List.setIfInBounds_toArray, List.set_cons_zero, List.set_cons_succ]
  refine region_inv [.val (.agg (u8s key).toArray), .val (.agg (u8s nonce).toArray), .val (.slice ao n c), .val (.slice bo (M + 16) d), .val (.int .i64 (M : Int)), .val (.slice (subA bo 0 d) M d), .val (.agg (u8s CL).toArray), .blk 47 (u8s (zs0 16))] (by kernel_rfl) (by kernel_rfl) (by kernel_rfl) ?_ ?_
  · refine Steps'.cons ?_ (Steps'.cons ?_ (Steps'.cons ?_ (Steps'.cons ?_ (Steps'.cons ?_ (Steps'.cons ?_ (Steps'.cons ?_ (Steps'.cons ?_ (Steps'.one _ _ _ _ _ _ _))))))))
    · intro ax wx hb hs hd
      have h4 : ax.tmps.getD 4 undef = (.pointer (some ⟨w.heap.size, 0, none⟩)) := hs 4 (by kernel_rfl)
      exact Does.load 30 (.tmp 4) rfl w.heap.size 0 h4 (u8s key) _ ((H2.out.1.later hb H2.out.1.lt).all) Try.underlying30 rfl (by rw [u8s_length, HS.out.1]; exact sizeKey)
    · intro ax wx hb hs hd
      have h5 : ax.tmps.getD 5 undef = (.pointer (some ⟨(w.heap.size + 1), 0, none⟩)) := hs 5 (by kernel_rfl)
      exact Does.load 25 (.tmp 5) rfl (w.heap.size + 1) 0 h5 (u8s nonce) _ ((H2.out.2.1.later hb H2.out.2.1.lt).all) Try.underlying25 rfl (by rw [u8s_length, HS.out.2.1]; exact sizeNonce)
    · intro ax wx hb hs hd
      have h2 : ax.tmps.getD 2 undef = (.slice ao n c) := hs 2 (by kernel_rfl)
      refine Does.value (.slice ao n c) ?_ rfl
      go_simp
    · intro ax wx hb hs hd
      have h3 : ax.tmps.getD 3 undef = (.slice bo (M + 16) d) := hs 3 (by kernel_rfl)
      refine Does.value (.slice bo (M + 16) d) ?_ rfl
      go_simp
    · intro ax wx hb hs hd
      have h10 : ax.tmps.getD 10 undef = (.int .i64 (M : Int)) := hs 10 (by kernel_rfl)
      refine Does.value (.int .i64 (M : Int)) ?_ rfl
      go_simp
    · intro ax wx hb hs hd
      have h18 : ax.tmps.getD 18 undef = (.slice bo (M + 16) d) := hd 3 18 rfl (by kernel_rfl) (by decide)
      have h19 : ax.tmps.getD 19 undef = (.int .i64 (M : Int)) := hd 4 19 rfl (by kernel_rfl) (by decide)
      refine Does.value (.slice (subA bo 0 d) M d) ?_ rfl
      go_simp
    · intro ax wx hb hs hd
      have h15 : ax.tmps.getD 15 undef = (.agg (u8s key).toArray) := hd 0 15 rfl (by kernel_rfl) (by decide)
      have h16 : ax.tmps.getD 16 undef = (.agg (u8s nonce).toArray) := hd 1 16 rfl (by kernel_rfl) (by decide)
      have h17 : ax.tmps.getD 17 undef = (.slice ao n c) := hd 2 17 rfl (by kernel_rfl) (by decide)
      have h20 : ax.tmps.getD 20 undef = (.slice (subA bo 0 d) M d) := hd 5 20 rfl (by kernel_rfl) (by decide)
      refine Does.call 54 #[(.agg (u8s key).toArray), (.agg (u8s nonce).toArray), (.slice ao n c), (.slice (subA bo 0 d) M d)] (by go_simp) ?_
      have L := below_chain H2.out.2.2 hb H2.out.2.2.size
      have q := codeOf_any key nonce n c M d ao (subA bo 0 d) ms _ HS.out.1 HS.out.2.1 HS.out.2.2.1 HS.out.2.2.2.1 wx (SX.out wx L).1 (SX.out wx L).2.1 HS.out.2.2.2.2.1 HS.out.2.2.2.2.2
      rw [HV.out.1] at q
      refine q.mono ?_
      rintro e w' ⟨rfl, l⟩
      exact ⟨_, rfl, rfl, l⟩
    · intro ax wx hb hs hd
      exact Does.alloc 47 rfl 16 _ zeroTag hb.size
  · intro wx hb
    refine @Ends.val _ _ _ _ _ _ _ _ _ (.agg (u8s key).toArray) rfl ?_
    refine @Ends.val _ _ _ _ _ _ _ _ _ (.agg (u8s nonce).toArray) rfl ?_
    refine @Ends.val _ _ _ _ _ _ _ _ _ (.slice ao n c) rfl ?_
    refine @Ends.val _ _ _ _ _ _ _ _ _ (.slice bo (M + 16) d) rfl ?_
    refine @Ends.val _ _ _ _ _ _ _ _ _ (.int .i64 (M : Int)) rfl ?_
    refine @Ends.val _ _ _ _ _ _ _ _ _ (.slice (subA bo 0 d) M d) rfl ?_
    refine @Ends.val _ _ _ _ _ _ _ _ _ (.agg (u8s CL).toArray) rfl ?_
    refine @Ends.blk _ _ _ _ _ _ _ _ _ 47 (u8s (zs0 16)) rfl ?_
    intro g7 hg7 bg7
    refine @Ends.one _ _ _ _ _ _ _ ?_
    simp only [Act.put, List.setIfInBounds_toArray, List.set_cons_zero, List.set_cons_succ]
    refine last_store 47 (.tmp 11) (.tmp 21) rfl rfl g7 rfl 47 _ (u8s CL) rfl bg7 (by rw [u8s_length, HV.out.2.1]; rfl) (by rw [u8s_length, HV.out.2.1]; exact sizeTag) (u8s_one _) ?_
    intro w3 b3 s3 k3
    have H3 : Hid (Blk w3 w.heap.size 30 (u8s key) ∧ Blk w3 (w.heap.size + 1) 25 (u8s nonce) ∧ Below w.heap.size w w3 ∧ Blk w3 g7 47 (u8s CL)) := by
      have L := below_kept hb k3 hb.size (fun j hj => by omega)
      exact ⟨H2.out.1.later L H2.out.1.lt, H2.out.2.1.later L H2.out.2.1.lt, below_chain H2.out.2.2 L H2.out.2.2.size, b3⟩
    clear hb hg7 bg7 b3 s3 k3 H2
    go_wp2_with fail
    try simp only [Act.put, List.setIfInBounds_toArray, List.set_cons_zero, List.set_cons_succ]
    refine region_inv [.val (.agg (u8s key).toArray), .val (.agg (u8s nonce).toArray), .val (.slice bo (M + 16) d), .val (.int .i64 (M : Int)), .val (.slice (subA bo 0 d) M d), .any (isO w.heap.size M X) (isO_later _ _ _), .val (.slice (some ⟨g7, 0, none⟩) 16 16), .val (.slice bo (M + 16) d), .val (.int .i64 (M : Int)), .val (.slice (subA bo M d) 16 (d - M)), .val (.int .u64 (mk O)), .any (isO w.heap.size M X) (isO_later _ _ _)] (by kernel_rfl) (by kernel_rfl) (by kernel_rfl) ?_ ?_
    · refine Steps'.cons ?_ (Steps'.cons ?_ (Steps'.cons ?_ (Steps'.cons ?_ (Steps'.cons ?_ (Steps'.cons ?_ (Steps'.cons ?_ (Steps'.cons ?_ (Steps'.cons ?_ (Steps'.cons ?_ (Steps'.cons ?_ (Steps'.cons ?_ (Steps'.one _ _ _ _ _ _ _))))))))))))
      · intro ax wx hb hs hd
        have h4 : ax.tmps.getD 4 undef = (.pointer (some ⟨w.heap.size, 0, none⟩)) := hs 4 (by kernel_rfl)
        exact Does.load 30 (.tmp 4) rfl w.heap.size 0 h4 (u8s key) _ ((H3.out.1.later hb H3.out.1.lt).all) Try.underlying30 rfl (by rw [u8s_length, HS.out.1]; exact sizeKey)
      · intro ax wx hb hs hd
        have h5 : ax.tmps.getD 5 undef = (.pointer (some ⟨(w.heap.size + 1), 0, none⟩)) := hs 5 (by kernel_rfl)
        exact Does.load 25 (.tmp 5) rfl (w.heap.size + 1) 0 h5 (u8s nonce) _ ((H3.out.2.1.later hb H3.out.2.1.lt).all) Try.underlying25 rfl (by rw [u8s_length, HS.out.2.1]; exact sizeNonce)
      · intro ax wx hb hs hd
        have h3 : ax.tmps.getD 3 undef = (.slice bo (M + 16) d) := hs 3 (by kernel_rfl)
        refine Does.value (.slice bo (M + 16) d) ?_ rfl
        go_simp
      · intro ax wx hb hs hd
        have h10 : ax.tmps.getD 10 undef = (.int .i64 (M : Int)) := hs 10 (by kernel_rfl)
        refine Does.value (.int .i64 (M : Int)) ?_ rfl
        go_simp
      · intro ax wx hb hs hd
        have h24 : ax.tmps.getD 24 undef = (.slice bo (M + 16) d) := hd 2 24 rfl (by kernel_rfl) (by decide)
        have h25 : ax.tmps.getD 25 undef = (.int .i64 (M : Int)) := hd 3 25 rfl (by kernel_rfl) (by decide)
        refine Does.value (.slice (subA bo 0 d) M d) ?_ rfl
        go_simp
      · intro ax wx hb hs hd
        have h22 : ax.tmps.getD 22 undef = (.agg (u8s key).toArray) := hd 0 22 rfl (by kernel_rfl) (by decide)
        have h23 : ax.tmps.getD 23 undef = (.agg (u8s nonce).toArray) := hd 1 23 rfl (by kernel_rfl) (by decide)
        have h26 : ax.tmps.getD 26 undef = (.slice (subA bo 0 d) M d) := hd 4 26 rfl (by kernel_rfl) (by decide)
        refine Does.call 53 #[(.agg (u8s key).toArray), (.agg (u8s nonce).toArray), (.slice (subA bo 0 d) M d)] (by go_simp) ?_
        have L := below_chain H3.out.2.2.1 hb H3.out.2.2.1.size
        have q := laidOver_any key nonce M d (subA bo 0 d) _ HS.out.1 HS.out.2.1 HS.out.2.2.1 HS.out.2.2.2.1 (by omega) wx (SX.out wx L).2.1
        rw [HV.out.2.2.2.2] at q
        refine q.mono ?_
        rintro e w' ⟨v, rfl, o, l⟩
        exact ⟨_, rfl, ownsRow_base o L.size, l⟩
      · intro ax wx hb hs hd
        have h11 : ax.tmps.getD 11 undef = (.pointer (some ⟨g7, 0, none⟩)) := hs 11 (by kernel_rfl)
        refine Does.value (.slice (some ⟨g7, 0, none⟩) 16 16) ?_ rfl
        go_simp
      · intro ax wx hb hs hd
        have h3 : ax.tmps.getD 3 undef = (.slice bo (M + 16) d) := hs 3 (by kernel_rfl)
        refine Does.value (.slice bo (M + 16) d) ?_ rfl
        go_simp
      · intro ax wx hb hs hd
        have h10 : ax.tmps.getD 10 undef = (.int .i64 (M : Int)) := hs 10 (by kernel_rfl)
        refine Does.value (.int .i64 (M : Int)) ?_ rfl
        go_simp
      · intro ax wx hb hs hd
        have h29 : ax.tmps.getD 29 undef = (.slice bo (M + 16) d) := hd 7 29 rfl (by kernel_rfl) (by decide)
        have h30 : ax.tmps.getD 30 undef = (.int .i64 (M : Int)) := hd 8 30 rfl (by kernel_rfl) (by decide)
        refine Does.value (.slice (subA bo M d) 16 (d - M)) ?_ rfl
        go_simp
      · intro ax wx hb hs hd
        have h28 : ax.tmps.getD 28 undef = (.slice (some ⟨g7, 0, none⟩) 16 16) := hd 6 28 rfl (by kernel_rfl) (by decide)
        have h31 : ax.tmps.getD 31 undef = (.slice (subA bo M d) 16 (d - M)) := hd 9 31 rfl (by kernel_rfl) (by decide)
        refine Does.call 68 #[(.slice (some ⟨g7, 0, none⟩) 16 16), (.slice (subA bo M d) 16 (d - M))] (by go_simp) ?_
        have L := below_chain H3.out.2.2.1 hb H3.out.2.2.1.size
        have s1 := seen_blk (Blk.later H3.out.2.2.2 hb H3.out.2.2.2.lt) HV.out.2.2.1 (by rw [HV.out.2.1]; decide)
        rw [HV.out.2.1] at s1
        have q := msame_any _ _ 16 16 16 (d - M) CL _ wx s1 (SX.out wx L).2.2
        rw [HV.out.2.2.2.1] at q
        refine q.mono ?_
        rintro e w' ⟨rfl, q, rfl⟩
        exact ⟨_, rfl, rfl, below_dn (Below.refl _ _) q⟩
      · intro ax wx hb hs hd
        have h27 : isO w.heap.size M X (ax.tmps.getD 27 undef) wx := hd 5 27 rfl (by kernel_rfl) (by decide)
        exact Does.value (ax.tmps.getD 27 undef) rfl h27
    · intro wx hb
      refine @Ends.val _ _ _ _ _ _ _ _ _ (.agg (u8s key).toArray) rfl ?_
      refine @Ends.val _ _ _ _ _ _ _ _ _ (.agg (u8s nonce).toArray) rfl ?_
      refine @Ends.val _ _ _ _ _ _ _ _ _ (.slice bo (M + 16) d) rfl ?_
      refine @Ends.val _ _ _ _ _ _ _ _ _ (.int .i64 (M : Int)) rfl ?_
      refine @Ends.val _ _ _ _ _ _ _ _ _ (.slice (subA bo 0 d) M d) rfl ?_
      refine @Ends.any _ _ _ _ _ _ _ _ _ (isO w.heap.size M X) (isO_later _ _ _) rfl ?_
      intro v5 p5
      refine @Ends.val _ _ _ _ _ _ _ _ _ (.slice (some ⟨g7, 0, none⟩) 16 16) rfl ?_
      refine @Ends.val _ _ _ _ _ _ _ _ _ (.slice bo (M + 16) d) rfl ?_
      refine @Ends.val _ _ _ _ _ _ _ _ _ (.int .i64 (M : Int)) rfl ?_
      refine @Ends.val _ _ _ _ _ _ _ _ _ (.slice (subA bo M d) 16 (d - M)) rfl ?_
      refine @Ends.val _ _ _ _ _ _ _ _ _ (.int .u64 (mk O)) rfl ?_
      refine @Ends.any _ _ _ _ _ _ _ _ _ (isO w.heap.size M X) (isO_later _ _ _) rfl ?_
      intro v11 p11
      refine @Ends.one _ _ _ _ _ _ _ ?_
      simp only [Act.put, List.setIfInBounds_toArray, List.set_cons_zero, List.set_cons_succ]
      refine last_assign (.tmp 32) rfl (some 9) rfl _ rfl ?_
      simp only [Act.put, List.setIfInBounds_toArray, List.set_cons_zero, List.set_cons_succ]
      have HE : Hid (isO w.heap.size M X v11 wx ∧ Below w.heap.size w wx) := ⟨p11, below_chain H3.out.2.2.1 hb H3.out.2.2.1.size⟩
      clear hb p11 p5
      go_wp2_with fail
      go_ret2
      exact ⟨_, rfl, HE.out⟩
end Go.Proofs.Ytogplebajpdmoaa

/- Layer seal: Open, Peek. -/
namespace Go.Proofs.Ytogplebajpdmoaa
open Go.RowKit
set_option linter.unusedVariables false
set_option linter.unusedSimpArgs false

theorem boxE_ok {n m : Nat} (h16 : 16 ≤ m) (hm : m ≤ 1048592) (hn : n ≤ 1048576) : boxE n m = 0 := by
  unfold boxE
  rw [if_neg (by omega), if_neg (by omega)]
theorem clear_own {B n : Nat} {zs : List Int} {v : Value} {W : World} (h : isO B n zs v W) (hl : zs.length = n) : ∃ W', (∀ ty, (Builtin.clear_ #[31] ty #[v]).run Try.prog W = .ok (.tuple #[]) W') ∧ Kept (fun k => B ≤ k) W W' := by
  rcases own_len hl h with ⟨rfl, rfl⟩ | ⟨g, cap, rfl, hr, hg, _, _⟩
  · exact ⟨W, fun ty => by simp [Builtin.clear_, run_underlying Try.underlying31], Kept.refl _ _⟩
  · rcases Nat.eq_zero_or_pos n with rfl | h0
    · exact ⟨W, fun ty => by simp [Builtin.clear_, run_underlying Try.underlying31], Kept.refl _ _⟩
    · refine ⟨_, fun ty => Lib.run_clear_slice W 31 5 ty (.int .u8 0) Try.underlying31 (zero_of_info infoByte).1 rfl rfl g 0 n cap h0 (fun j hj => ?_) (fun j hj => ?_), (Kept.refl _ _).setCells hg _ _⟩
      · rw [Nat.zero_add, hr.cell j (by omega)]; rfl
      · exact hr.frozen _
set_option maxRecDepth 20000 in
set_option maxHeartbeats 1000000 in
theorem open_bad (key nonce : List Int) (n c m d : Nat) (ao bo : Option Addr) (t1 : n ≤ 140737488355328) (t2 : m ≤ 140737488355328) (E : Int) (hE : boxE n m = E) (h0 : E ≠ 0) (w : World) :
    Calls Try.prog 25 #[.agg (u8s key).toArray, .agg (u8s nonce).toArray, .slice ao n c, .slice bo m d] w fun e w' => e = .returned (.tuple #[.slice none 0 0, .int .i64 E]) ∧ Below w.heap.size w w' := by
  have q0 : (E != 0) = true := by simp [h0]
  go_enter Try.func25, Try.ntmps25
  go_wp2_with (first | (refine wpList_box_new rfl 30 _ rfl (u8s key) rfl ?_; intro w1 b1 s1 l1) | (refine wpList_box_new rfl 25 _ rfl (u8s nonce) rfl ?_; intro w2 b2 s2 l2))
  refine wp_scope_jumps 0 (fun a' w' => ∃ (u0 u1 u2 u3 u4 u5 u6 u7 u8 u9 u11 u13 u14 u15 u16 u17 u18 u19 u20 u21 u22 u23 u24 u25 u26 u27 u28 u29 u30 : Value), a' = { tmps := #[u0, u1, u2, u3, u4, u5, u6, u7, u8, u9, .slice none 0 0, u11, .int .i64 E, u13, u14, u15, u16, u17, u18, u19, u20, u21, u22, u23, u24, u25, u26, u27, u28, u29, u30], defers := [] } ∧ ∃ W, (∀ ty, (Builtin.clear_ #[31] ty #[.slice none 0 0]).run Try.prog w' = .ok (.tuple #[]) W) ∧ Below w.heap.size w W) (fun _ _ => 0) rfl ?_ ?_
  · go_wp2_with (first | (go_at_call 58; refine (checkBox_any ao bo n c m d t1 t2 _).mono ?_; rintro e w' ⟨rfl, rfl⟩; rw [hE]))
    go_step3
    refine ⟨rfl, _, _, _, _, _, _, _, _, _, _, _, _, _, _, _, _, _, _, _, _, _, _, _, _, _, _, _, _, _, rfl, _, fun ty => ?_, below_chain l1 l2 (by omega)⟩
    simp [Builtin.clear_, run_underlying Try.underlying31]
  · rintro a' w' ⟨u0, u1, u2, u3, u4, u5, u6, u7, u8, u9, u11, u13, u14, u15, u16, u17, u18, u19, u20, u21, u22, u23, u24, u25, u26, u27, u28, u29, u30, rfl, W, hcl, hbel⟩
    go_wp2_with fail
    try simp only [Exit.jump]
    go_ret2
    exact ⟨rfl, hbel⟩
set_option maxRecDepth 20000 in
set_option maxHeartbeats 1000000 in
theorem open_no (key nonce : List Int) (n c m d : Nat) (ao bo : Option Addr) (ms zs : List Int) (hk : key.length = 32) (hno : nonce.length = 12) (hkb : Bytes key) (hnb : Bytes nonce) (h16 : 16 ≤ m) (hm : m ≤ 1048592) (hn : n ≤ 1048576) (w : World) (hx : Seen w ao n ms) (hy : Seen w bo m zs) (hc : n ≤ c) (hd : m ≤ d) (hO : opensL key nonce ms zs = false) :
    Calls Try.prog 25 #[.agg (u8s key).toArray, .agg (u8s nonce).toArray, .slice ao n c, .slice bo m d] w fun e w' => e = .returned (.tuple #[.slice none 0 0, .int .i64 70]) ∧ Below w.heap.size w w' := by
  have HX : Hid (Seen w ao n ms ∧ Seen w bo m zs ∧ n ≤ c ∧ m ≤ d) := ⟨hx, hy, hc, hd⟩
  have HS : Hid (key.length = 32 ∧ nonce.length = 12 ∧ Bytes key ∧ Bytes nonce) := ⟨hk, hno, hkb, hnb⟩
  have t1 := hx.top
  have t2 := hy.top
  have hE := boxE_ok h16 hm hn
  have HL : Hid ((textL key nonce zs).length = m - 16) := by show _ = _; rw [textL_length, hy.len]
  clear hx hy hk hno hkb hnb hc hd
  go_enter Try.func25, Try.ntmps25
  go_wp2_with (first | (refine wpList_box_new rfl 30 _ rfl (u8s key) rfl ?_; intro w1 b1 s1 l1) | (refine wpList_box_new rfl 25 _ rfl (u8s nonce) rfl ?_; intro w2 b2 s2 l2))
  refine wp_scope_jumps 0 (fun a' w' => ∃ (T : Value) (u0 u1 u2 u3 u4 u5 u6 u7 u8 u9 u11 u13 u14 u15 u16 u17 u18 u19 u20 u21 u22 u23 u24 u25 u26 u27 u28 u29 u30 : Value), a' = { tmps := #[u0, u1, u2, u3, u4, u5, u6, u7, u8, u9, T, u11, .int .i64 70, u13, u14, u15, u16, u17, u18, u19, u20, u21, u22, u23, u24, u25, u26, u27, u28, u29, u30], defers := [] } ∧ ∃ W, (∀ ty, (Builtin.clear_ #[31] ty #[T]).run Try.prog w' = .ok (.tuple #[]) W) ∧ Below w.heap.size w W) (fun _ _ => 0) rfl ?_ ?_
  · go_wp2_with (first | (refine wpList_load_blk rfl 30 _ rfl _ rfl (u8s key) _ (by first | exact b1.later l2 (by omega)) Try.underlying30 rfl (by rw [u8s_length, HS.out.1]; exact sizeKey) ?_) | (refine wpList_load_blk rfl 25 _ rfl _ rfl (u8s nonce) _ (by first | exact b2 | (rw [← s1]; exact b2)) Try.underlying25 rfl (by rw [u8s_length, HS.out.2.1]; exact sizeNonce) ?_) | (go_at_call 58; refine (checkBox_any ao bo n c m d t1 t2 _).mono ?_; rintro e w' ⟨rfl, rfl⟩; rw [hE]) | (go_at_call 59; refine (uncovered_any key nonce n c m d ao bo ms zs HS.out.1 HS.out.2.1 HS.out.2.2.1 HS.out.2.2.2 h16 hm _ (HX.out.1.later (below_chain l1 l2 (by omega)) (Nat.le_refl _)) (HX.out.2.1.later (below_chain l1 l2 (by omega)) (Nat.le_refl _)) HX.out.2.2.1 HX.out.2.2.2).mono ?_; rintro e w3 ⟨v, rfl, o3, l3⟩; rw [hO]; have HO : Hid (isO w2.heap.size (m - 16) (textL key nonce zs) v w3 ∧ Below w.heap.size w w3 ∧ w.heap.size ≤ w2.heap.size) := ⟨o3, below_chain (below_chain l1 l2 (by omega)) l3 (by omega), by omega⟩; clear o3 l3))
    go_step3
    obtain ⟨W, hcl, hkp⟩ := clear_own HO.out.1 HL.out
    exact ⟨rfl, _, _, _, _, _, _, _, _, _, _, _, _, _, _, _, _, _, _, _, _, _, _, _, _, _, _, _, _, _, _, rfl, W, hcl, below_kept HO.out.2.1 hkp HO.out.2.1.size (fun j hj => by have := HO.out.2.2; omega)⟩
  · rintro a' w' ⟨T, u0, u1, u2, u3, u4, u5, u6, u7, u8, u9, u11, u13, u14, u15, u16, u17, u18, u19, u20, u21, u22, u23, u24, u25, u26, u27, u28, u29, u30, rfl, W, hcl, hbel⟩
    go_wp2_with fail
    try simp only [Exit.jump]
    go_ret2
    exact ⟨rfl, hbel⟩
set_option maxRecDepth 20000 in
set_option maxHeartbeats 1000000 in
theorem open_yes (key nonce : List Int) (n c m d : Nat) (ao bo : Option Addr) (ms zs : List Int) (hk : key.length = 32) (hno : nonce.length = 12) (hkb : Bytes key) (hnb : Bytes nonce) (h16 : 16 ≤ m) (hm : m ≤ 1048592) (hn : n ≤ 1048576) (w : World) (hx : Seen w ao n ms) (hy : Seen w bo m zs) (hc : n ≤ c) (hd : m ≤ d) (hO : opensL key nonce ms zs = true) :
    Calls Try.prog 25 #[.agg (u8s key).toArray, .agg (u8s nonce).toArray, .slice ao n c, .slice bo m d] w fun e w' => ∃ v, e = .returned (.tuple #[v, .int .i64 0]) ∧ isO w.heap.size (m - 16) (textL key nonce zs) v w' ∧ Below w.heap.size w w' := by
  have HX : Hid (Seen w ao n ms ∧ Seen w bo m zs ∧ n ≤ c ∧ m ≤ d) := ⟨hx, hy, hc, hd⟩
  have HS : Hid (key.length = 32 ∧ nonce.length = 12 ∧ Bytes key ∧ Bytes nonce) := ⟨hk, hno, hkb, hnb⟩
  have t1 := hx.top
  have t2 := hy.top
  have hE := boxE_ok h16 hm hn
  have HL : Hid ((textL key nonce zs).length = m - 16) := by show _ = _; rw [textL_length, hy.len]
  clear hx hy hk hno hkb hnb hc hd
  go_enter Try.func25, Try.ntmps25
  go_wp2_with (first | (refine wpList_box_new rfl 30 _ rfl (u8s key) rfl ?_; intro w1 b1 s1 l1) | (refine wpList_box_new rfl 25 _ rfl (u8s nonce) rfl ?_; intro w2 b2 s2 l2))
  go_step3
  go_wp2_with (first | (refine wpList_load_blk rfl 30 _ rfl _ rfl (u8s key) _ (by first | exact b1.later l2 (by omega)) Try.underlying30 rfl (by rw [u8s_length, HS.out.1]; exact sizeKey) ?_) | (refine wpList_load_blk rfl 25 _ rfl _ rfl (u8s nonce) _ (by first | exact b2 | (rw [← s1]; exact b2)) Try.underlying25 rfl (by rw [u8s_length, HS.out.2.1]; exact sizeNonce) ?_) | (go_at_call 58; refine (checkBox_any ao bo n c m d t1 t2 _).mono ?_; rintro e w' ⟨rfl, rfl⟩; rw [hE]) | (go_at_call 59; refine (uncovered_any key nonce n c m d ao bo ms zs HS.out.1 HS.out.2.1 HS.out.2.2.1 HS.out.2.2.2 h16 hm _ (HX.out.1.later (below_chain l1 l2 (by omega)) (Nat.le_refl _)) (HX.out.2.1.later (below_chain l1 l2 (by omega)) (Nat.le_refl _)) HX.out.2.2.1 HX.out.2.2.2).mono ?_; rintro e w3 ⟨v, rfl, o3, l3⟩; rw [hO]; have HO : Hid (isO w2.heap.size (m - 16) (textL key nonce zs) v w3 ∧ Below w.heap.size w w3 ∧ w.heap.size ≤ w2.heap.size) := ⟨o3, below_chain (below_chain l1 l2 (by omega)) l3 (by omega), by omega⟩; clear o3 l3))
  try rw [Exit.noGoto_ret]
  go_ret2
  exact ⟨_, rfl, ownsRow_base HO.out.1 HO.out.2.2, HO.out.2.1⟩
end Go.Proofs.Ytogplebajpdmoaa

/- Layer seal: Peek. -/
namespace Go.Proofs.Ytogplebajpdmoaa
open Go.RowKit
set_option linter.unusedVariables false
set_option linter.unusedSimpArgs false

set_option maxRecDepth 20000 in
set_option maxHeartbeats 1000000 in
theorem peek_bad (key nonce : List Int) (n c m d : Nat) (ao bo : Option Addr) (t1 : n ≤ 140737488355328) (t2 : m ≤ 140737488355328) (E : Int) (hE : boxE n m = E) (h0 : E ≠ 0) (w : World) :
    Calls Try.prog 26 #[.agg (u8s key).toArray, .agg (u8s nonce).toArray, .slice ao n c, .slice bo m d] w fun e w' => e = .returned (.tuple #[.slice none 0 0, .int .u64 0, .int .i64 E]) ∧ Below w.heap.size w w' := by
  have q0 : (E != 0) = true := by simp [h0]
  go_enter Try.func26, Try.ntmps26
  go_wp2_with (first | (refine wpList_box_new rfl 30 _ rfl (u8s key) rfl ?_; intro w1 b1 s1 l1) | (refine wpList_box_new rfl 25 _ rfl (u8s nonce) rfl ?_; intro w2 b2 s2 l2) | (go_at_call 58; refine (checkBox_any ao bo n c m d t1 t2 _).mono ?_; rintro e w' ⟨rfl, rfl⟩; rw [hE]))
  go_ret3
  exact ⟨rfl, below_chain l1 l2 (by omega)⟩
/-- What Peek tells: the text, or as many bytes 0. -/
def peekL (key nonce more box : List Int) : List Int := if opensL key nonce more box = true then textL key nonce box else List.replicate (box.length - 16) 0
theorem peekL_length (key nonce more box : List Int) : (peekL key nonce more box).length = box.length - 16 := by
  unfold peekL
  split
  · exact textL_length _ _ _
  · simp
theorem mix_peek (key nonce more box : List Int) (h : Bytes box) : mix (mk (!opensL key nonce more box)) (box.length - 16) (textL key nonce box) (List.replicate (box.length - 16) 0) = peekL key nonce more box := by
  have hl := textL_length key nonce box
  have hb := textL_bytes key nonce h
  unfold peekL
  cases opensL key nonce more box with
  | true => simp only [Bool.not_true, mk_false, if_true]; exact mix_no _ _ _ hb
  | false =>
    simp only [Bool.not_false, mk_true, Bool.false_eq_true, if_false]
    have := mix_yes (textL key nonce box) (List.replicate (box.length - 16) 0) hb (rep0_bytes _) (by simp [hl])
    rwa [hl] at this
theorem isO_len {B n : Nat} {zs : List Int} {v : Value} {W : World} (h : isO B n zs v W) (hl : zs.length = n) : (v = .slice none 0 0 ∧ n = 0 ∧ zs = []) ∨ ∃ g cap, v = .slice (some ⟨g, 0, none⟩) n cap ∧ RowC W g cap zs ∧ B ≤ g ∧ n ≤ cap ∧ cap ≤ maxLen := by
  rcases own_len hl h with ⟨rfl, rfl⟩ | ⟨g, cap, rfl, hr, hg, h1, h2⟩
  · exact .inl ⟨rfl, rfl, List.length_eq_zero_iff.1 hl⟩
  · exact .inr ⟨g, cap, rfl, RowC.of_own h, hg, h1, h2⟩
set_option maxRecDepth 20000 in
set_option maxHeartbeats 1000000 in
theorem peek_any (key nonce : List Int) (n c m d : Nat) (ao bo : Option Addr) (ms zs : List Int) (hk : key.length = 32) (hno : nonce.length = 12) (hkb : Bytes key) (hnb : Bytes nonce) (h16 : 16 ≤ m) (hm : m ≤ 1048592) (hn : n ≤ 1048576) (w : World) (hx : Seen w ao n ms) (hy : Seen w bo m zs) (hc : n ≤ c) (hd : m ≤ d) :
    Calls Try.prog 26 #[.agg (u8s key).toArray, .agg (u8s nonce).toArray, .slice ao n c, .slice bo m d] w fun e w' => ∃ v, e = .returned (.tuple #[v, .int .u64 (mk (opensL key nonce ms zs)), .int .i64 0]) ∧ isO w.heap.size (m - 16) (peekL key nonce ms zs) v w' ∧ Below w.heap.size w w' := by
  obtain ⟨M, rfl⟩ : ∃ M, m = M + 16 := ⟨m - 16, by omega⟩
  have hM : M ≤ 1048576 := by omega
  have HX : Hid (Seen w ao n ms ∧ Seen w bo (M + 16) zs ∧ n ≤ c ∧ M + 16 ≤ d) := ⟨hx, hy, hc, hd⟩
  have HS : Hid (key.length = 32 ∧ nonce.length = 12 ∧ Bytes key ∧ Bytes nonce) := ⟨hk, hno, hkb, hnb⟩
  have t1 := hx.top
  have t2 := hy.top
  have hE := boxE_ok h16 hm hn
  obtain ⟨X, hXX⟩ : ∃ X, textL key nonce zs = X := ⟨_, rfl⟩
  obtain ⟨P, hP⟩ : ∃ P, peekL key nonce ms zs = P := ⟨_, rfl⟩
  have hl : zs.length - 16 = M := by rw [hy.len]; omega
  have HL : Hid (textL key nonce zs = X ∧ X.length = M ∧ Bytes X ∧ P.length = M ∧ (mix (mk (!opensL key nonce ms zs)) M X (List.replicate M 0) = P)) := by
    refine ⟨hXX, by rw [← hXX, textL_length, hl], by rw [← hXX]; exact textL_bytes _ _ hy.bytes, by rw [← hP, peekL_length, hl], ?_⟩
    have := mix_peek key nonce ms zs hy.bytes
    rwa [hl, hXX, hP] at this
  obtain ⟨O, hO⟩ : ∃ b, opensL key nonce ms zs = b := ⟨_, rfl⟩
  rw [hO] at HL
  rw [hO, hP, Nat.add_sub_cancel]
  have nm := not_mk O
  clear hx hy hk hno hkb hnb hc hd hXX hP hl
  go_enter Try.func26, Try.ntmps26
  go_wp2_with (first | (refine wpList_box_new rfl 30 _ rfl (u8s key) rfl ?_; intro w1 b1 s1 l1) | (refine wpList_box_new rfl 25 _ rfl (u8s nonce) rfl ?_; intro w2 b2 s2 l2) | (go_at_call 58; refine (checkBox_any ao bo n c (M + 16) d t1 t2 _).mono ?_; rintro e w' ⟨rfl, rfl⟩; rw [hE]) | (refine wpList_load_blk rfl 30 _ rfl _ rfl (u8s key) _ (by first | exact b1.later l2 (by omega)) Try.underlying30 rfl (by rw [u8s_length, HS.out.1]; exact sizeKey) ?_) | (refine wpList_load_blk rfl 25 _ rfl _ rfl (u8s nonce) _ (by first | exact b2 | (rw [← s1]; exact b2)) Try.underlying25 rfl (by rw [u8s_length, HS.out.2.1]; exact sizeNonce) ?_))
  refine (uncovered_any key nonce n c (M + 16) d ao bo ms zs HS.out.1 HS.out.2.1 HS.out.2.2.1 HS.out.2.2.2 h16 hm _ (HX.out.1.later (below_chain l1 l2 (by omega)) (Nat.le_refl _)) (HX.out.2.1.later (below_chain l1 l2 (by omega)) (Nat.le_refl _)) HX.out.2.2.1 HX.out.2.2.2).mono ?_
  rintro e w3 ⟨v, rfl, o3, l3⟩
  rw [hO]
  rw [HL.out.1, Nat.add_sub_cancel] at o3
  have HO : Hid (Below w.heap.size w w3 ∧ w.heap.size ≤ w2.heap.size) := ⟨below_chain (below_chain l1 l2 (by omega)) l3 (by omega), by omega⟩
  obtain ⟨i0, hi, hz0, hz1, hz2⟩ := info_parts info_byte
  have hmk := run_make (P := Try.prog) w3 31 5 i0 (.int .u8 0) Try.underlying31 hi hz0 .i64 .i64 (M : Int) (M : Int) (by omega) (Int.le_refl _) (by rw [hz2]; omega) (by omega)
  rw [hz1, show ((M : Int).toNat) = M by omega, Nat.mul_one, show (Value.int .u8 0).cells = #[.int .u8 0] from rfl, madeZ] at hmk
  obtain ⟨w4, hw4, HB⟩ : ∃ w4, w3.alloc (.cells (u8s (List.replicate M 0)).toArray 5) = w4 ∧ Hid (Blk w4 w3.heap.size 5 (u8s (List.replicate M 0)) ∧ Below w3.heap.size w3 w4) := ⟨_, rfl, ⟨heap_alloc_new w3 _, (Below.refl _ _).alloc (Nat.le_refl _) _⟩⟩
  rw [hw4] at hmk
  clear hw4 hi hz0 hz1 hz2 l1 l2 l3 b1 s1 b2 s2
  rcases isO_len o3 HL.out.2.1 with ⟨rfl, rfl, hX0⟩ | ⟨g, cap, rfl, hr, hg, hcap, hmax⟩
  · have HP : Hid (P = [] ∧ w4.heap.size = w4.heap.size ∧ Below w.heap.size w w4) := ⟨List.length_eq_zero_iff.1 HL.out.2.2.2.1, rfl, below_chain HO.out.1 HB.out.2 HO.out.1.size⟩
    clear o3
    rw [show ((0 : Nat) : Int) = 0 from rfl] at hmk
    go_wp2_with (go_at_call 60; refine (mcopy_none _ _ _ _ _ _).mono ?_; rintro e w' ⟨rfl, rfl⟩)
    go_ret3
    exact ⟨_, rfl, by rw [HP.out.1]; exact World.ownsRow_nil _ _ _ _, HP.out.2.2⟩
  · have hgl := hr.lt
    have H4 : Hid (RowC w4 g cap X ∧ w.heap.size ≤ g ∧ cap ≤ maxLen ∧ Below w.heap.size w w4) := ⟨hr.later HB.out.2 (Nat.le_refl _), by have := HO.out.2; omega, hmax, below_chain HO.out.1 HB.out.2 HO.out.1.size⟩
    have hcp := mcopy_any (mk (!O)) (mk_bd _) g w3.heap.size 0 M cap M X (List.replicate M 0) (by omega) (by have := HL.out.2.1; omega) (by simp) HL.out.2.2.1 (rep0_bytes _) (by unfold maxLen; omega) w4 H4.out.1 HB.out.1.lt (fun i hi => by rw [Nat.zero_add]; exact u8s_cell HB.out.1 i (by simpa using hi))
    rw [HL.out.2.2.2.2] at hcp
    clear o3 hr hgl hmax hg
    go_wp2_with fail
    refine hcp.mono ?_
    rintro e w5 ⟨rfl, r5, k5⟩
    clear hcp
    go_wp2_with fail
    go_ret3
    exact ⟨_, rfl, r5.own HL.out.2.2.2.1 H4.out.2.1 H4.out.2.2.1, below_kept H4.out.2.2.2 k5 H4.out.2.2.2.size (fun j hj => by have := H4.out.2.1; omega)⟩
end Go.Proofs.Ytogplebajpdmoaa

/- Layer seal: works. -/
namespace Go.Proofs.Ytogplebajpdmoaa
open Go.RowKit
set_option linter.unusedVariables false
set_option linter.unusedSimpArgs false

theorem isO_seen {B n : Nat} {zs : List Int} {v : Value} {W : World} (h : isO B n zs v W) (hl : zs.length = n) (hb : Bytes zs) (ht : n ≤ 140737488355328) : ∃ vo cap, v = .slice vo n cap ∧ Seen W vo n zs ∧ n ≤ cap ∧ (vo = none → cap = 0) ∧ (∀ b o, vo = some ⟨b, o, none⟩ → B ≤ b) := by
  subst hl
  obtain ⟨vo, cap, rfl, h1, h2, h3, h4, _⟩ := own_data hb ht h
  exact ⟨vo, cap, rfl, h1, h2, h3, fun b o e => (h4 b o e).1⟩
def sKey : List Int := 1 :: 2 :: 3 :: List.replicate 29 0
def sNon : List Int := 4 :: List.replicate 11 0
theorem sKey_bytes : Bytes sKey := fun z hz => by
  simp only [sKey, List.mem_cons] at hz
  rcases hz with rfl | rfl | rfl | h
  · decide
  · decide
  · decide
  · exact rep0_bytes _ z h
theorem sNon_bytes : Bytes sNon := fun z hz => by
  rcases List.mem_cons.1 hz with rfl | h
  · decide
  · exact rep0_bytes _ z h
theorem sZero : (Try.prog.info? 30).map (fun i => (i.zero, i.size)) = some (some (.agg (u8s (List.replicate 32 0)).toArray), 32) := by kernel_rfl
theorem b5 : Bytes [5] := fun z hz => by simp at hz; subst hz; decide
theorem b67 : Bytes [6, 7] := fun z hz => by simp at hz; rcases hz with rfl | rfl <;> decide
set_option maxRecDepth 20000 in
set_option maxHeartbeats 4000000 in
theorem sworks_any (w : World) : Calls Try.prog 16 #[] w fun e w' => e = .returned (.bool true) ∧ Below w.heap.size w w' := by
  have hob := opens_box sKey sNon [5] (zs := [6, 7])
  have htb := text_box sKey sNon [5] b67
  have hbl := boxL_length sKey sNon [5] [6, 7]
  have hbb := boxL_bytes sKey sNon [5] b67
  obtain ⟨X, hX⟩ : ∃ X, boxL sKey sNon [5] [6, 7] = X := ⟨_, rfl⟩
  rw [hX] at hob htb hbl hbb
  have HX : Hid (boxL sKey sNon [5] [6, 7] = X ∧ X.length = 18 ∧ Bytes X ∧ opensL sKey sNon [5] X = true ∧ textL sKey sNon X = [6, 7]) := ⟨hX, hbl, hbb, hob, htb⟩
  clear hX hob htb hbl hbb
  go_enter Try.func16, Try.ntmps16
  go_wp2_with (first | (refine wpList_alloc_new rfl 30 rfl 32 _ sZero ?_; intro w1 b1 s1 l1) | (refine wpList_store_blk rfl 30 30 _ _ rfl _ rfl _ (u8s sKey) rfl b1 rfl sizeKey (u8s_one _) ?_; intro w2 b2 s2 k2) | (refine wpList_load_blk rfl 30 _ rfl w.heap.size rfl (u8s sKey) _ b2 Try.underlying30 rfl sizeKey ?_))
  have b3 : Blk (w2.alloc (.cells #[.int .u8 5] 5)) w2.heap.size 5 (u8s [5]) := heap_alloc_new w2 _
  have l3 : Below w2.heap.size w2 (w2.alloc (.cells #[.int .u8 5] 5)) := (Below.refl _ _).alloc (Nat.le_refl _) _
  have s3 : (w2.alloc (.cells #[.int .u8 5] 5)).heap.size = w2.heap.size + 1 := by simp
  obtain ⟨w3, hw3⟩ : ∃ W, w2.alloc (.cells #[.int .u8 5] 5) = W := ⟨_, rfl⟩
  rw [hw3] at b3 l3 s3 ⊢
  have b4 : Blk (w3.alloc (.cells #[.int .u8 6, .int .u8 7] 5)) w3.heap.size 5 (u8s [6, 7]) := heap_alloc_new w3 _
  have l4 : Below w3.heap.size w3 (w3.alloc (.cells #[.int .u8 6, .int .u8 7] 5)) := (Below.refl _ _).alloc (Nat.le_refl _) _
  obtain ⟨w4, hw4⟩ : ∃ W, w3.alloc (.cells #[.int .u8 6, .int .u8 7] 5) = W := ⟨_, rfl⟩
  rw [hw4] at b4 l4 ⊢
  clear hw3 hw4
  have H4 : Hid (Blk w4 w.heap.size 30 (u8s sKey) ∧ Blk w4 w2.heap.size 5 (u8s [5]) ∧ Blk w4 w3.heap.size 5 (u8s [6, 7]) ∧ Below w.heap.size w w4) :=
    ⟨(b2.later l3 (by omega)).later l4 (by omega), b3.later l4 (by omega), b4, below_chain (below_chain (below_kept l1 k2 (by omega) (fun j hj => by omega)) l3 (by omega)) l4 (by omega)⟩
  have e2 : w2.heap.size = w.heap.size + 1 := by omega
  have e3 : w3.heap.size = w.heap.size + 1 + 1 := by omega
  rw [e2, e3] at H4
  clear b1 l1 b2 k2 b3 l3 b4 l4
  refine (seal_any sKey sNon 1 1 2 2 (some ⟨w.heap.size + 1, 0, none⟩) (some ⟨w.heap.size + 1 + 1, 0, none⟩) [5] [6, 7] rfl rfl sKey_bytes sNon_bytes (by decide) (by decide) w4 (seen_blk H4.out.2.1 b5 (by decide)) (seen_blk H4.out.2.2.1 b67 (by decide)) (Nat.le_refl _) (Nat.le_refl _)).mono ?_
  rintro e w5 ⟨v, rfl, o5, l5⟩
  rw [HX.out.1] at o5
  obtain ⟨vo, cap, rfl, d5, hc5, _⟩ := isO_seen (n := 2 + 16) o5 HX.out.2.1 HX.out.2.2.1 (by decide)
  have H5 : Hid (Blk w5 w.heap.size 30 (u8s sKey) ∧ Seen w5 vo 18 X ∧ 18 ≤ cap ∧ Below w.heap.size w w5) := ⟨H4.out.1.later l5 H4.out.1.lt, d5, hc5, below_chain H4.out.2.2.2 l5 H4.out.2.2.2.size⟩
  clear o5 d5 hc5 l5 H4
  go_wp2_with (first | (refine wpList_load_blk rfl 30 _ rfl w.heap.size rfl (u8s sKey) _ H5.out.1 Try.underlying30 rfl sizeKey ?_))
  have b6 : Blk (w5.alloc (.cells #[.int .u8 5] 5)) w5.heap.size 5 (u8s [5]) := heap_alloc_new w5 _
  have l6 : Below w5.heap.size w5 (w5.alloc (.cells #[.int .u8 5] 5)) := (Below.refl _ _).alloc (Nat.le_refl _) _
  obtain ⟨w6, hw6⟩ : ∃ W, w5.alloc (.cells #[.int .u8 5] 5) = W := ⟨_, rfl⟩
  rw [hw6] at b6 l6 ⊢
  clear hw6
  have q6 := l6.size
  refine (open_yes sKey sNon 1 1 18 cap (some ⟨w5.heap.size, 0, none⟩) vo [5] X rfl rfl sKey_bytes sNon_bytes (by decide) (by decide) (by decide) w6 (seen_blk b6 b5 (by decide)) (H5.out.2.1.later l6 (Nat.le_refl _)) (Nat.le_refl _) H5.out.2.2.1 HX.out.2.2.2.1).mono ?_
  rintro e w7 ⟨v, rfl, o7, l7⟩
  rw [HX.out.2.2.2.2] at o7
  obtain ⟨vp, cap2, rfl, d7, hc7, _⟩ := isO_seen (n := 18 - 16) o7 rfl b67 (by decide)
  have H7 : Hid (Seen w7 vp 2 [6, 7] ∧ 2 ≤ cap2 ∧ Below w.heap.size w w7) := ⟨d7, hc7, below_chain (below_chain H5.out.2.2.2 l6 H5.out.2.2.2.size) l7 (by have := H5.out.2.2.2.size; omega)⟩
  clear o7 d7 hc7 l7 b6 l6
  go_wp2_with fail
  have b8 : Blk (w7.alloc (.cells #[.int .u8 6, .int .u8 7] 5)) w7.heap.size 5 (u8s [6, 7]) := heap_alloc_new w7 _
  have l8 : Below w7.heap.size w7 (w7.alloc (.cells #[.int .u8 6, .int .u8 7] 5)) := (Below.refl _ _).alloc (Nat.le_refl _) _
  obtain ⟨w8, hw8⟩ : ∃ W, w7.alloc (.cells #[.int .u8 6, .int .u8 7] 5) = W := ⟨_, rfl⟩
  rw [hw8] at b8 l8 ⊢
  clear hw8
  refine (eqb_yes vp _ 2 cap2 2 [6, 7] _ (H7.out.1.later l8 (Nat.le_refl _)) (seen_blk b8 b67 (by decide))).mono ?_
  rintro e w9 ⟨rfl, q, rfl⟩
  go_wp2_with fail
  go_ret
  exact ⟨rfl, below_dn (below_chain H7.out.2.2 l8 H7.out.2.2.size) _⟩
end Go.Proofs.Ytogplebajpdmoaa

/- Layer seal: a Case in a block: key, nonce, more, text. -/
namespace Go.Proofs.Ytogplebajpdmoaa
open Go.RowKit
set_option linter.unusedVariables false
set_option linter.unusedSimpArgs false

def caseC (key nonce : List Int) (ao : Option Addr) (n c : Nat) (bo : Option Addr) (m d : Nat) : List Value := u8s key ++ (u8s nonce ++ [.slice ao n c, .slice bo m d])
/-- What comes in as a Case. -/
structure CsIn (w : World) (key nonce : List Int) (ao : Option Addr) (n c : Nat) (ms : List Int) (bo : Option Addr) (m d : Nat) (zs : List Int) : Prop where
  k32 : key.length = 32
  n12 : nonce.length = 12
  kb : Bytes key
  nb : Bytes nonce
  more : Seen w ao n ms
  text : Seen w bo m zs
  hc : n ≤ c
  hd : m ≤ d
theorem CsIn.later {w w' : World} {key nonce : List Int} {ao : Option Addr} {n c : Nat} {ms : List Int} {bo : Option Addr} {m d : Nat} {zs : List Int} (h : CsIn w key nonce ao n c ms bo m d zs) {B : Nat} (hb : Below B w w') (hB : w.heap.size ≤ B) : CsIn w' key nonce ao n c ms bo m d zs :=
  ⟨h.k32, h.n12, h.kb, h.nb, h.more.later hb hB, h.text.later hb hB, h.hc, h.hd⟩
/-- A Case in block g. -/
structure CsAt (w : World) (g : Nat) (key nonce : List Int) (ao : Option Addr) (n c : Nat) (ms : List Int) (bo : Option Addr) (m d : Nat) (zs : List Int) : Prop where
  blk : Blk w g 33 (caseC key nonce ao n c bo m d)
  is : CsIn w key nonce ao n c ms bo m d zs
theorem CsAt.later {w w' : World} {g : Nat} {key nonce : List Int} {ao : Option Addr} {n c : Nat} {ms : List Int} {bo : Option Addr} {m d : Nat} {zs : List Int} (h : CsAt w g key nonce ao n c ms bo m d zs) (hb : Below w.heap.size w w') : CsAt w' g key nonce ao n c ms bo m d zs :=
  ⟨h.blk.later hb h.blk.lt, h.is.later hb (Nat.le_refl _)⟩
theorem CsAt.key {w : World} {g : Nat} {key nonce : List Int} {ao : Option Addr} {n c : Nat} {ms : List Int} {bo : Option Addr} {m d : Nat} {zs : List Int} (h : CsAt w g key nonce ao n c ms bo m d zs) : w.rangeAt g 0 (u8s key) := by
  have := Blk.range (xs := []) (ys := u8s key) h.blk
  simpa using this
theorem CsAt.nonce {w : World} {g : Nat} {key nonce : List Int} {ao : Option Addr} {n c : Nat} {ms : List Int} {bo : Option Addr} {m d : Nat} {zs : List Int} (h : CsAt w g key nonce ao n c ms bo m d zs) : w.rangeAt g 32 (u8s nonce) := by
  have := Blk.range (xs := u8s key) (ys := u8s nonce) h.blk
  rwa [u8s_length, h.is.k32] at this
theorem CsAt.cM {w : World} {g : Nat} {key nonce : List Int} {ao : Option Addr} {n c : Nat} {ms : List Int} {bo : Option Addr} {m d : Nat} {zs : List Int} (h : CsAt w g key nonce ao n c ms bo m d zs) : w.cell? ⟨g, 44, none⟩ = some (.slice ao n c) := by
  rw [h.blk.cell, caseC, List.getElem?_append_right (by rw [u8s_length, h.is.k32]; decide), u8s_length, h.is.k32, List.getElem?_append_right (by rw [u8s_length, h.is.n12]; decide), u8s_length, h.is.n12]; rfl
theorem CsAt.cT {w : World} {g : Nat} {key nonce : List Int} {ao : Option Addr} {n c : Nat} {ms : List Int} {bo : Option Addr} {m d : Nat} {zs : List Int} (h : CsAt w g key nonce ao n c ms bo m d zs) : w.cell? ⟨g, 45, none⟩ = some (.slice bo m d) := by
  rw [h.blk.cell, caseC, List.getElem?_append_right (by rw [u8s_length, h.is.k32]; decide), u8s_length, h.is.k32, List.getElem?_append_right (by rw [u8s_length, h.is.n12]; decide), u8s_length, h.is.n12]; rfl
theorem CsAt.sk {w : World} {g : Nat} {key nonce : List Int} {ao : Option Addr} {n c : Nat} {ms : List Int} {bo : Option Addr} {m d : Nat} {zs : List Int} (h : CsAt w g key nonce ao n c ms bo m d zs) : (Try.prog.info? 30).map (·.size) = some (u8s key).length := by rw [u8s_length, h.is.k32]; exact sizeKey
theorem CsAt.sn {w : World} {g : Nat} {key nonce : List Int} {ao : Option Addr} {n c : Nat} {ms : List Int} {bo : Option Addr} {m d : Nat} {zs : List Int} (h : CsAt w g key nonce ao n c ms bo m d zs) : (Try.prog.info? 25).map (·.size) = some (u8s nonce).length := by rw [u8s_length, h.is.n12]; exact sizeNonce
end Go.Proofs.Ytogplebajpdmoaa

/- What is handed in as a Case: read as a key, a nonce, more and a text. -/
namespace Go.Proofs.Ytogplebajpdmoaa
open Go.ChangeShapes Go.WideShapes Go.ChangeAt Go.RowKit
set_option linter.unusedVariables false
set_option linter.unusedSimpArgs false

theorem lOwn : ownKnob Try.prog.godebug = none := by kernel_rfl
theorem lLaidOut : laidOutB Try.prog = true := by kernel_rfl
theorem lBytesOf : Try.prog.bytesOf 5 = 1 := by kernel_rfl
theorem lCellsByte : Try.prog.cellsOf 5 = 1 := by kernel_rfl
theorem lCellsKey : Try.prog.cellsOf 30 = 32 := by kernel_rfl
theorem lCellsNonce : Try.prog.cellsOf 25 = 12 := by kernel_rfl
theorem lCellsCase : Try.prog.cellsOf 33 = 46 := by kernel_rfl
theorem lCellsL : Try.prog.cellsOf 31 = 1 := by kernel_rfl
def lUnByte : Value → Int
  | .int _ z => z
  | _ => 0
/-- An array of bytes, opened. -/
theorem lBytes_arr {H : Type} {enc : TypeId × Value → H} {W : World} {base : Nat} {sp : Nat → Bool} {held : Bool} {fuel n : Nat} {t : TypeId} {cs : List Value} {x : DataW H × List MemPlace} (ht : Try.prog.underlying t = some (.array n 5)) (hn : Try.prog.cellsOf t = n)
    (h : DataW.trod enc Try.prog W base sp held fuel t cs = some x) : ∃ zs : List Int, cs = u8s zs ∧ zs.length = n ∧ Bytes zs := by
  obtain ⟨xs, m, _, _, hlen, hxl, hf⟩ := DataW.trod_array ht h
  have hc : cs.length = n := hlen.trans hn
  have key : ∀ i, (hi : i < cs.length) → ∃ z, cs[i] = .int .u8 z ∧ 0 ≤ z ∧ z < 256 := by
    intro i hi
    have h1 := hf i (by omega)
    rw [lCellsByte, Nat.mul_one, List.getElem?_eq_getElem (by omega)] at h1
    obtain ⟨z, hz, _, hw⟩ := DataW.trod_int Try.underlying5 h1
    refine ⟨z, ?_, byte_of_wf hw⟩
    rw [List.drop_eq_getElem_cons hi, List.take_succ_cons, List.take_zero] at hz
    exact (List.cons.inj hz).1
  refine ⟨cs.map lUnByte, ?_, by simpa using hc, ?_⟩
  · apply List.ext_getElem
    · simp [u8s]
    · intro i h1 h2
      obtain ⟨z, hz, _⟩ := key i h1
      simp [u8s, hz, lUnByte]
  · intro z hz
    obtain ⟨v, hv, rfl⟩ := List.mem_map.1 hz
    obtain ⟨i, hi, rfl⟩ := List.mem_iff_getElem.1 hv
    obtain ⟨z, hz, hb⟩ := key i hi
    rw [hz]; exact hb
/-- A list in a field. -/
theorem lList_in {H : Type} {enc : TypeId × Value → H} {W : World} {fuel : Nat} {v : Value} {y : DataW H × List MemPlace} (h : DataW.trod enc Try.prog W 0 (fun _ => true) true fuel 31 [v] = some y)
    (hs : ∀ elems spare, y.1 = .slice elems spare → (elems.length + spare.length) * Try.prog.bytesOf 5 ≤ reachBytes) : ∃ ao n c zs, v = .slice ao n c ∧ Seen W ao n zs ∧ n ≤ c := by
  rcases open_ints Try.underlying31 Try.underlying5 (by kernel_rfl) h with ⟨hcs, _⟩ | ⟨x, l, c, zs, hcs, _, hl, hm, hz, hx, hcell, hwz⟩
  · simp at hcs
    subst hcs
    exact ⟨none, 0, 0, [], rfl, Seen.empty _ _, Nat.le_refl _⟩
  · simp at hcs
    subst hcs
    have hz' : zs.length = c := by simpa using hz
    have h1 := hs _ _ (by rw [hx])
    rw [lBytesOf] at h1
    simp only [lits, List.length_map, List.length_take, List.length_drop, reachBytes] at h1
    exact ⟨some x, l, c, _, rfl, Seen.of_ints (by omega) hl hz' hcell hwz, hl⟩
theorem lSized_in {H : Type} {y0 y1 y2 y3 : DataW H} (h : (DataW.weightsEach Try.prog [33] [.agg [y0, y1, y2, y3]]).all (· ≤ reachBytes) = true) :
    (∀ elems spare, y2 = .slice elems spare → (elems.length + spare.length) * Try.prog.bytesOf 5 ≤ reachBytes) ∧ (∀ elems spare, y3 = .slice elems spare → (elems.length + spare.length) * Try.prog.bytesOf 5 ≤ reachBytes) := by
  constructor
  · rintro elems spare rfl
    simp only [DataW.weightsEach, DataW.weights, Try.underlying33, Try.underlying31, List.all_append, Bool.and_eq_true, List.map_cons, List.map_nil, List.all_cons, decide_eq_true_eq] at h
    simp_all
  · rintro elems spare rfl
    simp only [DataW.weightsEach, DataW.weights, Try.underlying33, Try.underlying31, List.all_append, Bool.and_eq_true, List.map_cons, List.map_nil, List.all_cons, decide_eq_true_eq] at h
    simp_all
theorem lOne_cell (cs : List Value) (i : Nat) (hi : i < cs.length) : (cs.drop i).take 1 = [cs[i]] := by
  rw [List.drop_eq_getElem_cons hi, List.take_succ_cons, List.take_zero]
theorem lSized_head {H : Type} {t : TypeId} {ts : List TypeId} {d : DataW H} {ds : List (DataW H)} (h : (DataW.weightsEach Try.prog (t :: ts) (d :: ds)).all (· ≤ reachBytes) = true) : (DataW.weightsEach Try.prog [t] [d]).all (· ≤ reachBytes) = true := by
  simp only [DataW.weightsEach, List.all_append, Bool.and_eq_true, List.append_nil] at h ⊢
  first | exact h.1 | exact ⟨h.1, rfl⟩ | simp_all
theorem case_in {H : Type} {enc : TypeId × Value → H} {W : World} {fuel : Nat} {cs : List Value} {x : DataW H × List MemPlace} (h : DataW.trod enc Try.prog W 0 (fun _ => true) true fuel 33 cs = some x)
    (hsz : (DataW.weightsEach Try.prog [33] [x.1]).all (· ≤ reachBytes) = true) :
    ∃ (key nonce : List Int) (ao : Option Addr) (n c : Nat) (ms : List Int) (bo : Option Addr) (m d : Nat) (zs : List Int), cs = caseC key nonce ao n c bo m d ∧ CsIn W key nonce ao n c ms bo m d zs := by
  obtain ⟨xs, n, _, hx, hlen, hxl, hf⟩ := DataW.trod_struct Try.underlying33 h
  rw [lCellsCase] at hlen
  match xs, hxl with
  | [y0, y1, y2, y3], _ =>
    have f0 : DataW.trod enc Try.prog W 0 (fun _ => true) true n 30 (cs.take 32) = some y0 := by simpa [lCellsKey] using hf 0 _ rfl
    have f1 : DataW.trod enc Try.prog W 0 (fun _ => true) true n 25 ((cs.drop 32).take 12) = some y1 := by simpa [lCellsKey, lCellsNonce] using hf 1 _ rfl
    have f2 : DataW.trod enc Try.prog W 0 (fun _ => true) true n 31 ((cs.drop 44).take 1) = some y2 := by simpa [lCellsKey, lCellsNonce, lCellsL] using hf 2 _ rfl
    have f3 : DataW.trod enc Try.prog W 0 (fun _ => true) true n 31 ((cs.drop 45).take 1) = some y3 := by simpa [lCellsKey, lCellsNonce, lCellsL] using hf 3 _ rfl
    obtain ⟨key, e0, l0, b0⟩ := lBytes_arr Try.underlying30 lCellsKey f0
    obtain ⟨nonce, e1, l1, b1⟩ := lBytes_arr Try.underlying25 lCellsNonce f1
    rw [lOne_cell cs 44 (by omega)] at f2
    rw [lOne_cell cs 45 (by omega)] at f3
    have hz : (DataW.weightsEach Try.prog [33] [.agg [y0.1, y1.1, y2.1, y3.1]]).all (· ≤ reachBytes) = true := by
      have e : x.1 = .agg [y0.1, y1.1, y2.1, y3.1] := by rw [hx]; simp
      rw [← e]; exact hsz
    obtain ⟨ao, n', c, ms, em, hm, hc⟩ := lList_in f2 (lSized_in hz).1
    obtain ⟨bo, m, d, zs, ez, hzs, hd⟩ := lList_in f3 (lSized_in hz).2
    refine ⟨key, nonce, ao, n', c, ms, bo, m, d, zs, ?_, ⟨l0, l1, b0, b1, hm, hzs, hc, hd⟩⟩
    rw [caseC, ← e0, ← e1, ← em, ← ez]
    have d1 : cs.drop 44 = [cs[44], cs[45]] := by
      rw [List.drop_eq_getElem_cons (by omega), List.drop_eq_getElem_cons (by omega), List.drop_eq_nil_of_le (by omega)]
    have d2 : cs.drop 32 = (cs.drop 32).take 12 ++ cs.drop 44 := by
      have := (List.take_append_drop 12 (cs.drop 32)).symm
      rwa [List.drop_drop] at this
    rw [← d1, ← d2, List.take_append_drop]
theorem zeroCase (w : World) : CsIn w (List.replicate 32 0) (List.replicate 12 0) none 0 0 [] none 0 0 [] := ⟨rfl, rfl, rep0_bytes _, rep0_bytes _, Seen.empty _ _, Seen.empty _ _, Nat.le_refl _, Nat.le_refl _⟩
end Go.Proofs.Ytogplebajpdmoaa
