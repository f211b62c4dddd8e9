/- Joined texts: LPeek LWorks LNonce RTAdd RTMul RTPart RTPart2 RTFold RTHalf RTSum. -/
import Derived.Test.YtcimiajkbgabiaaYG
import Derived.Test.YtcimiajkbgabiaaYD
import Derived.Test.YtcimiajkbgabiaaYB
import Derived.Test.YtcimiajkbgabiaaYF
namespace Go.Proofs.Ytcimiajkbgabiaa
open Go.RowKit
set_option linter.unusedVariables false
set_option linter.unusedSimpArgs false

set_option maxRecDepth 20000 in
set_option maxHeartbeats 1000000 in
theorem peek_bad (key nonce : List Int) (n c m d : Nat) (ao bo : Option Addr) (t1 : n ≤ 140737488355328) (t2 : m ≤ 140737488355328) (E : Int) (hE : boxE n m = E) (h0 : E ≠ 0) (w : World) :
    Calls Try.prog 18 #[.agg (u8s key).toArray, .agg (u8s nonce).toArray, .slice ao n c, .slice bo m d] w fun e w' => e = .returned (.tuple #[.slice none 0 0, .int .u64 0, .int .i64 E]) ∧ Below w.heap.size w w' := by
  have q0 : (E != 0) = true := by simp [h0]
  go_enter Try.func18, Try.ntmps18
  go_wp2_with (first | (refine wpList_box_new rfl 27 _ rfl (u8s key) rfl ?_; intro w1 b1 s1 l1) | (refine wpList_box_new rfl 42 _ rfl (u8s nonce) rfl ?_; intro w2 b2 s2 l2) | (go_at_call 31; refine (checkBox_any ao bo n c m d t1 t2 _).mono ?_; rintro e w' ⟨rfl, rfl⟩; rw [hE]))
  go_ret3
  exact ⟨rfl, below_chain l1 l2 (by omega)⟩
/-- What Peek tells: the text, or as many bytes 0. -/
def peekL (key nonce more box : List Int) : List Int := if opensL key nonce more box = true then textL key nonce box else List.replicate (box.length - 16) 0
theorem peekL_length (key nonce more box : List Int) : (peekL key nonce more box).length = box.length - 16 := by
  unfold peekL
  split
  · exact textL_length _ _ _
  · simp
theorem mix_peek (key nonce more box : List Int) (h : Bytes box) : mix (mk (!opensL key nonce more box)) (box.length - 16) (textL key nonce box) (List.replicate (box.length - 16) 0) = peekL key nonce more box := by
  have hl := textL_length key nonce box
  have hb := textL_bytes key nonce h
  unfold peekL
  cases opensL key nonce more box with
  | true => simp only [Bool.not_true, mk_false, if_true]; exact mix_no _ _ _ hb
  | false =>
    simp only [Bool.not_false, mk_true, Bool.false_eq_true, if_false]
    have := mix_yes (textL key nonce box) (List.replicate (box.length - 16) 0) hb (rep0_bytes _) (by simp [hl])
    rwa [hl] at this
theorem isO_len {B n : Nat} {zs : List Int} {v : Value} {W : World} (h : isO B n zs v W) (hl : zs.length = n) : (v = .slice none 0 0 ∧ n = 0 ∧ zs = []) ∨ ∃ g cap, v = .slice (some ⟨g, 0, none⟩) n cap ∧ RowC W g cap zs ∧ B ≤ g ∧ n ≤ cap ∧ cap ≤ maxLen := by
  rcases own_len hl h with ⟨rfl, rfl⟩ | ⟨g, cap, rfl, hr, hg, h1, h2⟩
  · exact .inl ⟨rfl, rfl, List.length_eq_zero_iff.1 hl⟩
  · exact .inr ⟨g, cap, rfl, RowC.of_own h, hg, h1, h2⟩
set_option maxRecDepth 20000 in
set_option maxHeartbeats 1000000 in
theorem peek_any (key nonce : List Int) (n c m d : Nat) (ao bo : Option Addr) (ms zs : List Int) (hk : key.length = 32) (hno : nonce.length = 12) (hkb : Bytes key) (hnb : Bytes nonce) (h16 : 16 ≤ m) (hm : m ≤ 1048592) (hn : n ≤ 1048576) (w : World) (hx : Seen w ao n ms) (hy : Seen w bo m zs) (hc : n ≤ c) (hd : m ≤ d) :
    Calls Try.prog 18 #[.agg (u8s key).toArray, .agg (u8s nonce).toArray, .slice ao n c, .slice bo m d] w fun e w' => ∃ v, e = .returned (.tuple #[v, .int .u64 (mk (opensL key nonce ms zs)), .int .i64 0]) ∧ isO w.heap.size (m - 16) (peekL key nonce ms zs) v w' ∧ Below w.heap.size w w' := by
  obtain ⟨M, rfl⟩ : ∃ M, m = M + 16 := ⟨m - 16, by omega⟩
  have hM : M ≤ 1048576 := by omega
  have HX : Hid (Seen w ao n ms ∧ Seen w bo (M + 16) zs ∧ n ≤ c ∧ M + 16 ≤ d) := ⟨hx, hy, hc, hd⟩
  have HS : Hid (key.length = 32 ∧ nonce.length = 12 ∧ Bytes key ∧ Bytes nonce) := ⟨hk, hno, hkb, hnb⟩
  have t1 := hx.top
  have t2 := hy.top
  have hE := boxE_ok h16 hm hn
  obtain ⟨X, hXX⟩ : ∃ X, textL key nonce zs = X := ⟨_, rfl⟩
  obtain ⟨P, hP⟩ : ∃ P, peekL key nonce ms zs = P := ⟨_, rfl⟩
  have hl : zs.length - 16 = M := by rw [hy.len]; omega
  have HL : Hid (textL key nonce zs = X ∧ X.length = M ∧ Bytes X ∧ P.length = M ∧ (mix (mk (!opensL key nonce ms zs)) M X (List.replicate M 0) = P)) := by
    refine ⟨hXX, by rw [← hXX, textL_length, hl], by rw [← hXX]; exact textL_bytes _ _ hy.bytes, by rw [← hP, peekL_length, hl], ?_⟩
    have := mix_peek key nonce ms zs hy.bytes
    rwa [hl, hXX, hP] at this
  obtain ⟨O, hO⟩ : ∃ b, opensL key nonce ms zs = b := ⟨_, rfl⟩
  rw [hO] at HL
  rw [hO, hP, Nat.add_sub_cancel]
  have nm := not_mk O
  clear hx hy hk hno hkb hnb hc hd hXX hP hl
  go_enter Try.func18, Try.ntmps18
  go_wp2_with (first | (refine wpList_box_new rfl 27 _ rfl (u8s key) rfl ?_; intro w1 b1 s1 l1) | (refine wpList_box_new rfl 42 _ rfl (u8s nonce) rfl ?_; intro w2 b2 s2 l2) | (go_at_call 31; refine (checkBox_any ao bo n c (M + 16) d t1 t2 _).mono ?_; rintro e w' ⟨rfl, rfl⟩; rw [hE]) | (refine wpList_load_blk rfl 27 _ rfl _ rfl (u8s key) _ (by first | exact b1.later l2 (by omega)) Try.underlying27 rfl (by rw [u8s_length, HS.out.1]; exact sizeKey) ?_) | (refine wpList_load_blk rfl 42 _ rfl _ rfl (u8s nonce) _ (by first | exact b2 | (rw [← s1]; exact b2)) Try.underlying42 rfl (by rw [u8s_length, HS.out.2.1]; exact sizeNonce) ?_))
  refine (uncovered_any key nonce n c (M + 16) d ao bo ms zs HS.out.1 HS.out.2.1 HS.out.2.2.1 HS.out.2.2.2 h16 hm _ (HX.out.1.later (below_chain l1 l2 (by omega)) (Nat.le_refl _)) (HX.out.2.1.later (below_chain l1 l2 (by omega)) (Nat.le_refl _)) HX.out.2.2.1 HX.out.2.2.2).mono ?_
  rintro e w3 ⟨v, rfl, o3, l3⟩
  rw [hO]
  rw [HL.out.1, Nat.add_sub_cancel] at o3
  have HO : Hid (Below w.heap.size w w3 ∧ w.heap.size ≤ w2.heap.size) := ⟨below_chain (below_chain l1 l2 (by omega)) l3 (by omega), by omega⟩
  obtain ⟨i0, hi, hz0, hz1, hz2⟩ := info_parts info_byte
  have hmk := run_make (P := Try.prog) w3 22 5 i0 (.int .u8 0) Try.underlying22 hi hz0 .i64 .i64 (M : Int) (M : Int) (by omega) (Int.le_refl _) (by rw [hz2]; omega) (by omega)
  rw [hz1, show ((M : Int).toNat) = M by omega, Nat.mul_one, show (Value.int .u8 0).cells = #[.int .u8 0] from rfl, madeZ] at hmk
  obtain ⟨w4, hw4, HB⟩ : ∃ w4, w3.alloc (.cells (u8s (List.replicate M 0)).toArray 5) = w4 ∧ Hid (Blk w4 w3.heap.size 5 (u8s (List.replicate M 0)) ∧ Below w3.heap.size w3 w4) := ⟨_, rfl, ⟨heap_alloc_new w3 _, (Below.refl _ _).alloc (Nat.le_refl _) _⟩⟩
  rw [hw4] at hmk
  clear hw4 hi hz0 hz1 hz2 l1 l2 l3 b1 s1 b2 s2
  rcases isO_len o3 HL.out.2.1 with ⟨rfl, rfl, hX0⟩ | ⟨g, cap, rfl, hr, hg, hcap, hmax⟩
  · have HP : Hid (P = [] ∧ w4.heap.size = w4.heap.size ∧ Below w.heap.size w w4) := ⟨List.length_eq_zero_iff.1 HL.out.2.2.2.1, rfl, below_chain HO.out.1 HB.out.2 HO.out.1.size⟩
    clear o3
    rw [show ((0 : Nat) : Int) = 0 from rfl] at hmk
    go_wp2_with (go_at_call 33; refine (mcopy_none _ _ _ _ _ _).mono ?_; rintro e w' ⟨rfl, rfl⟩)
    go_ret3
    exact ⟨_, rfl, by rw [HP.out.1]; exact World.ownsRow_nil _ _ _ _, HP.out.2.2⟩
  · have hgl := hr.lt
    have H4 : Hid (RowC w4 g cap X ∧ w.heap.size ≤ g ∧ cap ≤ maxLen ∧ Below w.heap.size w w4) := ⟨hr.later HB.out.2 (Nat.le_refl _), by have := HO.out.2; omega, hmax, below_chain HO.out.1 HB.out.2 HO.out.1.size⟩
    have hcp := mcopy_any (mk (!O)) (mk_bd _) g w3.heap.size 0 M cap M X (List.replicate M 0) (by omega) (by have := HL.out.2.1; omega) (by simp) HL.out.2.2.1 (rep0_bytes _) (by unfold maxLen; omega) w4 H4.out.1 HB.out.1.lt (fun i hi => by rw [Nat.zero_add]; exact u8s_cell HB.out.1 i (by simpa using hi))
    rw [HL.out.2.2.2.2] at hcp
    clear o3 hr hgl hmax hg
    go_wp2_with fail
    refine hcp.mono ?_
    rintro e w5 ⟨rfl, r5, k5⟩
    clear hcp
    go_wp2_with fail
    go_ret3
    exact ⟨_, rfl, r5.own HL.out.2.2.2.1 H4.out.2.1 H4.out.2.2.1, below_kept H4.out.2.2.2 k5 H4.out.2.2.2.size (fun j hj => by have := H4.out.2.1; omega)⟩
end Go.Proofs.Ytcimiajkbgabiaa

namespace Go.Proofs.Ytcimiajkbgabiaa
open Go.RowKit
set_option linter.unusedVariables false
set_option linter.unusedSimpArgs false

theorem isO_seen {B n : Nat} {zs : List Int} {v : Value} {W : World} (h : isO B n zs v W) (hl : zs.length = n) (hb : Bytes zs) (ht : n ≤ 140737488355328) : ∃ vo cap, v = .slice vo n cap ∧ Seen W vo n zs ∧ n ≤ cap ∧ (vo = none → cap = 0) ∧ (∀ b o, vo = some ⟨b, o, none⟩ → B ≤ b) := by
  subst hl
  obtain ⟨vo, cap, rfl, h1, h2, h3, h4, _⟩ := own_data hb ht h
  exact ⟨vo, cap, rfl, h1, h2, h3, fun b o e => (h4 b o e).1⟩
def sKey : List Int := 1 :: 2 :: 3 :: List.replicate 29 0
def sNon : List Int := 4 :: List.replicate 11 0
theorem sKey_bytes : Bytes sKey := fun z hz => by
  simp only [sKey, List.mem_cons] at hz
  rcases hz with rfl | rfl | rfl | h
  · decide
  · decide
  · decide
  · exact rep0_bytes _ z h
theorem sNon_bytes : Bytes sNon := fun z hz => by
  rcases List.mem_cons.1 hz with rfl | h
  · decide
  · exact rep0_bytes _ z h
theorem sZero : (Try.prog.info? 27).map (fun i => (i.zero, i.size)) = some (some (.agg (u8s (List.replicate 32 0)).toArray), 32) := by kernel_rfl
theorem b5 : Bytes [5] := fun z hz => by simp at hz; subst hz; decide
theorem b67 : Bytes [6, 7] := fun z hz => by simp at hz; rcases hz with rfl | rfl <;> decide
set_option maxRecDepth 20000 in
set_option maxHeartbeats 4000000 in
theorem sworks_any (w : World) : Calls Try.prog 20 #[] w fun e w' => e = .returned (.bool true) ∧ Below w.heap.size w w' := by
  have hob := opens_box sKey sNon [5] (zs := [6, 7])
  have htb := text_box sKey sNon [5] b67
  have hbl := boxL_length sKey sNon [5] [6, 7]
  have hbb := boxL_bytes sKey sNon [5] b67
  obtain ⟨X, hX⟩ : ∃ X, boxL sKey sNon [5] [6, 7] = X := ⟨_, rfl⟩
  rw [hX] at hob htb hbl hbb
  have HX : Hid (boxL sKey sNon [5] [6, 7] = X ∧ X.length = 18 ∧ Bytes X ∧ opensL sKey sNon [5] X = true ∧ textL sKey sNon X = [6, 7]) := ⟨hX, hbl, hbb, hob, htb⟩
  clear hX hob htb hbl hbb
  go_enter Try.func20, Try.ntmps20
  go_wp2_with (first | (refine wpList_alloc_new rfl 27 rfl 32 _ sZero ?_; intro w1 b1 s1 l1) | (refine wpList_store_blk rfl 27 27 _ _ rfl _ rfl _ (u8s sKey) rfl b1 rfl sizeKey (u8s_one _) ?_; intro w2 b2 s2 k2) | (refine wpList_load_blk rfl 27 _ rfl w.heap.size rfl (u8s sKey) _ b2 Try.underlying27 rfl sizeKey ?_))
  have b3 : Blk (w2.alloc (.cells #[.int .u8 5] 5)) w2.heap.size 5 (u8s [5]) := heap_alloc_new w2 _
  have l3 : Below w2.heap.size w2 (w2.alloc (.cells #[.int .u8 5] 5)) := (Below.refl _ _).alloc (Nat.le_refl _) _
  have s3 : (w2.alloc (.cells #[.int .u8 5] 5)).heap.size = w2.heap.size + 1 := by simp
  obtain ⟨w3, hw3⟩ : ∃ W, w2.alloc (.cells #[.int .u8 5] 5) = W := ⟨_, rfl⟩
  rw [hw3] at b3 l3 s3 ⊢
  have b4 : Blk (w3.alloc (.cells #[.int .u8 6, .int .u8 7] 5)) w3.heap.size 5 (u8s [6, 7]) := heap_alloc_new w3 _
  have l4 : Below w3.heap.size w3 (w3.alloc (.cells #[.int .u8 6, .int .u8 7] 5)) := (Below.refl _ _).alloc (Nat.le_refl _) _
  obtain ⟨w4, hw4⟩ : ∃ W, w3.alloc (.cells #[.int .u8 6, .int .u8 7] 5) = W := ⟨_, rfl⟩
  rw [hw4] at b4 l4 ⊢
  clear hw3 hw4
  have H4 : Hid (Blk w4 w.heap.size 27 (u8s sKey) ∧ Blk w4 w2.heap.size 5 (u8s [5]) ∧ Blk w4 w3.heap.size 5 (u8s [6, 7]) ∧ Below w.heap.size w w4) :=
    ⟨(b2.later l3 (by omega)).later l4 (by omega), b3.later l4 (by omega), b4, below_chain (below_chain (below_kept l1 k2 (by omega) (fun j hj => by omega)) l3 (by omega)) l4 (by omega)⟩
  have e2 : w2.heap.size = w.heap.size + 1 := by omega
  have e3 : w3.heap.size = w.heap.size + 1 + 1 := by omega
  rw [e2, e3] at H4
  clear b1 l1 b2 k2 b3 l3 b4 l4
  refine (seal_any sKey sNon 1 1 2 2 (some ⟨w.heap.size + 1, 0, none⟩) (some ⟨w.heap.size + 1 + 1, 0, none⟩) [5] [6, 7] rfl rfl sKey_bytes sNon_bytes (by decide) (by decide) w4 (seen_blk H4.out.2.1 b5 (by decide)) (seen_blk H4.out.2.2.1 b67 (by decide)) (Nat.le_refl _) (Nat.le_refl _)).mono ?_
  rintro e w5 ⟨v, rfl, o5, l5⟩
  rw [HX.out.1] at o5
  obtain ⟨vo, cap, rfl, d5, hc5, _⟩ := isO_seen (n := 2 + 16) o5 HX.out.2.1 HX.out.2.2.1 (by decide)
  have H5 : Hid (Blk w5 w.heap.size 27 (u8s sKey) ∧ Seen w5 vo 18 X ∧ 18 ≤ cap ∧ Below w.heap.size w w5) := ⟨H4.out.1.later l5 H4.out.1.lt, d5, hc5, below_chain H4.out.2.2.2 l5 H4.out.2.2.2.size⟩
  clear o5 d5 hc5 l5 H4
  go_wp2_with (first | (refine wpList_load_blk rfl 27 _ rfl w.heap.size rfl (u8s sKey) _ H5.out.1 Try.underlying27 rfl sizeKey ?_))
  have b6 : Blk (w5.alloc (.cells #[.int .u8 5] 5)) w5.heap.size 5 (u8s [5]) := heap_alloc_new w5 _
  have l6 : Below w5.heap.size w5 (w5.alloc (.cells #[.int .u8 5] 5)) := (Below.refl _ _).alloc (Nat.le_refl _) _
  obtain ⟨w6, hw6⟩ : ∃ W, w5.alloc (.cells #[.int .u8 5] 5) = W := ⟨_, rfl⟩
  rw [hw6] at b6 l6 ⊢
  clear hw6
  have q6 := l6.size
  refine (open_yes sKey sNon 1 1 18 cap (some ⟨w5.heap.size, 0, none⟩) vo [5] X rfl rfl sKey_bytes sNon_bytes (by decide) (by decide) (by decide) w6 (seen_blk b6 b5 (by decide)) (H5.out.2.1.later l6 (Nat.le_refl _)) (Nat.le_refl _) H5.out.2.2.1 HX.out.2.2.2.1).mono ?_
  rintro e w7 ⟨v, rfl, o7, l7⟩
  rw [HX.out.2.2.2.2] at o7
  obtain ⟨vp, cap2, rfl, d7, hc7, _⟩ := isO_seen (n := 18 - 16) o7 rfl b67 (by decide)
  have H7 : Hid (Seen w7 vp 2 [6, 7] ∧ 2 ≤ cap2 ∧ Below w.heap.size w w7) := ⟨d7, hc7, below_chain (below_chain H5.out.2.2.2 l6 H5.out.2.2.2.size) l7 (by have := H5.out.2.2.2.size; omega)⟩
  clear o7 d7 hc7 l7 b6 l6
  go_wp2_with fail
  have b8 : Blk (w7.alloc (.cells #[.int .u8 6, .int .u8 7] 5)) w7.heap.size 5 (u8s [6, 7]) := heap_alloc_new w7 _
  have l8 : Below w7.heap.size w7 (w7.alloc (.cells #[.int .u8 6, .int .u8 7] 5)) := (Below.refl _ _).alloc (Nat.le_refl _) _
  obtain ⟨w8, hw8⟩ : ∃ W, w7.alloc (.cells #[.int .u8 6, .int .u8 7] 5) = W := ⟨_, rfl⟩
  rw [hw8] at b8 l8 ⊢
  clear hw8
  refine (eqb_yes vp _ 2 cap2 2 [6, 7] _ (H7.out.1.later l8 (Nat.le_refl _)) (seen_blk b8 b67 (by decide))).mono ?_
  rintro e w9 ⟨rfl, q, rfl⟩
  go_wp2_with fail
  go_ret
  exact ⟨rfl, below_dn (below_chain H7.out.2.2 l8 H7.out.2.2.size) _⟩
end Go.Proofs.Ytcimiajkbgabiaa

namespace Go.Proofs.Ytcimiajkbgabiaa
open Go.RowKit Go.Joins
set_option linter.unusedVariables false
set_option linter.unusedSimpArgs false

/-- An array of bytes is itself. -/
theorem equalA (t : TypeId) (n : Nat) (ht : Try.prog.underlying t = some (.array n 5)) (d : Nat) (zs : List Int) (hl : zs.length = n) (w : World) : (Op.equalIn (d + 2) t (.agg (u8s zs).toArray) (.agg (u8s zs).toArray)).run Try.prog w = .ok true w := by
  have hsz : ∀ w, (sizeOf 5).run Try.prog w = .ok 1 w := fun w => by
    have h := infoByte
    cases hq : Try.prog.info? 5 with
    | none => simp [hq] at h
    | some i => simp [hq] at h; simp [sizeOf, typeInfo, hq, h.2]
  have he := Try.underlying5
  rw [Op.equalIn]
  simp only [Sem.run_bind, run_underlying ht, Result.andThen_ok, hsz, Std.Legacy.Range.forIn_eq_forIn_range', Std.Legacy.Range.size, Nat.sub_zero, Nat.add_sub_cancel, Nat.div_one]
  have hlr : ∀ i ∈ List.range' 0 n 1, i < n := fun i hi => by simpa using (List.mem_range'_1.1 hi).2
  generalize List.range' 0 n 1 = l at hlr ⊢
  induction l with
  | nil => simp
  | cons i l ih =>
    have hi : i < n := hlr i (by simp)
    have px : (Go.part 5 (u8s zs).toArray (i * 1)).run Try.prog w = .ok (.int .u8 (zs.getD i 0)) w := by
      simp [Go.part, isAgg, run_underlying he, u8s, List.getD, List.getElem?_eq_getElem (show i < zs.length by omega)]
    have pe : (Op.equalIn (d + 1) 5 (.int .u8 (zs.getD i 0)) (.int .u8 (zs.getD i 0))).run Try.prog w = .ok true w := by
      rw [run_equalIn_int w d 5 .u8 .u8 _ _ he]; simp
    simp only [List.forIn_cons, Sem.run_bind, px, pe, Result.andThen_ok]
    simp only [Bool.not_true, Bool.false_eq_true, if_false, Sem.run_pure, Result.andThen_ok]
    exact ih fun j hj => hlr j (by simp [hj])
def nonL (kind number : Int) : List Int := leB 4 kind ++ leB 8 number
theorem nonL_length (a b : Int) : (nonL a b).length = 12 := by simp [nonL, leB_length]
theorem nonL_bytes (a b : Int) : Bytes (nonL a b) := bytes_app (leB_bytes _ _) (leB_bytes _ _)
theorem zeroNon : (Try.prog.info? 42).map (fun i => (i.zero, i.size)) = some (some (.agg (u8s (zs0 12)).toArray), 12) := by kernel_rfl
theorem row_range {w : World} {g : Nat} {zs : List Int} (h : RowAt w g zs) : w.rangeAt g 0 (u8s zs) := fun j v hv => by
  have hj : j < zs.length := by have := (List.getElem?_eq_some_iff.1 hv).1; simpa [u8s] using this
  rw [Nat.zero_add, h.cell j hj, ← hv]
  simp [u8s, List.getD, hj]
set_option maxRecDepth 20000 in
set_option maxHeartbeats 1000000 in
theorem rlit_any (x : Int) (hx : 0 ≤ x ∧ x < 18446744073709551616) (m : Nat) (hm : m ≤ 8) (w : World) :
    Calls Try.prog 64 #[.int .u64 x, .int .i64 m] w fun e w' => ∃ v, e = .returned v ∧ w'.ownsRow w.heap.size 5 1 v m ((leB m x).map (Value.int .u8)) ∧ Below w.heap.size w w' := by
  obtain ⟨i0, hi, hz0, hz1, hz2⟩ := info_parts info_byte
  have HL : Hid ((leB m x).length = m ∧ ∀ k, k < m → (leB m x).getD k 0 = x / 2 ^ (8 * k) % 256) := ⟨leB_length _ _, fun k hk => by rw [leB_at _ _ _ hk, byteAt_eq]⟩
  generalize leB m x = zs at *
  go_enter Try.func64, Try.ntmps64
  go_wp2_with fail
  go_loopw [5, 6] (fun v i wr => ∃ k : Nat, k ≤ m ∧ i = .int .i64 k ∧ wr.ownsRow w.heap.size 5 1 v k ((zs.map (Value.int .u8)).take k) ∧ Below w.heap.size w wr) (fun _ i _ => m - (intOf i).toNat)
  case atStart => exact ⟨0, Nat.zero_le _, rfl, World.ownsRow_nil _ _ _ _, Below.refl _ _⟩
  case round =>
    obtain ⟨k, hk, rfl, hown, hbel⟩ := hrel
    have hsz := hbel.size
    by_cases hlt : k < m
    · have HZ : Hid (zs.getD k 0 = x / 2 ^ (8 * k) % 256) := HL.out.2 k hlt
      have i1 : (k : Int) < (m : Int) := by omega
      have i2 : (0 : Int) ≤ (k : Int) := by omega
      go_wp2_with (at_builtin; refine wpList_append_own _ rfl _ _ 22 rfl w.heap.size 5 i0 (.int .u8 0) 1 1 Try.underlying22 hi hz0 hz1 hz2 rfl (by decide) _ _ _ rfl (hown.alloc _) ⟨wr.heap.size, 0, none⟩ 1 1 [.int .u8 (x / 2 ^ (8 * k) % 256)] rfl rfl ?c1 ?c2 ?c3 ?c4 ?c5 ?_)
      try case c1 => exact one_new _ _ _
      case c2 => first | rfl | (intro u hu; simp at hu; subst hu; rfl)
      case c3 => unfold maxLen; omega
      case c4 => omega
      case c5 => first | omega | (simp; omega)
      · intro v' w1 hown' hgrow _
        have R := step_own hbel hown (by rw [HL.out.1]; exact hlt) HZ.out hown' hgrow
        clear hown' hgrow hown hbel
        go_wp2_with fail
        exact ⟨⟨k + 1, by omega, by go_num, R.1, R.2⟩, by simp [intOf]; omega⟩
    · obtain rfl : m = k := by omega
      have HO : Hid (wr.ownsRow w.heap.size 5 1 u5 m (zs.map (Value.int .u8)) ∧ Below w.heap.size w wr) := ⟨by have h := hown; rwa [List.take_of_length_le (by simp [HL.out.1])] at h, hbel⟩
      clear hown hbel
      go_wp2_with fail
      go_ret
      exact ⟨_, rfl, HO.out⟩
end Go.Proofs.Ytcimiajkbgabiaa

namespace Go.Proofs.Ytcimiajkbgabiaa
open Go.RowKit
set_option linter.unusedVariables false
set_option linter.unusedSimpArgs false

/-- Something is added at a place. -/
theorem add_place {L : List Int} {i : Nat} {x b c : Int} (hi : i < L.length) (h : ∀ y ∈ L, 0 ≤ y ∧ y ≤ b) (hx : 0 ≤ x ∧ x ≤ c) (hb : 0 ≤ b) :
    (L.set i (L.getD i 0 + x)).length = L.length ∧ (∀ y ∈ L.set i (L.getD i 0 + x), 0 ≤ y ∧ y ≤ b + c) ∧ le (L.set i (L.getD i 0 + x)) = le L + 256 ^ i * x := by
  refine ⟨by simp, fun y hy => ?_, le_set L i x hi⟩
  have e : L.getD i 0 = L[i] := by simp [List.getD, hi]
  have h1 := h L[i] (List.getElem_mem hi)
  rcases List.mem_or_eq_of_mem_set hy with hm | rfl
  · have := h y hm; omega
  · rw [e]; omega
theorem rep0_small (N : Nat) : ∀ y ∈ List.replicate N (0 : Int), 0 ≤ y ∧ y ≤ 0 := fun y hy => by rw [List.eq_of_mem_replicate hy]; decide
theorem run_makeN (w : World) (n : Nat) (hn : n ≤ 2000) : (Instr.makeSlice 139 (.int .i64 (n : Int)) (.int .i64 (n : Int))).run Try.prog w = .ok (.slice (some ⟨w.heap.size, 0, none⟩) n n) (w.alloc (.cells (i64s (List.replicate n 0)).toArray 3)) := by
  obtain ⟨i0, hi, hz0, hz1, hz2⟩ := info_parts info_int
  have hmk := run_make (P := Try.prog) w 139 3 i0 (.int .i64 0) Try.underlying139 hi hz0 .i64 .i64 (n : Int) (n : Int) (by omega) (Int.le_refl _) (by rw [hz2]; omega) (by omega)
  rw [hz1, show ((n : Int).toNat) = n by omega, Nat.mul_one, show (Value.int .i64 0).cells = #[.int .i64 0] from rfl, madeN] at hmk
  exact hmk
theorem rowN_new (w : World) (zs : List Int) : RowN (w.alloc (.cells (i64s zs).toArray 3)) w.heap.size zs.length zs := ⟨[], by rw [List.append_nil]; exact heap_alloc_new w _, by simp⟩
theorem max_cases (n m : Nat) : ∃ N, n ≤ N ∧ m ≤ N ∧ N = Nat.max n m ∧ (((n : Int) < (m : Int) ∧ m = N) ∨ (¬ (n : Int) < (m : Int) ∧ n = N)) := by
  refine ⟨Nat.max n m, Nat.le_max_left _ _, Nat.le_max_right _ _, rfl, ?_⟩
  rcases Nat.lt_or_ge n m with h | h
  · exact .inl ⟨by omega, (Nat.max_eq_right (by omega)).symm⟩
  · exact .inr ⟨by omega, (Nat.max_eq_left h).symm⟩
theorem bytes_le {zs : List Int} (h : Bytes zs) (j : Nat) (hj : j < zs.length) : 0 ≤ zs.getD j 0 ∧ zs.getD j 0 ≤ 255 := by have := h.at j hj; omega
/-- The state of a sum under way. -/
structure SumAt (w1 : World) (G N : Nat) (wr : World) (L : List Int) (b v : Int) : Prop where
  row : RowN wr G N L
  len : L.length = N
  bd : ∀ y ∈ L, 0 ≤ y ∧ y ≤ b
  val : le L = v
  kept : Kept (fun k => k = G) w1 wr
set_option maxHeartbeats 4000000 in
set_option maxRecDepth 20000 in
theorem add_any (ao bo : Option Addr) (n m c d : Nat) (xs ys : List Int) (w : World) (hx : SeenN w ao n xs) (hy : SeenN w bo m ys) (ha : Bytes xs) (hb : Bytes ys) (hn : n ≤ 400) (hm : m ≤ 400) :
    Calls Try.prog 91 #[.slice ao n c, .slice bo m d] w fun e w' => ∃ v, e = .returned v ∧ ∃ es, isN es v w' ∧ Bytes es ∧ le es = le xs + le ys ∧ n ≤ es.length ∧ m ≤ es.length ∧ es.length ≤ Nat.max n m + 6 ∧ Below w.heap.size w w' := by
  have HX : Hid (SeenN w ao n xs ∧ SeenN w bo m ys ∧ Bytes xs ∧ Bytes ys ∧ xs.length = n ∧ ys.length = m) := ⟨hx, hy, ha, hb, hx.len, hy.len⟩
  clear hx hy ha hb
  obtain ⟨N, hN1, hN2, hN3, hN⟩ := max_cases n m
  have HM : Hid (N = Nat.max n m) := hN3
  have hN400 : N ≤ 400 := by omega
  have hmk := run_makeN w N (by omega)
  obtain ⟨w1, hw1, HB⟩ : ∃ w1, w.alloc (.cells (i64s (List.replicate N 0)).toArray 3) = w1 ∧ Hid (RowN w1 w.heap.size N (List.replicate N 0) ∧ Below w.heap.size w w1 ∧ w1.heap.size = w.heap.size + 1) := ⟨_, rfl, ⟨by have := rowN_new w (List.replicate N 0); simpa using this, (Below.refl _ _).alloc (Nat.le_refl _) _, by simp⟩⟩
  rw [hw1] at hmk
  clear hw1 hN3
  rcases hN with ⟨i0, rfl⟩ | ⟨i0, rfl⟩
  · go_enter Try.func91, Try.ntmps91
    go_wp2_with fail
    go_loopw [7] (fun i wr => ∃ k : Nat, k ≤ n ∧ i = .int .i64 k ∧ ∃ L, SumAt w1 w.heap.size m wr L (0 + 255 * (k : Int)) (0 + le (xs.take k))) (fun i _ => n - (intOf i).toNat)
    case atStart => exact ⟨0, Nat.zero_le _, rfl, _, HB.out.1, by simp, (fun y hy => by have := rep0_small _ y hy; omega), by rw [le_rep0]; rfl, Kept.refl _ _⟩
    case round =>
      obtain ⟨k, hk, rfl, L, hL⟩ := hrel
      by_cases hlt : k < n
      · obtain ⟨b, o, rfl, hb, hc⟩ := HX.out.1.cells (by omega)
        have hkL : k < L.length := by rw [hL.len]; omega
        have c1 : wr.cell? ⟨b, o + k, none⟩ = some (.int .i64 (xs.getD k 0)) := (hL.kept.cell (p := ⟨b, o + k, none⟩) (by show b < _; have := HB.out.2.2; omega) (by show ¬ b = _; omega)).trans ((HB.out.2.1.cell (p := ⟨b, o + k, none⟩) hb).trans (hc k hlt))
        have c2 := hL.row.cell k hkL
        have f2 := hL.row.frozen k
        have bd1 := bytes_le HX.out.2.2.1 k (by rw [HX.out.2.2.2.2.1]; exact hlt)
        have bd2 := hL.bd _ (List.getElem_mem hkL)
        have e2 : L[k] = L.getD k 0 := by simp [List.getD, hkL]
        rw [e2] at bd2
        have hpl := add_place hkL hL.bd bd1 (by omega)
        have HS : Hid (SumAt w1 w.heap.size m (wr.setCell ⟨w.heap.size, k, none⟩ (.int .i64 (L.getD k 0 + xs.getD k 0))).drew (L.set k (L.getD k 0 + xs.getD k 0)) (0 + 255 * ((k + 1 : Nat) : Int)) (0 + le (xs.take (k + 1)))) :=
          ⟨(hL.row.set k hkL _).drew, by rw [hpl.1, hL.len], (fun y hy => by have := hpl.2.1 y hy; omega), by rw [hpl.2.2, hL.val, le_take_succ _ _ (by rw [HX.out.2.2.2.2.1]; exact hlt), Int.add_assoc], (hL.kept.setCell (S := fun k => k = w.heap.size) rfl _).drew⟩
        obtain ⟨A, hA⟩ : ∃ A, xs.getD k 0 = A := ⟨_, rfl⟩
        obtain ⟨B, hB⟩ : ∃ B, L.getD k 0 = B := ⟨_, rfl⟩
        rw [hA] at c1 bd1 HS
        rw [hB] at c2 bd2 HS
        have i1 : (0 : Int) ≤ (k : Int) := by omega
        have i2 : (k : Int) < (n : Int) := by omega
        have i3 : (k : Int) < ((m : Nat) : Int) := by omega
        have w2' : IntKind.i64.wrap (B + A) = B + A := by simp only [IntKind.wrap, IntKind.bits, IntKind.signed]; simp; omega
        clear hc hA hB hL hpl e2 hkL
        go_wp2_with fail
        go_region
        all_goals
          go_wp2_with fail
          exact ⟨⟨k + 1, by omega, by go_num, _, HS.out⟩, by simp [intOf]; omega⟩
      · obtain rfl : n = k := by omega
        obtain ⟨L1, HL1⟩ : ∃ L1, Hid (SumAt w1 w.heap.size m wr L1 (0 + 255 * (n : Int)) (0 + le (xs.take n))) := ⟨L, hL⟩
        clear hL
        obtain ⟨w3, hw3⟩ : ∃ W, W = wr := ⟨_, rfl⟩
        subst hw3
        go_wp2_with fail
        go_loopw [8] (fun i wr => ∃ k : Nat, k ≤ m ∧ i = .int .i64 k ∧ ∃ L, SumAt w1 w.heap.size m wr L (255 * (n : Int) + 255 * (k : Int)) (le xs + le (ys.take k))) (fun i _ => m - (intOf i).toNat)
        case atStart => exact ⟨0, Nat.zero_le _, rfl, L1, HL1.out.row, HL1.out.len, (fun y hy => by have := HL1.out.bd y hy; omega), by rw [HL1.out.val, List.take_of_length_le (by rw [HX.out.2.2.2.2.1]; omega)]; simp [le], HL1.out.kept⟩
        case round =>
          obtain ⟨k, hk, rfl, L, hL⟩ := hrel
          by_cases hlt : k < m
          · obtain ⟨b, o, rfl, hb, hc⟩ := HX.out.2.1.cells (by omega)
            have hkL : k < L.length := by rw [hL.len]; omega
            have c1 : wr.cell? ⟨b, o + k, none⟩ = some (.int .i64 (ys.getD k 0)) := (hL.kept.cell (p := ⟨b, o + k, none⟩) (by show b < _; have := HB.out.2.2; omega) (by show ¬ b = _; omega)).trans ((HB.out.2.1.cell (p := ⟨b, o + k, none⟩) hb).trans (hc k hlt))
            have c2 := hL.row.cell k hkL
            have f2 := hL.row.frozen k
            have bd1 := bytes_le HX.out.2.2.2.1 k (by rw [HX.out.2.2.2.2.2]; exact hlt)
            have bd2 := hL.bd _ (List.getElem_mem hkL)
            have e2 : L[k] = L.getD k 0 := by simp [List.getD, hkL]
            rw [e2] at bd2
            have hpl := add_place hkL hL.bd bd1 (by omega)
            have HS : Hid (SumAt w1 w.heap.size m (wr.setCell ⟨w.heap.size, k, none⟩ (.int .i64 (L.getD k 0 + ys.getD k 0))).drew (L.set k (L.getD k 0 + ys.getD k 0)) (255 * (n : Int) + 255 * ((k + 1 : Nat) : Int)) (le xs + le (ys.take (k + 1)))) :=
              ⟨(hL.row.set k hkL _).drew, by rw [hpl.1, hL.len], (fun y hy => by have := hpl.2.1 y hy; omega), by rw [hpl.2.2, hL.val, le_take_succ _ _ (by rw [HX.out.2.2.2.2.2]; exact hlt), Int.add_assoc], (hL.kept.setCell (S := fun k => k = w.heap.size) rfl _).drew⟩
            obtain ⟨A, hA⟩ : ∃ A, ys.getD k 0 = A := ⟨_, rfl⟩
            obtain ⟨B, hB⟩ : ∃ B, L.getD k 0 = B := ⟨_, rfl⟩
            rw [hA] at c1 bd1 HS
            rw [hB] at c2 bd2 HS
            have i1 : (0 : Int) ≤ (k : Int) := by omega
            have i2 : (k : Int) < (m : Int) := by omega
            have i3 : (k : Int) < ((m : Nat) : Int) := by omega
            have w2' : IntKind.i64.wrap (B + A) = B + A := by simp only [IntKind.wrap, IntKind.bits, IntKind.signed]; simp; omega
            clear hc hA hB hL hpl e2 hkL
            go_wp2_with fail
            go_region
            all_goals
              go_wp2_with fail
              exact ⟨⟨k + 1, by omega, by go_num, _, HS.out⟩, by simp [intOf]; omega⟩
          · obtain rfl : m = k := by omega
            obtain ⟨L2, HL2⟩ : ∃ L2, Hid (SumAt w1 w.heap.size m wr L2 (255 * (n : Int) + 255 * (m : Int)) (le xs + le (ys.take m))) := ⟨L, hL⟩
            have hsn : SeenN wr (some ⟨w.heap.size, 0, none⟩) m L2 := by
              have := HL2.out.row.seen (by rw [HL2.out.len]; omega) (fun d hd => by have := HL2.out.bd d hd; omega)
              rwa [HL2.out.len] at this
            have hcl := clean_any (some ⟨w.heap.size, 0, none⟩) m m L2 wr hsn (by omega)
            have HW : Hid (Below w.heap.size w wr ∧ le L2 = le xs + le ys) := ⟨below_kept HB.out.2.1 HL2.out.kept HB.out.2.1.size (fun j hj => by omega), by rw [HL2.out.val, List.take_of_length_le (by rw [HX.out.2.2.2.2.2]; omega)]⟩
            clear hsn hL
            go_wp2_with fail
            refine hcl.mono ?_
            rintro e w2 ⟨v, rfl, es, hes⟩
            have HE : Hid (isN es v w2 ∧ Bytes es ∧ le es = le L2 ∧ m ≤ es.length ∧ es.length ≤ m + 6 ∧ Below wr.heap.size wr w2) := hes
            clear hes hcl
            go_wp2_with fail
            go_ret
            obtain ⟨h1, h2, h3, h4, h5, h6⟩ := HE.out
            exact ⟨_, rfl, es, h1, h2, by rw [h3, HW.out.2], by omega, by omega, by rw [← HM.out]; exact h5, below_chain HW.out.1 h6 HW.out.1.size⟩
  · go_enter Try.func91, Try.ntmps91
    go_wp2_with fail
    go_loopw [7] (fun i wr => ∃ k : Nat, k ≤ n ∧ i = .int .i64 k ∧ ∃ L, SumAt w1 w.heap.size n wr L (0 + 255 * (k : Int)) (0 + le (xs.take k))) (fun i _ => n - (intOf i).toNat)
    case atStart => exact ⟨0, Nat.zero_le _, rfl, _, HB.out.1, by simp, (fun y hy => by have := rep0_small _ y hy; omega), by rw [le_rep0]; rfl, Kept.refl _ _⟩
    case round =>
      obtain ⟨k, hk, rfl, L, hL⟩ := hrel
      by_cases hlt : k < n
      · obtain ⟨b, o, rfl, hb, hc⟩ := HX.out.1.cells (by omega)
        have hkL : k < L.length := by rw [hL.len]; omega
        have c1 : wr.cell? ⟨b, o + k, none⟩ = some (.int .i64 (xs.getD k 0)) := (hL.kept.cell (p := ⟨b, o + k, none⟩) (by show b < _; have := HB.out.2.2; omega) (by show ¬ b = _; omega)).trans ((HB.out.2.1.cell (p := ⟨b, o + k, none⟩) hb).trans (hc k hlt))
        have c2 := hL.row.cell k hkL
        have f2 := hL.row.frozen k
        have bd1 := bytes_le HX.out.2.2.1 k (by rw [HX.out.2.2.2.2.1]; exact hlt)
        have bd2 := hL.bd _ (List.getElem_mem hkL)
        have e2 : L[k] = L.getD k 0 := by simp [List.getD, hkL]
        rw [e2] at bd2
        have hpl := add_place hkL hL.bd bd1 (by omega)
        have HS : Hid (SumAt w1 w.heap.size n (wr.setCell ⟨w.heap.size, k, none⟩ (.int .i64 (L.getD k 0 + xs.getD k 0))).drew (L.set k (L.getD k 0 + xs.getD k 0)) (0 + 255 * ((k + 1 : Nat) : Int)) (0 + le (xs.take (k + 1)))) :=
          ⟨(hL.row.set k hkL _).drew, by rw [hpl.1, hL.len], (fun y hy => by have := hpl.2.1 y hy; omega), by rw [hpl.2.2, hL.val, le_take_succ _ _ (by rw [HX.out.2.2.2.2.1]; exact hlt), Int.add_assoc], (hL.kept.setCell (S := fun k => k = w.heap.size) rfl _).drew⟩
        obtain ⟨A, hA⟩ : ∃ A, xs.getD k 0 = A := ⟨_, rfl⟩
        obtain ⟨B, hB⟩ : ∃ B, L.getD k 0 = B := ⟨_, rfl⟩
        rw [hA] at c1 bd1 HS
        rw [hB] at c2 bd2 HS
        have i1 : (0 : Int) ≤ (k : Int) := by omega
        have i2 : (k : Int) < (n : Int) := by omega
        have i3 : (k : Int) < ((n : Nat) : Int) := by omega
        have w2' : IntKind.i64.wrap (B + A) = B + A := by simp only [IntKind.wrap, IntKind.bits, IntKind.signed]; simp; omega
        clear hc hA hB hL hpl e2 hkL
        go_wp2_with fail
        go_region
        all_goals
          go_wp2_with fail
          exact ⟨⟨k + 1, by omega, by go_num, _, HS.out⟩, by simp [intOf]; omega⟩
      · obtain rfl : n = k := by omega
        obtain ⟨L1, HL1⟩ : ∃ L1, Hid (SumAt w1 w.heap.size n wr L1 (0 + 255 * (n : Int)) (0 + le (xs.take n))) := ⟨L, hL⟩
        clear hL
        obtain ⟨w3, hw3⟩ : ∃ W, W = wr := ⟨_, rfl⟩
        subst hw3
        go_wp2_with fail
        go_loopw [8] (fun i wr => ∃ k : Nat, k ≤ m ∧ i = .int .i64 k ∧ ∃ L, SumAt w1 w.heap.size n wr L (255 * (n : Int) + 255 * (k : Int)) (le xs + le (ys.take k))) (fun i _ => m - (intOf i).toNat)
        case atStart => exact ⟨0, Nat.zero_le _, rfl, L1, HL1.out.row, HL1.out.len, (fun y hy => by have := HL1.out.bd y hy; omega), by rw [HL1.out.val, List.take_of_length_le (by rw [HX.out.2.2.2.2.1]; omega)]; simp [le], HL1.out.kept⟩
        case round =>
          obtain ⟨k, hk, rfl, L, hL⟩ := hrel
          by_cases hlt : k < m
          · obtain ⟨b, o, rfl, hb, hc⟩ := HX.out.2.1.cells (by omega)
            have hkL : k < L.length := by rw [hL.len]; omega
            have c1 : wr.cell? ⟨b, o + k, none⟩ = some (.int .i64 (ys.getD k 0)) := (hL.kept.cell (p := ⟨b, o + k, none⟩) (by show b < _; have := HB.out.2.2; omega) (by show ¬ b = _; omega)).trans ((HB.out.2.1.cell (p := ⟨b, o + k, none⟩) hb).trans (hc k hlt))
            have c2 := hL.row.cell k hkL
            have f2 := hL.row.frozen k
            have bd1 := bytes_le HX.out.2.2.2.1 k (by rw [HX.out.2.2.2.2.2]; exact hlt)
            have bd2 := hL.bd _ (List.getElem_mem hkL)
            have e2 : L[k] = L.getD k 0 := by simp [List.getD, hkL]
            rw [e2] at bd2
            have hpl := add_place hkL hL.bd bd1 (by omega)
            have HS : Hid (SumAt w1 w.heap.size n (wr.setCell ⟨w.heap.size, k, none⟩ (.int .i64 (L.getD k 0 + ys.getD k 0))).drew (L.set k (L.getD k 0 + ys.getD k 0)) (255 * (n : Int) + 255 * ((k + 1 : Nat) : Int)) (le xs + le (ys.take (k + 1)))) :=
              ⟨(hL.row.set k hkL _).drew, by rw [hpl.1, hL.len], (fun y hy => by have := hpl.2.1 y hy; omega), by rw [hpl.2.2, hL.val, le_take_succ _ _ (by rw [HX.out.2.2.2.2.2]; exact hlt), Int.add_assoc], (hL.kept.setCell (S := fun k => k = w.heap.size) rfl _).drew⟩
            obtain ⟨A, hA⟩ : ∃ A, ys.getD k 0 = A := ⟨_, rfl⟩
            obtain ⟨B, hB⟩ : ∃ B, L.getD k 0 = B := ⟨_, rfl⟩
            rw [hA] at c1 bd1 HS
            rw [hB] at c2 bd2 HS
            have i1 : (0 : Int) ≤ (k : Int) := by omega
            have i2 : (k : Int) < (m : Int) := by omega
            have i3 : (k : Int) < ((n : Nat) : Int) := by omega
            have w2' : IntKind.i64.wrap (B + A) = B + A := by simp only [IntKind.wrap, IntKind.bits, IntKind.signed]; simp; omega
            clear hc hA hB hL hpl e2 hkL
            go_wp2_with fail
            go_region
            all_goals
              go_wp2_with fail
              exact ⟨⟨k + 1, by omega, by go_num, _, HS.out⟩, by simp [intOf]; omega⟩
          · obtain rfl : m = k := by omega
            obtain ⟨L2, HL2⟩ : ∃ L2, Hid (SumAt w1 w.heap.size n wr L2 (255 * (n : Int) + 255 * (m : Int)) (le xs + le (ys.take m))) := ⟨L, hL⟩
            have hsn : SeenN wr (some ⟨w.heap.size, 0, none⟩) n L2 := by
              have := HL2.out.row.seen (by rw [HL2.out.len]; omega) (fun d hd => by have := HL2.out.bd d hd; omega)
              rwa [HL2.out.len] at this
            have hcl := clean_any (some ⟨w.heap.size, 0, none⟩) n n L2 wr hsn (by omega)
            have HW : Hid (Below w.heap.size w wr ∧ le L2 = le xs + le ys) := ⟨below_kept HB.out.2.1 HL2.out.kept HB.out.2.1.size (fun j hj => by omega), by rw [HL2.out.val, List.take_of_length_le (by rw [HX.out.2.2.2.2.2]; omega)]⟩
            clear hsn hL
            go_wp2_with fail
            refine hcl.mono ?_
            rintro e w2 ⟨v, rfl, es, hes⟩
            have HE : Hid (isN es v w2 ∧ Bytes es ∧ le es = le L2 ∧ n ≤ es.length ∧ es.length ≤ n + 6 ∧ Below wr.heap.size wr w2) := hes
            clear hes hcl
            go_wp2_with fail
            go_ret
            obtain ⟨h1, h2, h3, h4, h5, h6⟩ := HE.out
            exact ⟨_, rfl, es, h1, h2, by rw [h3, HW.out.2], by omega, by omega, by rw [← HM.out]; exact h5, below_chain HW.out.1 h6 HW.out.1.size⟩
end Go.Proofs.Ytcimiajkbgabiaa

namespace Go.Proofs.Ytcimiajkbgabiaa
open Go.RowKit
set_option linter.unusedVariables false
set_option linter.unusedSimpArgs false

theorem mul_val (V : Int) (X y L : Int) (i k : Nat) : V + 256 ^ i * (X * L) + 256 ^ (i + k) * (X * y) = V + 256 ^ i * (X * (L + 256 ^ k * y)) := by
  rw [Int.pow_add, Int.add_assoc, Int.mul_assoc, ← Int.mul_add, Int.mul_add X, Int.mul_left_comm (256 ^ k) X y]
theorem mul_row (A X L : Int) (i : Nat) : A * L + 256 ^ i * (X * L) = (A + 256 ^ i * X) * L := by
  rw [Int.add_mul, Int.mul_assoc]
theorem prod255 (x y : Int) (hx : 0 ≤ x ∧ x ≤ 255) (hy : 0 ≤ y ∧ y ≤ 255) : 0 ≤ x * y ∧ x * y ≤ 65025 := by
  refine ⟨Int.mul_nonneg hx.1 hy.1, ?_⟩
  have := Int.mul_le_mul hx.2 hy.2 hy.1 (by decide)
  simpa using this
set_option maxHeartbeats 4000000 in
set_option maxRecDepth 20000 in
theorem mul_any (ao bo : Option Addr) (n m c d : Nat) (xs ys : List Int) (w : World) (hx : SeenN w ao n xs) (hy : SeenN w bo m ys) (ha : Bytes xs) (hb : Bytes ys) (hn : n ≤ 100) (hm : m ≤ 20) :
    Calls Try.prog 90 #[.slice ao n c, .slice bo m d] w fun e w' => ∃ v, e = .returned v ∧ ∃ es, isN es v w' ∧ Bytes es ∧ le es = le xs * le ys ∧ n + m ≤ es.length ∧ es.length ≤ n + m + 6 ∧ Below w.heap.size w w' := by
  have HX : Hid (SeenN w ao n xs ∧ SeenN w bo m ys ∧ Bytes xs ∧ Bytes ys ∧ xs.length = n ∧ ys.length = m) := ⟨hx, hy, ha, hb, hx.len, hy.len⟩
  clear hx hy ha hb
  have hmk := run_makeN w (n + m) (by omega)
  have ec : ((n + m : Nat) : Int) = (n : Int) + (m : Int) := by omega
  rw [ec] at hmk
  obtain ⟨w1, hw1, HB⟩ : ∃ w1, w.alloc (.cells (i64s (List.replicate (n + m) 0)).toArray 3) = w1 ∧ Hid (RowN w1 w.heap.size (n + m) (List.replicate (n + m) 0) ∧ Below w.heap.size w w1 ∧ w1.heap.size = w.heap.size + 1) := ⟨_, rfl, ⟨by have := rowN_new w (List.replicate (n + m) 0); simpa using this, (Below.refl _ _).alloc (Nat.le_refl _) _, by simp⟩⟩
  rw [hw1] at hmk
  clear hw1 ec
  go_enter Try.func90, Try.ntmps90
  go_wp2_with fail
  go_loopw [6] (fun i wr => ∃ j : Nat, j ≤ n ∧ i = .int .i64 j ∧ ∃ L, SumAt w1 w.heap.size (n + m) wr L (65025 * ((j * 20 : Nat) : Int)) (le (xs.take j) * le ys)) (fun i _ => n - (intOf i).toNat)
  case atStart => exact ⟨0, Nat.zero_le _, rfl, _, HB.out.1, by simp, (fun y hy => by have := rep0_small _ y hy; omega), by rw [le_rep0]; simp [le], Kept.refl _ _⟩
  case round =>
    obtain ⟨j, hj, rfl, L, hL⟩ := hrel
    by_cases hlt : j < n
    · obtain ⟨b, o, rfl, hb, hc⟩ := HX.out.1.cells (by omega)
      obtain ⟨L0, HL0⟩ : ∃ L0, Hid (SumAt w1 w.heap.size (n + m) wr L0 (65025 * ((j * 20 : Nat) : Int)) (le (xs.take j) * le ys)) := ⟨L, hL⟩
      have HC : Hid ((∀ W, Kept (fun k => k = w.heap.size) w1 W → W.cell? ⟨b, o + j, none⟩ = some (.int .i64 (xs.getD j 0))) ∧ (0 ≤ xs.getD j 0 ∧ xs.getD j 0 ≤ 255) ∧ le (xs.take (j + 1)) = le (xs.take j) + 256 ^ j * xs.getD j 0) := ⟨fun W hW => (hW.cell (p := ⟨b, o + j, none⟩) (by show b < _; have := HB.out.2.2; omega) (by show ¬ b = _; omega)).trans ((HB.out.2.1.cell (p := ⟨b, o + j, none⟩) hb).trans (hc j hlt)), bytes_le HX.out.2.2.1 j (by rw [HX.out.2.2.2.2.1]; exact hlt), le_take_succ _ _ (by rw [HX.out.2.2.2.2.1]; exact hlt)⟩
      obtain ⟨X, hX⟩ : ∃ X, xs.getD j 0 = X := ⟨_, rfl⟩
      rw [hX] at HC
      have i1 : (0 : Int) ≤ (j : Int) := by omega
      have i2 : (j : Int) < (n : Int) := by omega
      clear hc hX hL
      obtain ⟨w3, hw3⟩ : ∃ W, W = wr := ⟨_, rfl⟩
      subst hw3
      go_wp2_with fail
      go_loopw [7] (fun i wr => ∃ k : Nat, k ≤ m ∧ i = .int .i64 k ∧ ∃ L, SumAt w1 w.heap.size (n + m) wr L (65025 * ((j * 20 + k : Nat) : Int)) (le (xs.take j) * le ys + 256 ^ j * (X * le (ys.take k)))) (fun i _ => m - (intOf i).toNat)
      case atStart => exact ⟨0, Nat.zero_le _, rfl, L0, HL0.out.row, HL0.out.len, HL0.out.bd, by rw [HL0.out.val]; simp [le], HL0.out.kept⟩
      case round =>
        obtain ⟨k, hk, rfl, L, hL⟩ := hrel
        by_cases hlm : k < m
        · obtain ⟨b2, o2, rfl, hb2, hc2⟩ := HX.out.2.1.cells (by omega)
          have hkL : j + k < L.length := by rw [hL.len]; omega
          have c0 := HC.out.1 wr hL.kept
          have c1 : wr.cell? ⟨b2, o2 + k, none⟩ = some (.int .i64 (ys.getD k 0)) := (hL.kept.cell (p := ⟨b2, o2 + k, none⟩) (by show b2 < _; have := HB.out.2.2; omega) (by show ¬ b2 = _; omega)).trans ((HB.out.2.1.cell (p := ⟨b2, o2 + k, none⟩) hb2).trans (hc2 k hlm))
          have c2 := hL.row.cell (j + k) hkL
          have f2 := hL.row.frozen (j + k)
          have bdX := HC.out.2.1
          have bdY := bytes_le HX.out.2.2.2.1 k (by rw [HX.out.2.2.2.2.2]; exact hlm)
          have bd1 := prod255 X (ys.getD k 0) bdX bdY
          have bd2 := hL.bd _ (List.getElem_mem hkL)
          have e2 : L[j + k] = L.getD (j + k) 0 := by simp [List.getD, hkL]
          rw [e2] at bd2
          have hpl := add_place hkL hL.bd bd1 (by omega)
          have HS : Hid (SumAt w1 w.heap.size (n + m) (wr.setCell ⟨w.heap.size, j + k, none⟩ (.int .i64 (L.getD (j + k) 0 + X * ys.getD k 0))).drew (L.set (j + k) (L.getD (j + k) 0 + X * ys.getD k 0)) (65025 * ((j * 20 + (k + 1) : Nat) : Int)) (le (xs.take j) * le ys + 256 ^ j * (X * le (ys.take (k + 1))))) :=
            ⟨(hL.row.set (j + k) hkL _).drew, by rw [hpl.1, hL.len], (fun y hy => by have := hpl.2.1 y hy; omega), by rw [hpl.2.2, hL.val, le_take_succ _ _ (by rw [HX.out.2.2.2.2.2]; exact hlm), mul_val], (hL.kept.setCell (S := fun k => k = w.heap.size) rfl _).drew⟩
          obtain ⟨Y, hY⟩ : ∃ Y, ys.getD k 0 = Y := ⟨_, rfl⟩
          obtain ⟨B, hB⟩ : ∃ B, L.getD (j + k) 0 = B := ⟨_, rfl⟩
          rw [hY] at c1 bd1 HS bdY
          rw [hB] at c2 bd2 HS
          have i3 : (0 : Int) ≤ (k : Int) := by omega
          have i4 : (k : Int) < (m : Int) := by omega
          have i5 : (j : Int) + (k : Int) < (n : Int) + (m : Int) := by omega
          have i6 : (0 : Int) ≤ (j : Int) + (k : Int) := by omega
          have w1' : IntKind.i64.wrap (X * Y) = X * Y := by rw [IntKind.wrap_i64]; omega
          have w2' : IntKind.i64.wrap (B + X * Y) = B + X * Y := by rw [IntKind.wrap_i64]; omega
          clear hc2 hY hB hL hpl e2 hkL
          go_wp2_with fail
          go_region
          all_goals
            go_wp2_with fail
            exact ⟨⟨k + 1, by omega, by go_num, _, HS.out⟩, by simp [intOf]; omega⟩
        · obtain rfl : m = k := by omega
          have HS : Hid (SumAt w1 w.heap.size (n + m) wr L (65025 * (((j + 1) * 20 : Nat) : Int)) (le (xs.take (j + 1)) * le ys)) :=
            ⟨hL.row, hL.len, (fun y hy => by have := hL.bd y hy; omega), by rw [hL.val, show ys.take m = ys from List.take_of_length_le (by rw [HX.out.2.2.2.2.2]; omega), mul_row, HC.out.2.2], hL.kept⟩
          clear hL
          go_wp2_with fail
          exact ⟨⟨j + 1, by omega, by go_num, _, HS.out⟩, by simp [intOf]; omega⟩
    · obtain rfl : n = j := by omega
      obtain ⟨L2, HL2⟩ : ∃ L2, Hid (SumAt w1 w.heap.size (n + m) wr L2 (65025 * ((n * 20 : Nat) : Int)) (le (xs.take n) * le ys)) := ⟨L, hL⟩
      have hsn : SeenN wr (some ⟨w.heap.size, 0, none⟩) (n + m) L2 := by
        have := HL2.out.row.seen (by rw [HL2.out.len]; omega) (fun d hd => by have := HL2.out.bd d hd; omega)
        rwa [HL2.out.len] at this
      have hcl := clean_any (some ⟨w.heap.size, 0, none⟩) (n + m) (n + m) L2 wr hsn (by omega)
      have HW : Hid (Below w.heap.size w wr ∧ le L2 = le xs * le ys) := ⟨below_kept HB.out.2.1 HL2.out.kept HB.out.2.1.size (fun j hj => by omega), by rw [HL2.out.val, List.take_of_length_le (by rw [HX.out.2.2.2.2.1]; omega)]⟩
      clear hsn hL
      go_wp2_with fail
      refine hcl.mono ?_
      rintro e w2 ⟨v, rfl, es, hes⟩
      have HE : Hid (isN es v w2 ∧ Bytes es ∧ le es = le L2 ∧ n + m ≤ es.length ∧ es.length ≤ n + m + 6 ∧ Below wr.heap.size wr w2) := hes
      clear hes hcl
      go_wp2_with fail
      go_ret
      obtain ⟨h1, h2, h3, h4, h5, h6⟩ := HE.out
      exact ⟨_, rfl, es, h1, h2, by rw [h3, HW.out.2], h4, h5, below_chain HW.out.1 h6 HW.out.1.size⟩
end Go.Proofs.Ytcimiajkbgabiaa

namespace Go.Proofs.Ytcimiajkbgabiaa
open Go.RowKit
set_option linter.unusedVariables false
set_option linter.unusedSimpArgs false

theorem le_dec {ds : List Int} (h : Bytes ds) : (∀ d ∈ ds, d = 0) ↔ le ds = 0 := (le_zero (bytes_nn h)).symm
set_option maxHeartbeats 1000000 in
set_option maxRecDepth 20000 in
theorem nought_any (ao : Option Addr) (n c : Nat) (ds : List Int) (w : World) (hx : SeenN w ao n ds) (hb : Bytes ds) :
    Calls Try.prog 107 #[.slice ao n c] w fun e w' => e = .returned (.bool (decide (le ds = 0))) ∧ w = w' := by
  have ht := hx.top
  have HX : Hid (SeenN w ao n ds ∧ Bytes ds ∧ ds.length = n) := ⟨hx, hb, hx.len⟩
  clear hx hb
  go_enter Try.func107, Try.ntmps107
  go_wp2_with fail
  go_loopw [3] (fun i wr => ∃ k : Nat, k ≤ n ∧ i = .int .i64 k ∧ wr = w ∧ ∀ j, j < k → ds.getD j 0 = 0) (fun i _ => n - (intOf i).toNat)
  case atStart => exact ⟨0, Nat.zero_le _, rfl, rfl, fun j hj => by omega⟩
  case round =>
    obtain ⟨k, hk, rfl, rfl, hz⟩ := hrel
    by_cases hlt : k < n
    · obtain ⟨b, o, rfl, hb, hc⟩ := HX.out.1.cells (by omega)
      have c1 := hc k hlt
      have i1 : (0 : Int) ≤ (k : Int) := by omega
      have i2 : (k : Int) < (n : Int) := by omega
      obtain ⟨D, HD⟩ : ∃ D, Hid (ds.getD k 0 = D) := ⟨_, rfl⟩
      rw [HD.out] at c1
      have HZ : Hid (∀ j, j < k → ds.getD j 0 = 0) := hz
      clear hc hz
      by_cases h0 : D = 0
      · subst h0
        go_wp2_with fail
        refine ⟨⟨k + 1, by omega, by go_num, by first | rfl | trivial, fun j hj => ?_⟩, by simp [intOf]; omega⟩
        rcases (by omega : j < k ∨ j = k) with h | rfl
        · exact HZ.out j h
        · exact HD.out
      · have q0 : (D != 0) = true := by simp [h0]
        have HE : Hid (decide (le ds = 0) = false) := by
          show _ = _
          apply decide_eq_false
          intro h
          have := (le_dec HX.out.2.1).2 h (ds.getD k 0) (by
            have e : ds.getD k 0 = ds[k]'(by rw [HX.out.2.2]; exact hlt) := by simp [List.getD, show k < ds.length by rw [HX.out.2.2]; exact hlt]
            rw [e]; exact List.getElem_mem _)
          rw [HD.out] at this
          exact h0 this
        clear h0
        go_wp2_with fail
        go_ret
        exact ⟨by rw [HE.out]; rfl, rfl⟩
    · obtain rfl : n = k := by omega
      have HE : Hid (decide (le ds = 0) = true) := by
        show _ = _
        apply decide_eq_true
        refine (le_dec HX.out.2.1).1 fun d hd => ?_
        obtain ⟨j, hj, rfl⟩ := List.getElem_of_mem hd
        have := hz j (by rw [← HX.out.2.2]; exact hj)
        simpa [List.getD, hj] using this
      clear hz
      go_wp2_with fail
      go_ret
      exact ⟨by rw [HE.out]; rfl, rfl⟩
theorem low_less (ds : List Int) (k : Nat) (hk : k < ds.length) (h : k < 16) : lowL (ds.take (k + 1)) = lowL (ds.take k) ++ [ds.getD k 0] := by
  have e : ds.getD k 0 = ds[k] := by simp [List.getD, hk]
  rw [e, lowL, lowL, List.length_take, List.length_take, if_neg (by omega), if_neg (by omega), List.append_nil, List.append_nil, List.take_take, List.take_take, Nat.min_eq_right (by omega), Nat.min_eq_right (by omega), List.take_succ_eq_append_getElem hk]
theorem low_at (ds : List Int) (hk : 16 < ds.length) : lowL (ds.take (16 + 1)) = lowL (ds.take 16) ++ [ds.getD 16 0 % 4] := by
  rw [lowL, lowL, List.length_take, List.length_take, if_pos (by omega), if_neg (by omega), List.append_nil, List.take_take, List.take_take]
  have e : (ds.take (16 + 1)).getD 16 0 = ds.getD 16 0 := by simp [List.getD]
  rw [e]; rfl
theorem low_more (ds : List Int) (k : Nat) (hk : k < ds.length) (h : 16 < k) : lowL (ds.take (k + 1)) = lowL (ds.take k) := by
  rw [lowL, lowL, List.length_take, List.length_take, if_pos (by omega), if_pos (by omega), List.take_take, List.take_take, Nat.min_eq_left (by omega), Nat.min_eq_left (by omega)]
  have e1 : (ds.take (k + 1)).getD 16 0 = ds.getD 16 0 := by simp [List.getD, List.getElem?_take, show 16 < k + 1 by omega]
  have e2 : (ds.take k).getD 16 0 = ds.getD 16 0 := by simp [List.getD, List.getElem?_take, h]
  rw [e1, e2]
theorem tq4 (c : Int) (h : 0 ≤ c) : c.tdiv 4 = c / 4 ∧ c.tmod 4 = c % 4 := ⟨Int.tdiv_eq_ediv_of_nonneg h, Int.tmod_eq_emod_of_nonneg h⟩
set_option maxHeartbeats 1000000 in
set_option maxRecDepth 20000 in
theorem part_low (ao : Option Addr) (n c : Nat) (ds : List Int) (w : World) (hx : SeenN w ao n ds) (hb : Bytes ds) :
    Calls Try.prog 106 #[.slice ao n c, .bool false] w fun e w' => ∃ v, e = .returned v ∧ isN (lowL ds) v w' ∧ Below w.heap.size w w' := by
  have ht := hx.top
  have HX : Hid (SeenN w ao n ds ∧ Bytes ds ∧ ds.length = n) := ⟨hx, hb, hx.len⟩
  obtain ⟨i0, hi, hz0, hz1, hz2⟩ := info_parts info_int
  clear hx hb
  go_enter Try.func106, Try.ntmps106
  go_wp2_with fail
  go_loopw [5, 6] (fun v i wr => ∃ k : Nat, k ≤ n ∧ i = .int .i64 k ∧ wr.ownsRow w.heap.size 3 1 v (lowL (ds.take k)).length (i64s (lowL (ds.take k))) ∧ Below w.heap.size w wr) (fun _ i _ => n - (intOf i).toNat)
  case atStart => exact ⟨0, Nat.zero_le _, rfl, World.ownsRow_nil _ _ _ _, Below.refl _ _⟩
  case round =>
    obtain ⟨k, hk, rfl, hown, hbel⟩ := hrel
    by_cases hlt : k < n
    · obtain ⟨b, o, rfl, hb, hc⟩ := HX.out.1.cells (by omega)
      have c1 := (hbel.cell (p := ⟨b, o + k, none⟩) hb).trans (hc k hlt)
      have hkd : k < ds.length := by rw [HX.out.2.2]; exact hlt
      have hD0 := HX.out.2.1.at k hkd
      have i1 : (0 : Int) ≤ (k : Int) := by omega
      have i2 : (k : Int) < (n : Int) := by omega
      have hsz := hbel.size
      have hll := lowL_length (ds.take k)
      rcases (by omega : k < 16 ∨ k = 16 ∨ 16 < k) with h16 | rfl | h16
      · have HE : Hid (lowL (ds.take (k + 1)) = lowL (ds.take k) ++ [ds.getD k 0]) := low_less ds k hkd h16
        have i3 : (k : Int) < 16 := by omega
        obtain ⟨D, hD⟩ : ∃ D, ds.getD k 0 = D := ⟨_, rfl⟩
        rw [hD] at c1 HE hD0
        generalize lowL (ds.take k) = Q at hown HE hll
        clear hc hD hkd
        go_wp2_with (at_builtin; refine wpList_append_own _ rfl _ _ 139 rfl w.heap.size 3 i0 (.int .i64 0) 1 8 Try.underlying139 hi hz0 hz1 hz2 rfl (by decide) _ _ _ rfl (hown.alloc _) ⟨wr.heap.size, 0, none⟩ 1 1 [.int .i64 D] rfl rfl ?c1 ?c2 ?c3 ?c4 ?c5 ?_)
        try case c1 => exact one_new _ _ _
        case c2 => first | rfl | (intro u hu; simp at hu; subst hu; rfl)
        case c3 => unfold maxLen; omega
        case c4 => omega
        case c5 => first | omega | (simp; omega)
        · intro v' w1 hown' hgrow _
          have R := ownN_more hbel hown hown' hgrow
          clear hown' hgrow hown hbel c1
          go_wp2_with fail
          exact ⟨⟨k + 1, by omega, by go_num, by rw [HE.out]; exact R.1, R.2⟩, by simp [intOf]; omega⟩
      · have HE : Hid (lowL (ds.take (16 + 1)) = lowL (ds.take 16) ++ [ds.getD 16 0 % 4]) := low_at ds hkd
        obtain ⟨D, hD⟩ : ∃ D, ds.getD 16 0 = D := ⟨_, rfl⟩
        rw [hD] at c1 HE hD0
        have q2 := (tq4 D hD0.1).2
        generalize lowL (ds.take 16) = Q at hown HE hll
        clear hc hD hkd
        go_wp2_with (at_builtin; refine wpList_append_own _ rfl _ _ 139 rfl w.heap.size 3 i0 (.int .i64 0) 1 8 Try.underlying139 hi hz0 hz1 hz2 rfl (by decide) _ _ _ rfl (hown.alloc _) ⟨wr.heap.size, 0, none⟩ 1 1 [.int .i64 (D % 4)] rfl rfl ?c1 ?c2 ?c3 ?c4 ?c5 ?_)
        try case c1 => exact one_new _ _ _
        case c2 => first | rfl | (intro u hu; simp at hu; subst hu; rfl)
        case c3 => unfold maxLen; omega
        case c4 => omega
        case c5 => first | omega | (simp; omega)
        · intro v' w1 hown' hgrow _
          have R := ownN_more hbel hown hown' hgrow
          clear hown' hgrow hown hbel c1
          go_wp2_with fail
          exact ⟨⟨16 + 1, by omega, by go_num, by rw [HE.out]; exact R.1, R.2⟩, by simp [intOf]; omega⟩
      · have HE : Hid (lowL (ds.take (k + 1)) = lowL (ds.take k)) := low_more ds k hkd h16
        have i3 : ¬ (k : Int) < 16 := by omega
        have i4 : ((k : Int) == 16) = false := by rw [beq_eq_false_iff_ne]; omega
        have HO : Hid (wr.ownsRow w.heap.size 3 1 u5 (lowL (ds.take k)).length (i64s (lowL (ds.take k))) ∧ Below w.heap.size w wr) := ⟨hown, hbel⟩
        clear hc hkd hown hbel c1
        go_wp2_with fail
        exact ⟨⟨k + 1, by omega, by go_num, by rw [HE.out]; exact HO.out.1, HO.out.2⟩, by simp [intOf]; omega⟩
    · obtain rfl : n = k := by omega
      have e : ds.take n = ds := List.take_of_length_le (by rw [HX.out.2.2]; omega)
      rw [e] at hown
      have HO : Hid (isN (lowL ds) u5 wr ∧ Below w.heap.size w wr) := ⟨isN_own rfl (by have := lowL_length ds; omega) (small_of_bytes (lowL_bytes ds HX.out.2.1)) hown, hbel⟩
      clear hown hbel e
      go_wp2_with fail
      go_ret
      exact ⟨_, rfl, HO.out⟩
end Go.Proofs.Ytcimiajkbgabiaa

namespace Go.Proofs.Ytcimiajkbgabiaa
open Go.RowKit
set_option linter.unusedVariables false
set_option linter.unusedSimpArgs false

def hiP (ds : List Int) (k : Nat) : List Int := highL ((ds.take k).drop 16)
theorem hiP_length (ds : List Int) (k : Nat) (hk : k ≤ ds.length) : (hiP ds k).length = k - 16 := by
  rw [hiP, highL_length, List.length_drop, List.length_take, Nat.min_eq_left hk]
theorem hiP_bytes (ds : List Int) (k : Nat) (h : Bytes ds) : Bytes (hiP ds k) := highL_bytes _ (bytes_drop (bytes_take h _) _)
theorem hiP_less (ds : List Int) (k : Nat) (h : k ≤ 16) : hiP ds k = [] := by
  rw [hiP, List.drop_eq_nil_of_le (by rw [List.length_take]; omega)]; rfl
theorem hiP_at (ds : List Int) (hk : 16 < ds.length) : hiP ds (16 + 1) = hiP ds 16 ++ [ds.getD 16 0 / 4] := by
  rw [hiP_less ds 16 (by omega), hiP, List.take_succ_eq_append_getElem hk, List.drop_append_of_le_length (by rw [List.length_take]; omega), List.drop_eq_nil_of_le (by rw [List.length_take]; omega)]
  simp [highL, List.getD, hk]
theorem hiP_more (ds : List Int) (k : Nat) (hk : k < ds.length) (h : 16 < k) : hiP ds (k + 1) = (hiP ds k).set (k - 17) ((hiP ds k).getD (k - 17) 0 + ds.getD k 0 % 4 * 64) ++ [ds.getD k 0 / 4] := by
  have e : ds.getD k 0 = ds[k] := by simp [List.getD, hk]
  have hl : ((ds.take k).drop 16).length = k - 16 := by rw [List.length_drop, List.length_take, Nat.min_eq_left (by omega)]
  rw [hiP, List.take_succ_eq_append_getElem hk, List.drop_append_of_le_length (by rw [List.length_take]; omega), highL_snoc _ _ (by omega), hl, e]
  rfl
set_option maxHeartbeats 2000000 in
set_option maxRecDepth 20000 in
theorem part_high (ao : Option Addr) (n c : Nat) (ds : List Int) (w : World) (hx : SeenN w ao n ds) (hb : Bytes ds) :
    Calls Try.prog 106 #[.slice ao n c, .bool true] w fun e w' => ∃ v, e = .returned v ∧ isN (highL (ds.drop 16)) v w' ∧ Below w.heap.size w w' := by
  have ht := hx.top
  have HX : Hid (SeenN w ao n ds ∧ Bytes ds ∧ ds.length = n) := ⟨hx, hb, hx.len⟩
  obtain ⟨i0, hi, hz0, hz1, hz2⟩ := info_parts info_int
  clear hx hb
  go_enter Try.func106, Try.ntmps106
  go_wp2_with fail
  go_loopw [5, 6] (fun v i wr => ∃ k : Nat, k ≤ n ∧ i = .int .i64 k ∧ wr.ownsRow w.heap.size 3 1 v (hiP ds k).length (i64s (hiP ds k)) ∧ Below w.heap.size w wr) (fun _ i _ => n - (intOf i).toNat)
  case atStart => exact ⟨0, Nat.zero_le _, rfl, by rw [hiP_less ds 0 (by omega)]; exact World.ownsRow_nil _ _ _ _, Below.refl _ _⟩
  case round =>
    obtain ⟨k, hk, rfl, hown, hbel⟩ := hrel
    by_cases hlt : k < n
    · obtain ⟨b, o, rfl, hb, hc⟩ := HX.out.1.cells (by omega)
      have c1 := (hbel.cell (p := ⟨b, o + k, none⟩) hb).trans (hc k hlt)
      have hkd : k < ds.length := by rw [HX.out.2.2]; exact hlt
      have hD0 := HX.out.2.1.at k hkd
      have i1 : (0 : Int) ≤ (k : Int) := by omega
      have i2 : (k : Int) < (n : Int) := by omega
      have hsz := hbel.size
      have hll := hiP_length ds k (by omega)
      rcases (by omega : k < 16 ∨ k = 16 ∨ 16 < k) with h16 | rfl | h16
      · have HE : Hid (hiP ds (k + 1) = hiP ds k) := by
          show _ = _
          rw [hiP_less ds k (by omega), hiP_less ds (k + 1) (by omega)]
        have i3 : (k : Int) < 16 := by omega
        have i4 : ((k : Int) == 16) = false := by rw [beq_eq_false_iff_ne]; omega
        have i5 : ¬ (16 : Int) < (k : Int) := by omega
        have HO : Hid (wr.ownsRow w.heap.size 3 1 u5 (hiP ds k).length (i64s (hiP ds k)) ∧ Below w.heap.size w wr) := ⟨hown, hbel⟩
        clear hc hkd hown hbel c1 hll
        go_wp2_with fail
        exact ⟨⟨k + 1, by omega, by go_num, by rw [HE.out]; exact HO.out.1, HO.out.2⟩, by simp [intOf]; omega⟩
      · have HE : Hid (hiP ds (16 + 1) = hiP ds 16 ++ [ds.getD 16 0 / 4]) := hiP_at ds hkd
        obtain ⟨D, hD⟩ : ∃ D, ds.getD 16 0 = D := ⟨_, rfl⟩
        rw [hD] at c1 HE hD0
        have q2 := (tq4 D hD0.1).1
        generalize hiP ds 16 = Q at hown HE hll
        have HLL : Hid (Q.length = 16 - 16) := hll
        clear hc hD hkd hll
        go_wp2_with (at_builtin; refine wpList_append_own _ rfl _ _ 139 rfl w.heap.size 3 i0 (.int .i64 0) 1 8 Try.underlying139 hi hz0 hz1 hz2 rfl (by decide) _ _ _ rfl (hown.alloc _) ⟨wr.heap.size, 0, none⟩ 1 1 [.int .i64 (D / 4)] rfl rfl ?c1 ?c2 ?c3 ?c4 ?c5 ?_)
        try case c1 => exact one_new _ _ _
        case c2 => first | rfl | (intro u hu; simp at hu; subst hu; rfl)
        case c3 => have := HLL.out; unfold maxLen; omega
        case c4 => have := HLL.out; omega
        case c5 => have := HLL.out; first | omega | (simp; omega)
        · intro v' w1 hown' hgrow _
          have R := ownN_more hbel hown hown' hgrow
          clear hown' hgrow hown hbel c1
          go_wp2_with fail
          exact ⟨⟨16 + 1, by omega, by go_num, by rw [HE.out]; exact R.1, R.2⟩, by simp [intOf]; omega⟩
      · have HE := hiP_more ds k hkd h16
        obtain ⟨D, hD⟩ : ∃ D, ds.getD k 0 = D := ⟨_, rfl⟩
        rw [hD] at c1 HE hD0
        have HQ : Hid (Bytes (hiP ds k)) := hiP_bytes ds k HX.out.2.1
        obtain ⟨Q, hQ⟩ : ∃ Q, hiP ds k = Q := ⟨_, rfl⟩
        rw [hQ] at hown HE hll HQ
        rcases ownN rfl hown with ⟨_, h0, _⟩ | ⟨g, cap, rfl, hr, hg, hcap, hmax⟩
        · exfalso; omega
        obtain ⟨P, hP⟩ : ∃ P, k = P + 17 := ⟨k - 17, by omega⟩
        have hkP : k - 17 = P := by omega
        rw [hkP] at HE
        have hPl : P < Q.length := by omega
        have cQ := hr.cell P hPl
        have fQ := hr.frozen P
        have bQ := HQ.out.at P hPl
        have hgl := hr.lt
        obtain ⟨Z, hZ⟩ : ∃ Z, Q.getD P 0 = Z := ⟨_, rfl⟩
        rw [hZ] at cQ HE bQ
        have q1 := (tq4 D hD0.1).1
        have q2 := (tq4 D hD0.1).2
        have i3 : ¬ (k : Int) < 16 := by omega
        have i4 : ((k : Int) == 16) = false := by rw [beq_eq_false_iff_ne]; omega
        have i5 : (16 : Int) < (k : Int) := by omega
        have i6 : (k : Int) - 17 = (P : Int) := by omega
        have i7 : (0 : Int) ≤ (P : Int) := by omega
        have i8 : (P : Int) < (Q.length : Int) := by omega
        have w0' : IntKind.i64.wrap ((k : Int) - 17) = (P : Int) := by rw [IntKind.wrap_i64]; omega
        have w1' : IntKind.i64.wrap (D % 4 * 64) = D % 4 * 64 := by rw [IntKind.wrap_i64]; omega
        have w2' : IntKind.i64.wrap (Z + D % 4 * 64) = Z + D % 4 * 64 := by rw [IntKind.wrap_i64]; omega
        have hrs := (hr.set P hPl (Z + D % 4 * 64)).drew
        have hbs : Below w.heap.size w (wr.setCell ⟨g, P, none⟩ (.int .i64 (Z + D % 4 * 64))).drew := below_kept hbel (((Kept.refl (fun x => x = g) wr).setCell (p := ⟨g, P, none⟩) rfl _).drew) hbel.size (fun j hj => by omega)
        have cD : (wr.setCell ⟨g, P, none⟩ (.int .i64 (Z + D % 4 * 64))).drew.cell? ⟨b, o + k, none⟩ = some (.int .i64 D) := by
          refine Eq.trans ?_ c1
          exact (((Kept.refl (fun x => x = g) wr).setCell (p := ⟨g, P, none⟩) rfl _).drew).cell (p := ⟨b, o + k, none⟩) (by show b < _; omega) (by show ¬ b = g; omega)
        obtain ⟨W, hW⟩ : ∃ W, (wr.setCell ⟨g, P, none⟩ (.int .i64 (Z + D % 4 * 64))).drew = W := ⟨_, rfl⟩
        rw [hW] at hrs hbs cD
        have HW : Hid ((wr.setCell ⟨g, P, none⟩ (.int .i64 (Z + D % 4 * 64))).drew = W) := hW
        have hown2 := hrs.own (base := w.heap.size) (n := (Q.set P (Z + D % 4 * 64)).length) rfl hg hmax
        rw [show (Q.set P (Z + D % 4 * 64)).length = Q.length by simp] at hown2
        have HE2 : Hid (hiP ds (k + 1) = Q.set P (Z + D % 4 * 64) ++ [D / 4] ∧ hiP ds k = Q ∧ k = P + 17) := ⟨HE, hQ, hP⟩
        have HLL : Hid (Q.length = k - 16) := hll
        clear hc hkd hown hD hQ HE hr hW hZ hP hkP hgl hll
        go_wp2_with fail
        go_region
        all_goals
          rw [HW.out]
          have hsW := hbs.size
          go_wp2_with (at_builtin; refine wpList_append_own _ rfl _ _ 139 rfl w.heap.size 3 i0 (.int .i64 0) 1 8 Try.underlying139 hi hz0 hz1 hz2 rfl (by decide) _ _ _ rfl (hown2.alloc _) ⟨W.heap.size, 0, none⟩ 1 1 [.int .i64 (D / 4)] rfl rfl ?c1 ?c2 ?c3 ?c4 ?c5 ?_)
          try case c1 => exact one_new _ _ _
          case c2 => first | rfl | (intro u hu; simp at hu; subst hu; rfl)
          case c3 => have := HLL.out; unfold maxLen; omega
          case c4 => have := HLL.out; omega
          case c5 => have := HLL.out; first | omega | (simp; omega)
          · intro v' w1 hown' hgrow _
            rw [show Q.length = (Q.set P (Z + D % 4 * 64)).length by simp] at hown2 hown'
            have R := ownN_more hbs hown2 hown' hgrow
            clear hown' hgrow hown2 hbel c1 hbs
            go_wp2_with fail
            exact ⟨⟨k + 1, by omega, by go_num, by rw [HE2.out.1]; exact R.1, R.2⟩, by simp [intOf]; omega⟩
    · obtain rfl : n = k := by omega
      have hll := hiP_length ds n (by rw [HX.out.2.2]; omega)
      have e : hiP ds n = highL (ds.drop 16) := by rw [hiP, List.take_of_length_le (by rw [HX.out.2.2]; omega)]
      have hby := hiP_bytes ds n HX.out.2.1
      rw [e] at hown hby hll
      have HO : Hid (isN (highL (ds.drop 16)) u5 wr ∧ Below w.heap.size w wr) := ⟨isN_own rfl (by omega) (small_of_bytes hby) hown, hbel⟩
      clear hown hbel e hby hll
      go_wp2_with fail
      go_ret
      exact ⟨_, rfl, HO.out⟩
end Go.Proofs.Ytcimiajkbgabiaa

namespace Go.Proofs.Ytcimiajkbgabiaa
open Go.RowKit
set_option linter.unusedVariables false
set_option linter.unusedSimpArgs false

/-- The numbers of a slice, read. -/
def rdN (w : World) : Value → List Int
  | .slice (some a) n _ => (List.range n).map fun i => match w.cell? (a.add i) with
    | some (.int _ z) => z
    | _ => 0
  | _ => []
theorem rdN_is {w : World} {ao : Option Addr} {n c : Nat} {zs : List Int} (h : SeenN w ao n zs) : rdN w (.slice ao n c) = zs := by
  rcases Nat.eq_zero_or_pos n with rfl | h0
  · have e : zs = [] := List.length_eq_zero_iff.1 h.len
    subst e
    cases ao <;> rfl
  · obtain ⟨b, o, rfl, _, hc⟩ := h.cells h0
    apply List.ext_getElem
    · simp [rdN, h.len]
    · intro i h1 h2
      have hi : i < n := by rw [← h.len]; exact h2
      simp only [rdN, List.getElem_map, List.getElem_range]
      rw [show (⟨b, o, none⟩ : Addr).add i = ⟨b, o + i, none⟩ from Addr.add_mid b o i, hc i hi]
      simp [List.getD, h2]
theorem five_new (w : World) : SeenN (w.alloc (.cells #[.int .i64 5] 3)) (some ⟨w.heap.size, 0, none⟩) 1 [5] := by
  have h : RowN (w.alloc (.cells #[.int .i64 5] 3)) w.heap.size 1 [5] := ⟨[], heap_alloc_new w _, rfl⟩
  exact h.seen (by decide) (fun d hd => by simp at hd; subst hd; decide)
theorem b5n : Bytes [5] := fun z hz => by simp at hz; subst hz; decide
theorem le5 : le [5] = 5 := rfl
set_option maxHeartbeats 4000000 in
set_option maxRecDepth 20000 in
theorem fold_any (ao : Option Addr) (n c : Nat) (ds : List Int) (w : World) (hx : SeenN w ao n ds) (hb : Bytes ds) (hn : n ≤ 90) :
    Calls Try.prog 89 #[.slice ao n c] w fun e w' => ∃ v, e = .returned v ∧ ∃ es, isN es v w' ∧ Bytes es ∧ le es = le ds % prime ∧ es.length ≤ 17 ∧ Below w.heap.size w w' := by
  have HX : Hid (SeenN w ao n ds ∧ Bytes ds ∧ ds.length = n) := ⟨hx, hb, hx.len⟩
  clear hx hb
  go_enter Try.func89, Try.ntmps89
  go_wp2_with fail
  refine (part_high ao n c ds w HX.out.1 HX.out.2.1).mono ?_
  rintro e w1 ⟨v, rfl, hv, l1⟩
  have H1 : Hid (isN (highL (ds.drop 16)) v w1 ∧ Below w.heap.size w w1 ∧ SeenN w1 ao n ds) := ⟨hv, l1, HX.out.1.later l1 (Nat.le_refl _)⟩
  clear hv l1
  go_wp2_with fail
  go_loopw [0, 3] (fun v0 v3 wr => ∃ (es : List Int) (a0 a3 : Option Addr) (n0 c0 n3 c3 : Nat), v0 = .slice a0 n0 c0 ∧ v3 = .slice a3 n3 c3 ∧ SeenN wr a0 n0 es ∧ SeenN wr a3 n3 (highL (es.drop 16)) ∧ Bytes es ∧ le es % prime = le ds % prime ∧ n0 ≤ 90 ∧ Below w.heap.size w wr) (fun v0 _ wr => (le (rdN wr v0)).toNat)
  case atStart =>
    obtain ⟨a3, n3, c3, rfl, s3⟩ := H1.out.1
    exact ⟨ds, ao, a3, n, c, n3, c3, rfl, rfl, H1.out.2.2, s3, HX.out.2.1, rfl, hn, H1.out.2.1⟩
  case round =>
    obtain ⟨es, a0, a3, n0, c0, n3, c3, rfl, rfl, s0, s3, hbe, hmod, hn0, hbel⟩ := hrel
    have hhb : Bytes (highL (es.drop 16)) := highL_bytes _ (bytes_drop hbe _)
    have hhl := high_le es hbe
    have hlo := lowL_le es hbe
    have hnn := le_nonneg (bytes_nn hbe)
    have hn3 : n3 = n0 - 16 := by rw [← s3.len, highL_length, List.length_drop, s0.len]
    have HR : Hid (rdN wr (.slice a0 n0 c0) = es) := rdN_is s0
    have HS : Hid (SeenN wr a0 n0 es ∧ SeenN wr a3 n3 (highL (es.drop 16)) ∧ Bytes es ∧ le es % prime = le ds % prime ∧ Below w.heap.size w wr ∧ Bytes (highL (es.drop 16)) ∧ n3 = n0 - 16) := ⟨s0, s3, hbe, hmod, hbel, hhb, hn3⟩
    obtain ⟨V, hV⟩ : ∃ V, le es = V := ⟨_, rfl⟩
    obtain ⟨U, hU⟩ : ∃ U, le (highL (es.drop 16)) = U := ⟨_, rfl⟩
    have HU : Hid (le es = V ∧ le (highL (es.drop 16)) = U ∧ le (lowL es) = V % 1361129467683753853853498429727072845824 ∧ U = V / 1361129467683753853853498429727072845824 ∧ 0 ≤ V) := ⟨hV, hU, by rw [hlo, hV], by rw [← hU, hhl, hV], by rw [← hV]; exact hnn⟩
    have hno := nought_any a3 n3 c3 _ wr s3 hhb
    rw [hU] at hno
    clear s0 s3 hbe hmod hbel hhb hhl hlo hnn hV hU hn3
    by_cases h0 : U = 0
    · rw [show decide (U = 0) = true from decide_eq_true h0] at hno
      go_wp2_with fail
      refine hno.mono ?_
      rintro e w' ⟨rfl, rfl⟩
      clear hno
      go_wp2_with fail
      have s5 := five_new wr
      have l5 : Below wr.heap.size wr (wr.alloc (.cells #[.int .i64 5] 3)) := (Below.refl _ _).alloc (Nat.le_refl _) _
      obtain ⟨w5, hw5⟩ : ∃ W, wr.alloc (.cells #[.int .i64 5] 3) = W := ⟨_, rfl⟩
      rw [hw5] at s5 l5 ⊢
      refine (add_any a0 (some ⟨wr.heap.size, 0, none⟩) n0 1 c0 1 es [5] w5 (HS.out.1.later l5 (Nat.le_refl _)) s5 HS.out.2.2.1 b5n (by omega) (by decide)).mono ?_
      rintro e w6 ⟨v6, rfl, ms, hms⟩
      obtain ⟨a6, n6, c6, rfl, s6⟩ := hms.1
      have H6 : Hid (SeenN w6 a6 n6 ms ∧ Bytes ms ∧ le ms = V + 5 ∧ Below w.heap.size w w6 ∧ SeenN w6 a0 n0 es) := by
        obtain ⟨_, h2, h3, _, _, _, h7⟩ := hms
        exact ⟨s6, h2, by rw [h3, HU.out.1, le5], below_chain (below_chain HS.out.2.2.2.2.1 l5 HS.out.2.2.2.2.1.size) h7 (Nat.le_trans HS.out.2.2.2.2.1.size l5.size), (HS.out.1.later l5 (Nat.le_refl _)).later h7 (Nat.le_refl _)⟩
      clear hms s6 s5 l5 hw5
      go_wp2_with fail
      refine (part_high a6 n6 c6 ms w6 H6.out.1 H6.out.2.1).mono ?_
      rintro e w7 ⟨v7, rfl, hv7, l7⟩
      obtain ⟨a7, n7, c7, rfl, s7⟩ := hv7
      have H7 : Hid (SeenN w7 a6 n6 ms ∧ Below w.heap.size w w7 ∧ SeenN w7 a0 n0 es) := ⟨H6.out.1.later l7 (Nat.le_refl _), below_chain H6.out.2.2.2.1 l7 H6.out.2.2.2.1.size, H6.out.2.2.2.2.later l7 (Nat.le_refl _)⟩
      have hn7 := nought_any a7 n7 c7 _ w7 s7 (highL_bytes _ (bytes_drop H6.out.2.1 _))
      rw [high_le ms H6.out.2.1, H6.out.2.2.1] at hn7
      have hV0 := HU.out.2.2.2.2
      have hV1 : V < 1361129467683753853853498429727072845824 := by have := HU.out.2.2.2.1; omega
      have hlm := last_mod V hV0 hV1
      clear l7 s7
      by_cases hbig : 1361129467683753853853498429727072845824 ≤ V + 5
      · rw [show decide ((V + 5) / 1361129467683753853853498429727072845824 = 0) = false from decide_eq_false (by omega)] at hn7
        rw [if_pos hbig] at hlm
        have HM : Hid (V % prime = (V + 5) % 1361129467683753853853498429727072845824) := hlm
        clear hlm hbig h0
        go_wp2_with fail
        refine hn7.mono ?_
        rintro e w' ⟨rfl, rfl⟩
        clear hn7
        go_wp2_with fail
        refine (part_low a6 n6 c6 ms w7 H7.out.1 H6.out.2.1).mono ?_
        rintro e w8 ⟨v8, rfl, hv8, l8⟩
        have H8 : Hid (isN (lowL ms) v8 w8 ∧ Below w.heap.size w w8) := ⟨hv8, below_chain H7.out.2.1 l8 H7.out.2.1.size⟩
        clear hv8 l8
        go_wp2_with fail
        go_ret
        exact ⟨_, rfl, lowL ms, H8.out.1, lowL_bytes _ H6.out.2.1, by rw [lowL_le _ H6.out.2.1, H6.out.2.2.1, ← HM.out, ← HS.out.2.2.2.1, HU.out.1], lowL_length _, H8.out.2⟩
      · rw [show decide ((V + 5) / 1361129467683753853853498429727072845824 = 0) = true from decide_eq_true (by omega)] at hn7
        rw [if_neg hbig] at hlm
        have HM : Hid (V % prime = V ∧ V % 1361129467683753853853498429727072845824 = V) := ⟨hlm, by omega⟩
        clear hlm hbig h0
        go_wp2_with fail
        refine hn7.mono ?_
        rintro e w' ⟨rfl, rfl⟩
        clear hn7
        go_wp2_with fail
        refine (part_low a0 n0 c0 es w7 H7.out.2.2 HS.out.2.2.1).mono ?_
        rintro e w8 ⟨v8, rfl, hv8, l8⟩
        have H8 : Hid (isN (lowL es) v8 w8 ∧ Below w.heap.size w w8) := ⟨hv8, below_chain H7.out.2.1 l8 H7.out.2.1.size⟩
        clear hv8 l8
        go_wp2_with fail
        go_ret
        exact ⟨_, rfl, lowL es, H8.out.1, lowL_bytes _ HS.out.2.2.1, by rw [HU.out.2.2.1, HM.out.2, ← HS.out.2.2.2.1, HU.out.1, HM.out.1], lowL_length _, H8.out.2⟩
    · rw [show decide (U = 0) = false from decide_eq_false h0] at hno
      have HZ : Hid (U ≠ 0) := h0
      clear h0
      go_wp2_with fail
      refine hno.mono ?_
      rintro e w' ⟨rfl, rfl⟩
      clear hno
      go_wp2_with fail
      refine (part_low a0 n0 c0 es wr HS.out.1 HS.out.2.2.1).mono ?_
      rintro e w5 ⟨v5, rfl, hv5, l5⟩
      obtain ⟨a5, n5, c5, rfl, s5⟩ := hv5
      have hn5 : n5 ≤ 17 := by rw [← s5.len]; exact lowL_length _
      have H5 : Hid (SeenN w5 a5 n5 (lowL es) ∧ Below w.heap.size w w5 ∧ SeenN w5 a3 n3 (highL (es.drop 16))) := ⟨s5, below_chain HS.out.2.2.2.2.1 l5 HS.out.2.2.2.2.1.size, HS.out.2.1.later l5 (Nat.le_refl _)⟩
      clear s5 l5
      go_wp2_with fail
      have s6 := five_new w5
      have l6 : Below w5.heap.size w5 (w5.alloc (.cells #[.int .i64 5] 3)) := (Below.refl _ _).alloc (Nat.le_refl _) _
      obtain ⟨w6, hw6⟩ : ∃ W, w5.alloc (.cells #[.int .i64 5] 3) = W := ⟨_, rfl⟩
      rw [hw6] at s6 l6 ⊢
      refine (mul_any a3 (some ⟨w5.heap.size, 0, none⟩) n3 1 c3 1 _ [5] w6 (H5.out.2.2.later l6 (Nat.le_refl _)) s6 HS.out.2.2.2.2.2.1 b5n (by have := HS.out.2.2.2.2.2.2; omega) (by decide)).mono ?_
      rintro e w7 ⟨v7, rfl, ps, hps⟩
      obtain ⟨a7, n7, c7, rfl, s7⟩ := hps.1
      have hn7 : n7 ≤ n3 + 7 := by have := hps.2.2.2.2.1; rw [s7.len] at this; omega
      have H7 : Hid (SeenN w7 a7 n7 ps ∧ Bytes ps ∧ le ps = U * 5 ∧ Below w.heap.size w w7 ∧ SeenN w7 a5 n5 (lowL es)) := by
        obtain ⟨_, h2, h3, _, _, h6⟩ := hps
        exact ⟨s7, h2, by rw [h3, HU.out.2.1, le5], below_chain (below_chain H5.out.2.1 l6 H5.out.2.1.size) h6 (Nat.le_trans H5.out.2.1.size l6.size), (H5.out.1.later l6 (Nat.le_refl _)).later h6 (Nat.le_refl _)⟩
      clear hps s7 s6 l6 hw6
      go_wp2_with fail
      refine (add_any a5 a7 n5 n7 c5 c7 (lowL es) ps w7 H7.out.2.2.2.2 H7.out.1 (lowL_bytes _ HS.out.2.2.1) H7.out.2.1 (by omega) (by have := HS.out.2.2.2.2.2.2; omega)).mono ?_
      rintro e w8 ⟨v8, rfl, qs, hqs⟩
      obtain ⟨a8, n8, c8, rfl, s8⟩ := hqs.1
      have hn8 : n8 ≤ 90 := by
        have h := hqs.2.2.2.2.2.1
        rw [s8.len] at h
        have h2 := HS.out.2.2.2.2.2.2
        have h3 : Nat.max n5 n7 ≤ 84 := Nat.max_le.2 ⟨by omega, by omega⟩
        omega
      have H8 : Hid (SeenN w8 a8 n8 qs ∧ Bytes qs ∧ le qs = V % 1361129467683753853853498429727072845824 + U * 5 ∧ Below w.heap.size w w8) := by
        obtain ⟨_, h2, h3, _, _, _, h7⟩ := hqs
        exact ⟨s8, h2, by rw [h3, HU.out.2.2.1, H7.out.2.2.1], below_chain H7.out.2.2.2.1 h7 H7.out.2.2.2.1.size⟩
      clear hqs s8
      go_wp2_with fail
      refine (part_high a8 n8 c8 qs w8 H8.out.1 H8.out.2.1).mono ?_
      rintro e w9 ⟨v9, rfl, hv9, l9⟩
      obtain ⟨a9, n9, c9, rfl, s9⟩ := hv9
      have H9 : Hid (SeenN w9 a8 n8 qs ∧ SeenN w9 a9 n9 (highL (qs.drop 16)) ∧ Below w.heap.size w w9) := ⟨H8.out.1.later l9 (Nat.le_refl _), s9, below_chain H8.out.2.2.2 l9 H8.out.2.2.2.size⟩
      clear l9 s9
      go_wp2_with fail
      have hU1 := HU.out.2.2.2.1
      have hV0 := HU.out.2.2.2.2
      have hz := HZ.out
      refine ⟨⟨qs, a8, a9, n8, c8, n9, c9, rfl, rfl, H9.out.1, H9.out.2.1, H8.out.2.1, ?_, hn8, H9.out.2.2⟩, ?_⟩
      · rw [H8.out.2.2.1, ← HS.out.2.2.2.1, HU.out.1, hU1]
        unfold prime; omega
      · show (le (rdN w9 (.slice a8 n8 c8))).toNat < (le (rdN wr (.slice a0 n0 c0))).toNat
        rw [rdN_is H9.out.1, HR.out, H8.out.2.2.1, HU.out.1]
        omega
end Go.Proofs.Ytcimiajkbgabiaa

namespace Go.Proofs.Ytcimiajkbgabiaa
open Go.RowKit
set_option linter.unusedVariables false
set_option linter.unusedSimpArgs false

def andB (x y : Int) : Int := ((x.toNat &&& y.toNat : Nat) : Int)
theorem andB_bd (x y : Int) (hy : 0 ≤ y ∧ y < 256) : 0 ≤ andB x y ∧ andB x y < 256 := by
  have : x.toNat &&& y.toNat ≤ y.toNat := Nat.and_le_right
  unfold andB; omega
theorem and_split (a b c d : Nat) (ha : a < 256) (hc : c < 256) : (a + 256 * b) &&& (c + 256 * d) = (a &&& c) + 256 * (b &&& d) := by
  have e1 : a + 256 * b = 2 ^ 8 * b + a := by omega
  have e2 : c + 256 * d = 2 ^ 8 * d + c := by omega
  have h3 : a &&& c < 2 ^ 8 := Nat.lt_of_le_of_lt Nat.and_le_left (by omega)
  have e3 : (a &&& c) + 256 * (b &&& d) = 2 ^ 8 * (b &&& d) + (a &&& c) := by omega
  rw [e1, e2, e3]
  apply Nat.eq_of_testBit_eq
  intro j
  rw [Nat.testBit_and, Nat.testBit_two_pow_mul_add _ (by omega), Nat.testBit_two_pow_mul_add _ (by omega), Nat.testBit_two_pow_mul_add _ h3]
  split
  · rw [Nat.testBit_and]
  · rw [Nat.testBit_and]
theorem le_and : ∀ (xs ys : List Int), Bytes xs → Bytes ys → xs.length = ys.length → andB (le xs) (le ys) = le (List.zipWith andB xs ys)
  | [], [], _, _, _ => rfl
  | x :: xs, y :: ys, hx, hy, hl => by
    have h1 := hx x (by simp)
    have h2 := hy y (by simp)
    have b1 : Bytes xs := fun z hz => hx z (by simp [hz])
    have b2 : Bytes ys := fun z hz => hy z (by simp [hz])
    have ih := le_and xs ys b1 b2 (by simpa using hl)
    have n1 := le_nonneg (bytes_nn b1)
    have n2 := le_nonneg (bytes_nn b2)
    rw [List.zipWith_cons_cons, le, le, le, ← ih]
    obtain ⟨a, rfl⟩ := Int.eq_ofNat_of_zero_le h1.1
    obtain ⟨c, rfl⟩ := Int.eq_ofNat_of_zero_le h2.1
    obtain ⟨b, hb⟩ := Int.eq_ofNat_of_zero_le n1
    obtain ⟨d, hd⟩ := Int.eq_ofNat_of_zero_le n2
    rw [hb, hd]
    unfold andB
    rw [show ((a : Int) + 256 * (b : Int)).toNat = a + 256 * b by omega, show ((c : Int) + 256 * (d : Int)).toNat = c + 256 * d by omega, and_split a b c d (by omega) (by omega)]
    simp only [Int.toNat_natCast]
    omega
def maskR : List Int := [255, 255, 255, 15, 252, 255, 255, 15, 252, 255, 255, 15, 252, 255, 255, 15]
theorem maskR_bytes : Bytes maskR := by unfold Bytes maskR; decide
def hR (key : List Int) : List Int := List.zipWith andB (key.take 16) maskR
theorem hR_length (key : List Int) (hk : key.length = 32) : (hR key).length = 16 := by simp [hR, maskR, hk]
theorem hR_at (key : List Int) (hk : key.length = 32) (k : Nat) (h : k < 16) : (hR key).getD k 0 = andB (key.getD k 0) (maskR.getD k 0) := by
  have h2 : k < maskR.length := h
  have h3 : k < (key.take 16).length := by rw [List.length_take, hk]; exact h
  simp [hR, List.getD, List.getElem?_zipWith, List.getElem?_take, h, show k < key.length by omega, h2]
theorem hR_bytes (key : List Int) (hk : key.length = 32) : Bytes (hR key) := by
  intro z hz
  obtain ⟨i, hi, rfl⟩ := List.getElem_of_mem hz
  have h16 : i < 16 := by rw [← hR_length key hk]; exact hi
  have e := hR_at key hk i h16
  have e2 : (hR key).getD i 0 = (hR key)[i] := by simp [List.getD, hi]
  rw [← e2, e]
  exact andB_bd _ _ (maskR_bytes.at i h16)
theorem hR_le (key : List Int) (hk : key.length = 32) (hb : Bytes key) : le (hR key) = rOf key := by
  have e : hR key = List.zipWith andB (key.take 8) (maskR.take 8) ++ List.zipWith andB ((key.drop 8).take 8) (maskR.drop 8) := by
    have e1 : key.take 16 = key.take 8 ++ (key.drop 8).take 8 := by
      have := (List.take_append_drop 8 (key.take 16)).symm
      rwa [List.take_take, List.drop_take] at this
    rw [hR, e1]
    conv => lhs; rw [← List.take_append_drop 8 maskR]
    rw [List.zipWith_append (by rw [List.length_take, hk]; rfl)]
  have l1 : (key.take 8).length = 8 := by rw [List.length_take, hk]; rfl
  have l2 : ((key.drop 8).take 8).length = 8 := by rw [List.length_take, List.length_drop, hk]; rfl
  have b1 := le8_bd (key.take 8) (bytes_take hb _) (by omega)
  have b2 := le8_bd ((key.drop 8).take 8) (bytes_take (bytes_drop hb _) _) (by omega)
  have m1 : le (maskR.take 8) = 1152921487695413247 := by decide
  have m2 : le (maskR.drop 8) = 1152921487695413244 := by decide
  rw [e, le_app, ← le_and _ _ (bytes_take hb _) (bytes_take maskR_bytes _) (by rw [l1]; rfl), ← le_and _ _ (bytes_take (bytes_drop hb _) _) (bytes_drop maskR_bytes _) (by rw [l2]; rfl), m1, m2]
  rw [List.length_zipWith, l1, rOf, rLow, rHigh, u64_and _ _ b1.1 b1.2 (by decide) (by decide), u64_and _ _ b2.1 b2.2 (by decide) (by decide)]
  rfl
theorem and15 : ∀ x : Nat, x < 256 → x &&& 15 = x % 16 := fun x _ => Nat.and_two_pow_sub_one_eq_mod x 4
theorem and255 : ∀ x : Nat, x < 256 → x &&& 255 = x := fun x h => by rw [show (255 : Nat) = 2 ^ 8 - 1 from rfl, Nat.and_two_pow_sub_one_eq_mod]; omega
theorem and252 : ∀ x : Nat, x < 256 → x &&& 252 = x / 4 * 4 := by decide +kernel
theorem mask_3 : ∀ k : Nat, k < 16 → k % 4 = 3 → maskR.getD k 0 = 15 := by decide
theorem mask_0 : ∀ k : Nat, k < 16 → k % 4 = 0 → 0 < k → maskR.getD k 0 = 252 := by decide
theorem mask_12 : ∀ k : Nat, k < 16 → k % 4 = 1 ∨ k % 4 = 2 ∨ k = 0 → maskR.getD k 0 = 255 := by decide
theorem andB15 (x : Int) (h : 0 ≤ x ∧ x < 256) : andB x 15 = x % 16 := by
  unfold andB
  rw [show ((15 : Int).toNat) = 15 from rfl, and15 _ (by omega)]; omega
theorem andB255 (x : Int) (h : 0 ≤ x ∧ x < 256) : andB x 255 = x := by
  unfold andB
  rw [show ((255 : Int).toNat) = 255 from rfl, and255 _ (by omega)]; omega
theorem andB252 (x : Int) (h : 0 ≤ x ∧ x < 256) : andB x 252 = x / 4 * 4 := by
  unfold andB
  rw [show ((252 : Int).toNat) = 252 from rfl, and252 _ (by omega)]; omega
/-- A number more, as part of a list that is known. -/
theorem ownN_next {w wr w1 : World} {v v' : Value} {zs : List Int} {z : Int} {k : Nat} (hk : k < zs.length) (hz : zs.getD k 0 = z)
    (hb : Below w.heap.size w wr) (hown : wr.ownsRow w.heap.size 3 1 v k (i64s (zs.take k)))
    (hown' : w1.ownsRow w.heap.size 3 1 v' (k + 1) (i64s (zs.take k) ++ [.int .i64 z])) (hg : (wr.alloc (.cells #[.int .i64 z] 3)).grownBy w1 v.ownBlock) :
    w1.ownsRow w.heap.size 3 1 v' (k + 1) (i64s (zs.take (k + 1))) ∧ Below w.heap.size w w1 := by
  have hl : (zs.take k).length = k := by rw [List.length_take]; omega
  have R := ownN_more (zs := zs.take k) (z := z) hb (by rw [hl]; exact hown) (by rw [hl]; exact hown') hg
  have e : zs.take k ++ [z] = zs.take (k + 1) := by rw [List.take_succ_eq_append_getElem hk, ← hz]; simp [List.getD, hk]
  rw [e, List.length_take, Nat.min_eq_left (by omega)] at R
  exact R
set_option maxHeartbeats 2000000 in
set_option maxRecDepth 20000 in
theorem half_r (key : List Int) (hk : key.length = 32) (hkb : Bytes key) (w : World) :
    Calls Try.prog 88 #[.agg (u8s key).toArray, .bool false] w fun e w' => ∃ v, e = .returned v ∧ isN (hR key) v w' ∧ Below w.heap.size w w' := by
  have HK0 : Hid (key.length = 32 ∧ Bytes key ∧ (hR key).length = 16 ∧ Bytes (hR key)) := ⟨hk, hkb, hR_length key hk, hR_bytes key hk⟩
  obtain ⟨i0, hi, hz0, hz1, hz2⟩ := info_parts info_int
  clear hk hkb
  go_enter Try.func88, Try.ntmps88
  go_wp2_with (first | (refine wpList_box_new rfl 27 _ rfl (u8s key) rfl ?_; intro w1 b1 s1 l1))
  have HB : Hid (Blk w1 w.heap.size 27 (u8s key) ∧ Below w.heap.size w w1 ∧ w1.heap.size = w.heap.size + 1) := ⟨b1, l1, s1⟩
  clear b1 s1 l1
  go_loopw [5, 6] (fun v i wr => ∃ k : Nat, k ≤ 16 ∧ i = .int .i64 k ∧ wr.ownsRow w1.heap.size 3 1 v k (i64s ((hR key).take k)) ∧ Below w1.heap.size w1 wr) (fun _ i _ => 16 - (intOf i).toNat)
  case atStart => exact ⟨0, Nat.zero_le _, rfl, World.ownsRow_nil _ _ _ _, Below.refl _ _⟩
  case round =>
    obtain ⟨k, hk, rfl, hown, hbel⟩ := hrel
    by_cases hlt : k < 16
    · have hsz := hbel.size
      have i1 : (0 : Int) ≤ (k : Int) := by omega
      have i2 : (k : Int) < 16 := by omega
      have c1 : wr.cell? ⟨w.heap.size, k, none⟩ = some (.int .u8 (key.getD k 0)) := u8s_cell (HB.out.1.later hbel HB.out.1.lt) k (by rw [HK0.out.1]; omega)
      have bD := HK0.out.2.1.at k (by rw [HK0.out.1]; omega)
      have hat := hR_at key HK0.out.1 k hlt
      obtain ⟨D, hD⟩ : ∃ D, key.getD k 0 = D := ⟨_, rfl⟩
      rw [hD] at c1 bD hat
      have v1 : IntKind.i64.wrap D = D := by rw [IntKind.wrap_i64]; omega
      obtain ⟨R, hR'⟩ : ∃ R, k % 4 = R := ⟨_, rfl⟩
      have n1 : (k : Int).tmod 4 = (R : Int) := by rw [Int.tmod_eq_emod_of_nonneg (by omega)]; omega
      have n2 : (k : Int) % 4 = (R : Int) := by omega
      have q16 : D.tmod 16 = D % 16 := Int.tmod_eq_emod_of_nonneg bD.1
      have q4 : D.tdiv 4 = D / 4 := Int.tdiv_eq_ediv_of_nonneg bD.1
      have v2 : IntKind.i64.wrap (D / 4 * 4) = D / 4 * 4 := by rw [IntKind.wrap_i64]; omega
      clear hD
      rcases (by omega : R = 3 ∨ (R = 0 ∧ 0 < k) ∨ (R = 0 ∧ k = 0) ∨ R = 1 ∨ R = 2) with rfl | ⟨rfl, h0⟩ | ⟨rfl, rfl⟩ | rfl | rfl
      · rw [mask_3 k hlt hR', andB15 D bD] at hat
        have HK : Hid (k < (hR key).length ∧ (hR key).getD k 0 = (D % 16)) := ⟨by rw [HK0.out.2.2.1]; exact hlt, hat⟩
        have n5 : (k : Int).tmod 4 = 3 := n1
        clear hat hR'
        go_wp2_with (at_builtin; refine wpList_append_own _ rfl _ _ 139 rfl w1.heap.size 3 i0 (.int .i64 0) 1 8 Try.underlying139 hi hz0 hz1 hz2 rfl (by decide) _ _ _ rfl (hown.alloc _) ⟨wr.heap.size, 0, none⟩ 1 1 [.int .i64 (D % 16)] rfl rfl ?c1 ?c2 ?c3 ?c4 ?c5 ?_)
        try case c1 => exact one_new _ _ _
        case c2 => first | rfl | (intro u hu; simp at hu; subst hu; rfl)
        case c3 => unfold maxLen; omega
        case c4 => omega
        case c5 => first | omega | (simp; omega)
        · intro v' w2 hown' hgrow _
          have R := ownN_next (w := w1) HK.out.1 HK.out.2 hbel hown hown' hgrow
          clear hown' hgrow hown hbel c1
          go_wp2_with fail
          exact ⟨⟨k + 1, by omega, by go_num, R.1, R.2⟩, by simp [intOf]; omega⟩
      · rw [mask_0 k hlt hR' h0, andB252 D bD] at hat
        have HK : Hid (k < (hR key).length ∧ (hR key).getD k 0 = (D / 4 * 4)) := ⟨by rw [HK0.out.2.2.1]; exact hlt, hat⟩
        have n5 : (k : Int).tmod 4 = 0 := n1
        have i3 : (0 : Int) < (k : Int) := by omega
        clear hat hR'
        go_wp2_with (at_builtin; refine wpList_append_own _ rfl _ _ 139 rfl w1.heap.size 3 i0 (.int .i64 0) 1 8 Try.underlying139 hi hz0 hz1 hz2 rfl (by decide) _ _ _ rfl (hown.alloc _) ⟨wr.heap.size, 0, none⟩ 1 1 [.int .i64 (D / 4 * 4)] rfl rfl ?c1 ?c2 ?c3 ?c4 ?c5 ?_)
        try case c1 => exact one_new _ _ _
        case c2 => first | rfl | (intro u hu; simp at hu; subst hu; rfl)
        case c3 => unfold maxLen; omega
        case c4 => omega
        case c5 => first | omega | (simp; omega)
        · intro v' w2 hown' hgrow _
          have R := ownN_next (w := w1) HK.out.1 HK.out.2 hbel hown hown' hgrow
          clear hown' hgrow hown hbel c1
          go_wp2_with fail
          exact ⟨⟨k + 1, by omega, by go_num, R.1, R.2⟩, by simp [intOf]; omega⟩
      · rw [mask_12 0 hlt (.inr (.inr rfl)), andB255 D bD] at hat
        have HK : Hid (0 < (hR key).length ∧ (hR key).getD 0 0 = D) := ⟨by rw [HK0.out.2.2.1]; exact hlt, hat⟩
        clear hat hR'
        go_wp2_with (at_builtin; refine wpList_append_own _ rfl _ _ 139 rfl w1.heap.size 3 i0 (.int .i64 0) 1 8 Try.underlying139 hi hz0 hz1 hz2 rfl (by decide) _ _ _ rfl (hown.alloc _) ⟨wr.heap.size, 0, none⟩ 1 1 [.int .i64 D] rfl rfl ?c1 ?c2 ?c3 ?c4 ?c5 ?_)
        try case c1 => exact one_new _ _ _
        case c2 => first | rfl | (intro u hu; simp at hu; subst hu; rfl)
        case c3 => unfold maxLen; omega
        case c4 => omega
        case c5 => first | omega | (simp; omega)
        · intro v' w2 hown' hgrow _
          have R := ownN_next (w := w1) HK.out.1 HK.out.2 hbel hown hown' hgrow
          clear hown' hgrow hown hbel c1
          go_wp2_with fail
          exact ⟨⟨0 + 1, by omega, by go_num, R.1, R.2⟩, by simp [intOf]⟩
      · rw [mask_12 k hlt (.inl hR'), andB255 D bD] at hat
        have HK : Hid (k < (hR key).length ∧ (hR key).getD k 0 = D) := ⟨by rw [HK0.out.2.2.1]; exact hlt, hat⟩
        have n5 : (k : Int).tmod 4 = 1 := n1
        clear hat hR'
        go_wp2_with (at_builtin; refine wpList_append_own _ rfl _ _ 139 rfl w1.heap.size 3 i0 (.int .i64 0) 1 8 Try.underlying139 hi hz0 hz1 hz2 rfl (by decide) _ _ _ rfl (hown.alloc _) ⟨wr.heap.size, 0, none⟩ 1 1 [.int .i64 D] rfl rfl ?c1 ?c2 ?c3 ?c4 ?c5 ?_)
        try case c1 => exact one_new _ _ _
        case c2 => first | rfl | (intro u hu; simp at hu; subst hu; rfl)
        case c3 => unfold maxLen; omega
        case c4 => omega
        case c5 => first | omega | (simp; omega)
        · intro v' w2 hown' hgrow _
          have R := ownN_next (w := w1) HK.out.1 HK.out.2 hbel hown hown' hgrow
          clear hown' hgrow hown hbel c1
          go_wp2_with fail
          exact ⟨⟨k + 1, by omega, by go_num, R.1, R.2⟩, by simp [intOf]; omega⟩
      · rw [mask_12 k hlt (.inr (.inl hR')), andB255 D bD] at hat
        have HK : Hid (k < (hR key).length ∧ (hR key).getD k 0 = D) := ⟨by rw [HK0.out.2.2.1]; exact hlt, hat⟩
        have n5 : (k : Int).tmod 4 = 2 := n1
        clear hat hR'
        go_wp2_with (at_builtin; refine wpList_append_own _ rfl _ _ 139 rfl w1.heap.size 3 i0 (.int .i64 0) 1 8 Try.underlying139 hi hz0 hz1 hz2 rfl (by decide) _ _ _ rfl (hown.alloc _) ⟨wr.heap.size, 0, none⟩ 1 1 [.int .i64 D] rfl rfl ?c1 ?c2 ?c3 ?c4 ?c5 ?_)
        try case c1 => exact one_new _ _ _
        case c2 => first | rfl | (intro u hu; simp at hu; subst hu; rfl)
        case c3 => unfold maxLen; omega
        case c4 => omega
        case c5 => first | omega | (simp; omega)
        · intro v' w2 hown' hgrow _
          have R := ownN_next (w := w1) HK.out.1 HK.out.2 hbel hown hown' hgrow
          clear hown' hgrow hown hbel c1
          go_wp2_with fail
          exact ⟨⟨k + 1, by omega, by go_num, R.1, R.2⟩, by simp [intOf]; omega⟩
    · obtain rfl : k = 16 := by omega
      rw [List.take_of_length_le (by rw [HK0.out.2.2.1]; exact Nat.le_refl _)] at hown
      have HO : Hid (isN (hR key) u5 wr ∧ Below w.heap.size w wr) := ⟨isN_own HK0.out.2.2.1 (by decide) (small_of_bytes HK0.out.2.2.2) hown, below_chain HB.out.2.1 hbel HB.out.2.1.size⟩
      clear hown hbel
      go_wp2_with fail
      go_ret
      exact ⟨_, rfl, HO.out⟩
set_option maxHeartbeats 2000000 in
set_option maxRecDepth 20000 in
theorem half_s (key : List Int) (hk : key.length = 32) (hkb : Bytes key) (w : World) :
    Calls Try.prog 88 #[.agg (u8s key).toArray, .bool true] w fun e w' => ∃ v, e = .returned v ∧ isN ((key.drop 16).take 16) v w' ∧ Below w.heap.size w w' := by
  have HK0 : Hid (key.length = 32 ∧ Bytes key ∧ ((key.drop 16).take 16).length = 16 ∧ Bytes ((key.drop 16).take 16)) := ⟨hk, hkb, by rw [List.length_take, List.length_drop, hk]; rfl, bytes_take (bytes_drop hkb _) _⟩
  obtain ⟨i0, hi, hz0, hz1, hz2⟩ := info_parts info_int
  clear hk hkb
  go_enter Try.func88, Try.ntmps88
  go_wp2_with (first | (refine wpList_box_new rfl 27 _ rfl (u8s key) rfl ?_; intro w1 b1 s1 l1))
  have HB : Hid (Blk w1 w.heap.size 27 (u8s key) ∧ Below w.heap.size w w1 ∧ w1.heap.size = w.heap.size + 1) := ⟨b1, l1, s1⟩
  clear b1 s1 l1
  go_loopw [5, 6] (fun v i wr => ∃ k : Nat, k ≤ 16 ∧ i = .int .i64 k ∧ wr.ownsRow w1.heap.size 3 1 v k (i64s (((key.drop 16).take 16).take k)) ∧ Below w1.heap.size w1 wr) (fun _ i _ => 16 - (intOf i).toNat)
  case atStart => exact ⟨0, Nat.zero_le _, rfl, World.ownsRow_nil _ _ _ _, Below.refl _ _⟩
  case round =>
    obtain ⟨k, hk, rfl, hown, hbel⟩ := hrel
    by_cases hlt : k < 16
    · have hsz := hbel.size
      have i1 : (0 : Int) ≤ (k : Int) := by omega
      have i2 : (k : Int) < 16 := by omega
      have c0 : wr.cell? ⟨w.heap.size, k, none⟩ = some (.int .u8 (key.getD k 0)) := u8s_cell (HB.out.1.later hbel HB.out.1.lt) k (by rw [HK0.out.1]; omega)
      have c1 : wr.cell? ⟨w.heap.size, 16 + k, none⟩ = some (.int .u8 (key.getD (16 + k) 0)) := u8s_cell (HB.out.1.later hbel HB.out.1.lt) (16 + k) (by rw [HK0.out.1]; omega)
      have bC := HK0.out.2.1.at k (by rw [HK0.out.1]; omega)
      have bD := HK0.out.2.1.at (16 + k) (by rw [HK0.out.1]; omega)
      obtain ⟨C, hC⟩ : ∃ C, key.getD k 0 = C := ⟨_, rfl⟩
      have HK : Hid (k < ((key.drop 16).take 16).length ∧ ((key.drop 16).take 16).getD k 0 = key.getD (16 + k) 0) := ⟨by rw [HK0.out.2.2.1]; exact hlt, by simp [List.getD, List.getElem?_take, hlt, List.getElem?_drop]⟩
      obtain ⟨D, hD⟩ : ∃ D, key.getD (16 + k) 0 = D := ⟨_, rfl⟩
      rw [hC] at c0 bC
      rw [hD] at c1 bD HK
      have v0 : IntKind.i64.wrap C = C := by rw [IntKind.wrap_i64]; omega
      have v1 : IntKind.i64.wrap D = D := by rw [IntKind.wrap_i64]; omega
      have i3 : (16 : Int) + (k : Int) < 32 := by omega
      have i4 : (0 : Int) ≤ 16 + (k : Int) := by omega
      clear hD hC
      go_wp2_with (at_builtin; refine wpList_append_own _ rfl _ _ 139 rfl w1.heap.size 3 i0 (.int .i64 0) 1 8 Try.underlying139 hi hz0 hz1 hz2 rfl (by decide) _ _ _ rfl (hown.alloc _) ⟨wr.heap.size, 0, none⟩ 1 1 [.int .i64 D] rfl rfl ?c1 ?c2 ?c3 ?c4 ?c5 ?_)
      try case c1 => exact one_new _ _ _
      case c2 => first | rfl | (intro u hu; simp at hu; subst hu; rfl)
      case c3 => unfold maxLen; omega
      case c4 => omega
      case c5 => first | omega | (simp; omega)
      · intro v' w2 hown' hgrow _
        have R := ownN_next (w := w1) HK.out.1 HK.out.2 hbel hown hown' hgrow
        clear hown' hgrow hown hbel c1
        go_wp2_with fail
        exact ⟨⟨k + 1, by omega, by go_num, R.1, R.2⟩, by simp [intOf]; omega⟩
    · obtain rfl : k = 16 := by omega
      rw [List.take_of_length_le (by rw [HK0.out.2.2.1]; exact Nat.le_refl _)] at hown
      have HO : Hid (isN ((key.drop 16).take 16) u5 wr ∧ Below w.heap.size w wr) := ⟨isN_own HK0.out.2.2.1 (by decide) (small_of_bytes HK0.out.2.2.2) hown, below_chain HB.out.2.1 hbel HB.out.2.1.size⟩
      clear hown hbel
      go_wp2_with fail
      go_ret
      exact ⟨_, rfl, HO.out⟩
end Go.Proofs.Ytcimiajkbgabiaa

namespace Go.Proofs.Ytcimiajkbgabiaa
open Go.RowKit
set_option linter.unusedVariables false
set_option linter.unusedSimpArgs false

theorem zero_new (w : World) : SeenN (w.alloc (.cells #[.int .i64 0] 3)) (some ⟨w.heap.size, 0, none⟩) 1 [0] := by
  have h : RowN (w.alloc (.cells #[.int .i64 0] 3)) w.heap.size 1 [0] := ⟨[], heap_alloc_new w _, rfl⟩
  exact h.seen (by decide) (fun d hd => by simp at hd; subst hd; decide)
theorem b0n : Bytes [0] := fun z hz => by simp at hz; subst hz; decide
def chunkL (m : List Int) (k : Nat) : List Int := (m.drop (16 * k)).take 16
theorem chunk_at (m : List Int) (k j : Nat) (hj : j < 16) : (chunkL m k).getD j 0 = m.getD (16 * k + j) 0 := by
  simp [chunkL, List.getD, List.getElem?_take, hj, List.getElem?_drop]
theorem chunk_length (m : List Int) (k : Nat) : (chunkL m k).length = Nat.min 16 (m.length - 16 * k) := by simp [chunkL]
theorem chunk_bytes {m : List Int} (h : Bytes m) (k : Nat) : Bytes (chunkL m k) := bytes_take (bytes_drop h _) _
theorem docK_succ (r : Int) (m : List Int) (k : Nat) : docK r m (k + 1) = ((docK r m k + (le (chunkL m k ++ [1]))) * r) % prime := by
  rw [docK, le_app, le_one, Int.mul_one]; rfl
theorem bytes_one {c : List Int} (h : Bytes c) : Bytes (c ++ [1]) := bytes_app h (fun z hz => by simp at hz; subst hz; decide)
set_option maxHeartbeats 4000000 in
set_option maxRecDepth 20000 in
theorem rtsum_any (key : List Int) (hk : key.length = 32) (hkb : Bytes key) (ao : Option Addr) (n c : Nat) (m : List Int) (w : World) (hx : Seen w ao n m) :
    Calls Try.prog 65 #[.agg (u8s key).toArray, .slice ao n c] w fun e w' => e = .returned (.agg (u8s (tagB key m)).toArray) ∧ Below w.heap.size w w' := by
  have HX : Hid (Seen w ao n m ∧ m.length = n ∧ Bytes m) := ⟨hx, hx.len, hx.bytes⟩
  have HK : Hid (key.length = 32 ∧ Bytes key) := ⟨hk, hkb⟩
  have ht := hx.top
  obtain ⟨i0, hi, hz0, hz1, hz2⟩ := info_parts info_int
  obtain ⟨T, hT⟩ : ∃ T, tagB key m = T := ⟨_, rfl⟩
  have HT : Hid (tagB key m = T) := hT
  rw [hT]
  clear hx hk hkb hT
  go_enter Try.func65, Try.ntmps65
  go_wp2_with (first | (refine wpList_box_new rfl 27 _ rfl (u8s key) rfl ?_; intro w1 b1 s1 l1) | (refine wpList_alloc_new rfl 77 rfl 16 _ zeroTag ?_; intro w2 b2 s2 l2) | (refine wpList_load_blk rfl 27 _ rfl _ rfl (u8s key) _ (b1.later l2 (by omega)) Try.underlying27 rfl (by rw [u8s_length, HK.out.1]; exact tsizeKey) ?_))
  have H2 : Hid (Blk w2 w.heap.size 27 (u8s key) ∧ Blk w2 (w.heap.size + 1) 77 (u8s (zs0 16)) ∧ Below w.heap.size w w2) := by
    rw [s1] at b2
    exact ⟨b1.later l2 (by omega), b2, below_chain l1 l2 (by omega)⟩
  clear b1 s1 l1 b2 s2 l2
  refine (half_r key HK.out.1 HK.out.2 w2).mono ?_
  rintro e w3 ⟨vr, rfl, hvr, l3⟩
  obtain ⟨ar, nr, cr, rfl, sr⟩ := hvr
  have hnr : nr = 16 := by rw [← sr.len, hR_length key HK.out.1]
  subst hnr
  have H3 : Hid (Blk w3 w.heap.size 27 (u8s key) ∧ Blk w3 (w.heap.size + 1) 77 (u8s (zs0 16)) ∧ Below w.heap.size w w3 ∧ SeenN w3 ar 16 (hR key)) := ⟨H2.out.1.later l3 H2.out.1.lt, H2.out.2.1.later l3 H2.out.2.1.lt, below_chain H2.out.2.2 l3 H2.out.2.2.size, sr⟩
  clear sr l3 H2
  go_wp2_with fail
  have s4 := zero_new w3
  have l4 : Below w3.heap.size w3 (w3.alloc (.cells #[.int .i64 0] 3)) := (Below.refl _ _).alloc (Nat.le_refl _) _
  obtain ⟨w4, hw4⟩ : ∃ W, w3.alloc (.cells #[.int .i64 0] 3) = W := ⟨_, rfl⟩
  rw [hw4] at s4 l4 ⊢
  have H4 : Hid (Blk w4 w.heap.size 27 (u8s key) ∧ Blk w4 (w.heap.size + 1) 77 (u8s (zs0 16)) ∧ Below w.heap.size w w4 ∧ SeenN w4 ar 16 (hR key) ∧ SeenN w4 (some ⟨w3.heap.size, 0, none⟩) 1 [0]) := ⟨H3.out.1.later l4 H3.out.1.lt, H3.out.2.1.later l4 H3.out.2.1.lt, below_chain H3.out.2.2.1 l4 H3.out.2.2.1.size, H3.out.2.2.2.later l4 (Nat.le_refl _), s4⟩
  clear s4 l4 hw4 H3
  go_loopw [6, 7] (fun v i wr => ∃ (k : Nat) (es : List Int) (ae : Option Addr) (ne ce : Nat), 16 * k < n + 16 ∧ i = .int .i64 (16 * (k : Int)) ∧ v = .slice ae ne ce ∧ SeenN wr ae ne es ∧ Bytes es ∧ ne ≤ 17 ∧ le es = docK (rOf key) m k ∧ Below w4.heap.size w4 wr) (fun _ i _ => n + 16 - (intOf i).toNat)
  case atStart => exact ⟨0, [0], _, 1, 1, by omega, rfl, rfl, H4.out.2.2.2.2, b0n, by decide, rfl, Below.refl _ _⟩
  case round =>
    obtain ⟨k, es, ae, ne, ce, hk, rfl, rfl, se, hbe, hne, hle, hbel⟩ := hrel
    have HE : Hid (SeenN wr ae ne es ∧ Bytes es ∧ le es = docK (rOf key) m k ∧ Below w4.heap.size w4 wr) := ⟨se, hbe, hle, hbel⟩
    clear se hbe hle hbel
    by_cases hlt : 16 * k < n
    · have HC : Hid ((chunkL m k).length = Nat.min 16 (n - 16 * k) ∧ Bytes (chunkL m k)) := ⟨by rw [chunk_length, HX.out.2.1], chunk_bytes HX.out.2.2 k⟩
      obtain ⟨Lc, HLc⟩ : ∃ Lc, Hid ((chunkL m k).length = Lc) := ⟨_, rfl⟩
      have hLc1 : Lc ≤ 16 := by rw [← HLc.out, HC.out.1]; exact Nat.min_le_left _ _
      have hLc2 : 16 * k + Lc ≤ n := by
        have : Lc ≤ n - 16 * k := by rw [← HLc.out, HC.out.1]; exact Nat.min_le_right _ _
        omega
      have hLc3 : Lc < 16 → 16 * k + Lc = n := by
        intro h
        have e : Lc = min 16 (n - 16 * k) := by rw [← HLc.out]; exact HC.out.1
        omega
      have i1 : 16 * (k : Int) < (n : Int) := by omega
      obtain ⟨w5, hw5⟩ : ∃ W, W = wr := ⟨_, rfl⟩
      subst hw5
      go_wp2_with fail
      go_loopw [8, 9] (fun v i wr => ∃ j : Nat, j ≤ Lc ∧ i = .int .i64 (16 * (k : Int) + (j : Int)) ∧ wr.ownsRow w5.heap.size 3 1 v j (i64s ((chunkL m k).take j)) ∧ Below w5.heap.size w5 wr) (fun _ i _ => 16 * k + 16 - (intOf i).toNat)
      case atStart => exact ⟨0, Nat.zero_le _, by simp, World.ownsRow_nil _ _ _ _, Below.refl _ _⟩
      case round =>
        obtain ⟨j, hj, rfl, hown, hbel⟩ := hrel
        have hsz := hbel.size
        by_cases hjl : j < Lc
        · have i2 : 16 * (k : Int) + (j : Int) < (n : Int) := by omega
          have i3 : 16 * (k : Int) + (j : Int) < 16 * (k : Int) + 16 := by omega
          have i4 : (0 : Int) ≤ 16 * (k : Int) + (j : Int) := by omega
          obtain ⟨b, o, rfl, hb, hc⟩ := HX.out.1.cells (by omega)
          have L5 := below_chain (below_chain H4.out.2.2.1 HE.out.2.2.2 H4.out.2.2.1.size) hbel (Nat.le_trans H4.out.2.2.1.size HE.out.2.2.2.size)
          have c1 := (L5.cell (p := ⟨b, o + (16 * k + j), none⟩) hb).trans (hc (16 * k + j) (by omega))
          have bD := HX.out.2.2.at (16 * k + j) (by rw [HX.out.2.1]; omega)
          have HN : Hid (j < (chunkL m k).length ∧ (chunkL m k).getD j 0 = m.getD (16 * k + j) 0) := ⟨by rw [HLc.out]; exact hjl, chunk_at m k j (by omega)⟩
          obtain ⟨D, hD⟩ : ∃ D, m.getD (16 * k + j) 0 = D := ⟨_, rfl⟩
          rw [hD] at c1 bD HN
          have v1 : IntKind.i64.wrap D = D := by rw [IntKind.wrap_i64]; omega
          have a1 : ((16 * k + j : Nat) : Int) = 16 * (k : Int) + (j : Int) := by omega
          have a2 : (16 * (k : Int) + (j : Int)).toNat = 16 * k + j := by omega
          clear hc hD L5
          go_wp2_with (at_builtin; refine wpList_append_own _ rfl _ _ 139 rfl w5.heap.size 3 i0 (.int .i64 0) 1 8 Try.underlying139 hi hz0 hz1 hz2 rfl (by decide) _ _ _ rfl (hown.alloc _) ⟨wr.heap.size, 0, none⟩ 1 1 [.int .i64 D] rfl rfl ?c1 ?c2 ?c3 ?c4 ?c5 ?_)
          try case c1 => exact one_new _ _ _
          case c2 => first | rfl | (intro u hu; simp at hu; subst hu; rfl)
          case c3 => unfold maxLen; omega
          case c4 => omega
          case c5 => first | omega | (simp; omega)
          · intro v' w6 hown' hgrow _
            have R := ownN_next (w := w5) HN.out.1 HN.out.2 hbel hown hown' hgrow
            clear hown' hgrow hown hbel c1 a1 a2
            go_wp2_with fail
            exact ⟨⟨j + 1, by omega, by go_num, R.1, R.2⟩, by simp [intOf]; omega⟩
        · obtain rfl : Lc = j := by omega
          rw [List.take_of_length_le (by rw [HLc.out]; exact Nat.le_refl _)] at hown
          have hstop : ¬ (16 * (k : Int) + (Lc : Int) < (n : Int)) ∨ (16 * (k : Int) + (Lc : Int) < (n : Int) ∧ ¬ (16 * (k : Int) + (Lc : Int) < 16 * (k : Int) + 16)) := by
            rcases Nat.lt_or_ge Lc 16 with h | h
            · left; have := hLc3 h; omega
            · by_cases h2 : 16 * (k : Int) + (Lc : Int) < (n : Int)
              · right; exact ⟨h2, by omega⟩
              · left; exact h2
          have hrest : ∀ (v' : Value) (w6 : World), w6.ownsRow w5.heap.size 3 1 v' (Lc + 1) (i64s (chunkL m k) ++ [.int .i64 1]) → (wr.alloc (.cells #[.int .i64 1] 3)).grownBy w6 u8.ownBlock → ∃ a6 c6, v' = .slice a6 (Lc + 1) c6 ∧ SeenN w6 a6 (Lc + 1) (chunkL m k ++ [1]) ∧ Below w5.heap.size w5 w6 := by
            intro v' w6 hown' hgrow
            have hown2 := hown
            have hown3 := hown'
            have R := ownN_more (w := w5) (zs := chunkL m k) (z := 1) hbel (by rw [HLc.out]; exact hown2) (by rw [HLc.out]; exact hown3) hgrow
            have hl : (chunkL m k ++ [1]).length = Lc + 1 := by rw [List.length_append, HLc.out]; rfl
            rw [hl] at R
            obtain ⟨a6, n6, c6, rfl, s6⟩ := isN_own hl (by omega) (small_of_bytes (bytes_one HC.out.2)) R.1
            obtain rfl : Lc + 1 = n6 := by rw [← hl, s6.len]
            exact ⟨a6, c6, rfl, s6, R.2⟩
          rcases hstop with h1 | ⟨h1, h2⟩
          all_goals
            go_wp2_with (at_builtin; refine wpList_append_own _ rfl _ _ 139 rfl w5.heap.size 3 i0 (.int .i64 0) 1 8 Try.underlying139 hi hz0 hz1 hz2 rfl (by decide) _ _ _ rfl (hown.alloc _) ⟨wr.heap.size, 0, none⟩ 1 1 [.int .i64 1] rfl rfl ?c1 ?c2 ?c3 ?c4 ?c5 ?_)
            try case c1 => exact one_new _ _ _
            case c2 => first | rfl | (intro u hu; simp at hu; subst hu; rfl)
            case c3 => unfold maxLen; omega
            case c4 => omega
            case c5 => first | omega | (simp; omega)
            · intro v' w6 hown' hgrow _
              obtain ⟨a6, c6, rfl, s6, l6⟩ := hrest v' w6 hown' hgrow
              have H6 : Hid (SeenN w6 a6 (Lc + 1) (chunkL m k ++ [1]) ∧ Below w4.heap.size w4 w6 ∧ SeenN w6 ae ne es ∧ SeenN w6 ar 16 (hR key)) := ⟨s6, below_chain HE.out.2.2.2 l6 HE.out.2.2.2.size, HE.out.1.later l6 (Nat.le_refl _), (H4.out.2.2.2.1.later HE.out.2.2.2 (Nat.le_refl _)).later l6 (Nat.le_refl _)⟩
              clear hown' hgrow hown hbel hrest s6 l6
              go_wp2_with fail
              refine (add_any ae a6 ne (Lc + 1) ce c6 es _ w6 H6.out.2.2.1 H6.out.1 HE.out.2.1 (bytes_one HC.out.2) (by omega) (by omega)).mono ?_
              rintro e w7 ⟨v7, rfl, p1, h7⟩
              obtain ⟨a7, n7, c7, rfl, s7⟩ := h7.1
              have hn7 : n7 ≤ 23 := by
                have h := h7.2.2.2.2.2.1
                rw [s7.len] at h
                have h3 : Nat.max ne (Lc + 1) ≤ 17 := Nat.max_le.2 ⟨by omega, by omega⟩
                omega
              have H7 : Hid (SeenN w7 a7 n7 p1 ∧ Bytes p1 ∧ le p1 = docK (rOf key) m k + le (chunkL m k ++ [1]) ∧ Below w4.heap.size w4 w7 ∧ SeenN w7 ar 16 (hR key)) := by
                obtain ⟨_, g2, g3, _, _, _, g7⟩ := h7
                exact ⟨s7, g2, by rw [g3, HE.out.2.2.1], below_chain H6.out.2.1 g7 H6.out.2.1.size, H6.out.2.2.2.later g7 (Nat.le_refl _)⟩
              clear h7 s7
              go_wp2_with fail
              refine (mul_any a7 ar n7 16 c7 cr p1 (hR key) w7 H7.out.1 H7.out.2.2.2.2 H7.out.2.1 (hR_bytes key HK.out.1) (by omega) (by decide)).mono ?_
              rintro e w8 ⟨v8, rfl, p2, h8⟩
              obtain ⟨a8, n8, c8, rfl, s8⟩ := h8.1
              have hn8 : n8 ≤ 45 := by have h := h8.2.2.2.2.1; rw [s8.len] at h; omega
              have H8 : Hid (SeenN w8 a8 n8 p2 ∧ Bytes p2 ∧ le p2 = (docK (rOf key) m k + le (chunkL m k ++ [1])) * rOf key ∧ Below w4.heap.size w4 w8) := by
                obtain ⟨_, g2, g3, _, _, g6⟩ := h8
                exact ⟨s8, g2, by rw [g3, H7.out.2.2.1, hR_le key HK.out.1 HK.out.2], below_chain H7.out.2.2.2.1 g6 H7.out.2.2.2.1.size⟩
              clear h8 s8
              go_wp2_with fail
              refine (fold_any a8 n8 c8 p2 w8 H8.out.1 H8.out.2.1 (by omega)).mono ?_
              rintro e w9 ⟨v9, rfl, p3, h9⟩
              obtain ⟨a9, n9, c9, rfl, s9⟩ := h9.1
              have hn9 : n9 ≤ 17 := by have h := h9.2.2.2.1; rwa [s9.len] at h
              have H9 : Hid (SeenN w9 a9 n9 p3 ∧ Bytes p3 ∧ le p3 = docK (rOf key) m (k + 1) ∧ Below w4.heap.size w4 w9) := by
                obtain ⟨_, g2, g3, _, g5⟩ := h9
                exact ⟨s9, g2, by rw [g3, H8.out.2.2.1, docK_succ], below_chain H8.out.2.2.2 g5 H8.out.2.2.2.size⟩
              clear h9 s9
              go_wp2_with fail
              exact ⟨⟨k + 1, p3, a9, n9, c9, by omega, by go_num, rfl, H9.out.1, H9.out.2.1, hn9, H9.out.2.2.1, H9.out.2.2.2⟩, by simp [intOf]; omega⟩
    · have i1 : ¬ 16 * (k : Int) < (n : Int) := by omega
      have hkk : (n + 15) / 16 = k := by omega
      have HF : Hid (tagB key m = leB 16 (le es + sOf key)) := by
        show _ = _
        rw [tagB, code_doc, HX.out.2.1, hkk, HE.out.2.2.1]
      have H5 : Hid (Blk wr w.heap.size 27 (u8s key) ∧ Blk wr (w.heap.size + 1) 77 (u8s (zs0 16)) ∧ Below w.heap.size w wr ∧ SeenN wr ae ne es) := ⟨H4.out.1.later HE.out.2.2.2 H4.out.1.lt, H4.out.2.1.later HE.out.2.2.2 H4.out.2.1.lt, below_chain H4.out.2.2.1 HE.out.2.2.2 H4.out.2.2.1.size, HE.out.1⟩
      clear hkk
      go_wp2_with (first | (refine wpList_load_blk rfl 27 _ rfl _ rfl (u8s key) _ H5.out.1 Try.underlying27 rfl (by rw [u8s_length, HK.out.1]; exact tsizeKey) ?_))
      refine (half_s key HK.out.1 HK.out.2 wr).mono ?_
      rintro e w6 ⟨v6, rfl, hv6, l6⟩
      obtain ⟨a6, n6, c6, rfl, s6⟩ := hv6
      have hl6 : ((key.drop 16).take 16).length = 16 := by rw [List.length_take, List.length_drop, HK.out.1]; rfl
      obtain rfl : 16 = n6 := by rw [← hl6, s6.len]
      have H6 : Hid (SeenN w6 a6 16 ((key.drop 16).take 16) ∧ SeenN w6 ae ne es ∧ Below w.heap.size w w6 ∧ Blk w6 (w.heap.size + 1) 77 (u8s (zs0 16))) := ⟨s6, H5.out.2.2.2.later l6 (Nat.le_refl _), below_chain H5.out.2.2.1 l6 H5.out.2.2.1.size, H5.out.2.1.later l6 H5.out.2.1.lt⟩
      clear s6 l6 hl6
      go_wp2_with fail
      refine (add_any ae a6 ne 16 ce c6 es _ w6 H6.out.2.1 H6.out.1 HE.out.2.1 (bytes_take (bytes_drop HK.out.2 _) _) (by omega) (by decide)).mono ?_
      rintro e w7 ⟨v7, rfl, p1, h7⟩
      obtain ⟨a7, n7, c7, rfl, s7⟩ := h7.1
      have hn7 : 16 ≤ n7 := by have h := h7.2.2.2.2.1; rwa [s7.len] at h
      have ht7 := s7.top
      have hT := HT.out
      have H7 : Hid (SeenN w7 a7 n7 p1 ∧ Bytes p1 ∧ tagB key m = T ∧ p1.take 16 = T ∧ T.length = 16 ∧ Below w.heap.size w w7 ∧ Blk w7 (w.heap.size + 1) 77 (u8s (zs0 16)) ∧ p1.length = n7) := by
        obtain ⟨_, g2, g3, _, _, _, g7⟩ := h7
        refine ⟨s7, g2, hT, ?_, by rw [← hT, tagB_length], below_chain H6.out.2.2.1 g7 H6.out.2.2.1.size, H6.out.2.2.2.later g7 H6.out.2.2.2.lt, s7.len⟩
        rw [digits16 p1 g2 (by rw [s7.len]; exact hn7), g3, ← hT, HF.out]; rfl
      clear h7 s7 hT
      go_wp2_with (first | (refine wpList_alloc_new rfl 77 rfl 16 _ zeroTag ?_; intro w8 b8 s8 l8))
      have H8 : Hid (Blk w8 w7.heap.size 77 (u8s (zs0 16)) ∧ SeenN w8 a7 n7 p1 ∧ Below w.heap.size w w8 ∧ Blk w8 (w.heap.size + 1) 77 (u8s (zs0 16)) ∧ w.heap.size + 1 < w7.heap.size ∧ w8.heap.size = w7.heap.size + 1) := ⟨b8, H7.out.1.later l8 (Nat.le_refl _), below_chain H7.out.2.2.2.2.2.1 l8 H7.out.2.2.2.2.2.1.size, H7.out.2.2.2.2.2.2.1.later l8 H7.out.2.2.2.2.2.2.1.lt, H7.out.2.2.2.2.2.2.1.lt, s8⟩
      clear b8 s8 l8
      obtain ⟨G, HG⟩ : ∃ G, Hid (w7.heap.size = G) := ⟨_, rfl⟩
      rw [HG.out] at H8 ⊢
      go_loopw [12] (fun i wr => ∃ j : Nat, j ≤ 16 ∧ i = .int .i64 j ∧ Blk wr G 77 (u8s (T.take j ++ zs0 (16 - j))) ∧ Kept (fun b => b = G) w8 wr) (fun i _ => 16 - (intOf i).toNat)
      case atStart => exact ⟨0, Nat.zero_le _, rfl, H8.out.1, Kept.refl _ _⟩
      case round =>
        obtain ⟨j, hj, rfl, hbk, hkp⟩ := hrel
        by_cases hjl : j < 16
        · obtain ⟨b, o, rfl, hb, hc⟩ := H8.out.2.1.cells (by omega)
          have hbG : b ≠ G := by
            obtain ⟨b', o', e', hlt', _⟩ := H7.out.1.cells (by omega)
            simp only [Option.some.injEq, Addr.mk.injEq, and_true] at e'
            have := HG.out
            omega
          have c1 := (hkp.cell (p := ⟨b, o + j, none⟩) hb hbG).trans (hc j (by omega))
          have bD := H7.out.2.1.at j (by rw [H7.out.2.2.2.2.2.2.2]; omega)
          have eT : T.getD j 0 = p1.getD j 0 := by rw [← H7.out.2.2.2.1]; simp [List.getD, List.getElem?_take, hjl]
          have hlen : (T.take j ++ zs0 (16 - j) : List Int).length = 16 := by rw [List.length_append, List.length_take, H7.out.2.2.2.2.1, zs0_length]; omega
          have cg := u8s_cell hbk j (by rw [hlen]; exact hjl)
          have fg := hbk.frozen j
          have hset : (T.take j ++ zs0 (16 - j) : List Int).set j (p1.getD j 0) = T.take (j + 1) ++ zs0 (16 - (j + 1)) := by
            have h := take_next T j (by rw [H7.out.2.2.2.2.1]; exact hjl) (16 - (j + 1))
            rw [show 16 - (j + 1) + 1 = 16 - j by omega, eT] at h
            exact h
          obtain ⟨D, hD⟩ : ∃ D, p1.getD j 0 = D := ⟨_, rfl⟩
          obtain ⟨Z, hZ⟩ : ∃ Z, (T.take j ++ zs0 (16 - j) : List Int).getD j 0 = Z := ⟨_, rfl⟩
          rw [hD] at c1 bD hset
          rw [hZ] at cg
          have HQ : Hid (Blk (wr.setCell ⟨G, j, none⟩ (.int .u8 D)) G 77 (u8s (T.take (j + 1) ++ zs0 (16 - (j + 1)))) ∧ Kept (fun b => b = G) w8 (wr.setCell ⟨G, j, none⟩ (.int .u8 D))) := by
            have R := hbk.set j (.int .u8 D)
            rw [u8s_set, hset] at R
            exact ⟨R, hkp.setCell rfl _⟩
          have v1 : IntKind.u8.wrap D = D := by simp only [IntKind.wrap, IntKind.bits, IntKind.signed]; simp; omega
          have i2 : (j : Int) < 16 := by omega
          have i3 : (0 : Int) ≤ (j : Int) := by omega
          have i4 : (j : Int) < (n7 : Int) := by omega
          clear hc hD hZ hset eT hbk hkp hlen
          go_wp2_with fail
          exact ⟨⟨j + 1, by omega, by go_num, HQ.out.1, HQ.out.2⟩, by simp [intOf]; omega⟩
        · obtain rfl : j = 16 := by omega
          have e1 : T.take 16 ++ zs0 (16 - 16) = T := by rw [List.take_of_length_le (by rw [H7.out.2.2.2.2.1]; exact Nat.le_refl _)]; simp [zs0]
          rw [e1] at hbk
          have HQ : Hid (Blk wr G 77 (u8s T) ∧ Blk wr (w.heap.size + 1) 77 (u8s (zs0 16)) ∧ Below w.heap.size w wr ∧ T.length = 16) := by
            have := H8.out.2.2.2.2.1
            exact ⟨hbk, H8.out.2.2.2.1.kept hkp (by omega), below_kept H8.out.2.2.1 hkp H8.out.2.2.1.size (fun j hj => by omega), H7.out.2.2.2.2.1⟩
          clear hbk hkp e1
          rw [show ((16 : Nat) : Int) = 16 from rfl]
          go_wp2_with (first | (refine wpList_load_blk rfl 77 _ rfl _ rfl (u8s T) _ HQ.out.1 Try.underlying77 rfl (by rw [u8s_length, HQ.out.2.2.2]; exact sizeTag) ?_) | (refine wpList_store_blk rfl 77 77 _ _ rfl _ rfl _ (u8s T) rfl HQ.out.2.1 (by rw [u8s_length, u8s_length, HQ.out.2.2.2]; rfl) (by rw [u8s_length, HQ.out.2.2.2]; exact sizeTag) (u8s_one _) ?_; intro w9 b9 s9 k9))
          exact ret_blk rfl (w.heap.size + 1) (u8s T) _ rfl b9 Try.underlying77 rfl (by rw [u8s_length, HQ.out.2.2.2]; exact sizeTag) rfl ⟨rfl, below_kept HQ.out.2.2.1 k9 HQ.out.2.2.1.size (fun j hj => by omega)⟩
end Go.Proofs.Ytcimiajkbgabiaa
