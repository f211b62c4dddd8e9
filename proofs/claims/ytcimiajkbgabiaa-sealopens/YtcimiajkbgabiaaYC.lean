/- Joined texts: SState SCopy SBegin RInv RInvG RInvT TRows RSState SPlus SBytes. -/
import Derived.Test.YtcimiajkbgabiaaYA
import Derived.Test.YtcimiajkbgabiaaYB
import Derived.Laws.CopyOwn
import Derived.Laws.StructEq
import Derived.Lib.SmallJoins
namespace Go.Proofs.Ytcimiajkbgabiaa
open Go.RowKit
set_option linter.unusedVariables false
set_option linter.unusedSimpArgs false

theorem zeroSt : (Try.prog.info? 125).map (fun i => (i.zero, i.size)) = some (some (.agg (u32s (List.replicate 16 0)).toArray), 16) := by kernel_rfl
theorem sizeSt : (Try.prog.info? 125).map (·.size) = some 16 := by kernel_rfl
theorem zero64b : (Try.prog.info? 103).map (fun i => (i.zero, i.size)) = some (some (.agg (u8s (List.replicate 64 0)).toArray), 64) := by kernel_rfl
theorem size64b : (Try.prog.info? 103).map (·.size) = some 64 := by kernel_rfl
theorem mid_set (xs ys zs : List Int) (y z : Int) (n : Nat) (hn : xs.length = n) : (xs ++ (y :: zs)).set n z = xs ++ (z :: zs) := by
  subst hn
  rw [List.set_append_right _ _ (Nat.le_refl _), Nat.sub_self, List.set_cons_zero]
theorem with_set (st zs : List Int) (f k : Nat) (hk : f + k < st.length) : (st.take f ++ (wds zs k ++ st.drop (f + k))).set (f + k) (w4 zs k) = st.take f ++ (wds zs (k + 1) ++ st.drop (f + (k + 1))) := by
  have h1 : (st.take f ++ wds zs k).length = f + k := by simp [wds_length]; omega
  rw [← List.append_assoc, List.drop_eq_getElem_cons hk, mid_set _ [] _ _ _ _ h1, wds_succ]
  simp [Nat.add_assoc]
theorem little_w4 (zs : List Int) (k : Nat) (ao : Option Addr) (c : Nat) (w : World) (h : Seen w ao 4 ((zs.drop (4 * k)).take 4)) :
    Calls Try.prog 61 #[.slice ao 4 c] w fun e w' => e = .returned (.tuple #[.int .u32 (w4 zs k), .int .i64 0]) ∧ w = w' := by
  have := little_32 ao 4 c ((zs.drop (4 * k)).take 4) w h
  rwa [leV_ok, fit_ok] at this
set_option maxRecDepth 20000 in
set_option maxHeartbeats 1000000 in
theorem with_any (st : List Int) (hs : st.length = 16) (f n L : Nat) (hf : f + n ≤ 16) (hL : L = 4 * n) (ao : Option Addr) (c : Nat) (zs : List Int) (w : World) (hx : Seen w ao L zs) (hc : L ≤ c) :
    Calls Try.prog 96 #[.agg (u32s st).toArray, .int .u64 f, .slice ao L c] w fun e w' => e = .returned (.agg (u32s (st.take f ++ (wds zs n ++ st.drop (f + n)))).toArray) ∧ Below w.heap.size w w' := by
  have HS : Hid (st.length = 16 ∧ L = 4 * n) := ⟨hs, hL⟩
  have HX : Hid (Seen w ao L zs) := hx
  clear hs hx hL
  go_enter Try.func96, Try.ntmps96
  go_wp2_with (first | (refine wpList_box_new rfl 125 _ rfl (u32s st) rfl ?_; intro w1 b1 s1 l1) | (refine wpList_alloc_new rfl 125 rfl 16 _ zeroSt ?_; intro w2 b2 s2 l2))
  have HB : Hid (Blk w2 w.heap.size 125 (u32s st) ∧ Blk w2 (w.heap.size + 1) 125 (u32s (List.replicate 16 0)) ∧ Below w.heap.size w w2) :=
    ⟨b1.later l2 (by omega), by rwa [s1] at b2, below_chain l1 l2 (by omega)⟩
  have sz : w2.heap.size = w.heap.size + 2 := by omega
  clear b1 s1 l1 b2 s2 l2
  go_loopw [1, 7] (fun v i wr => ∃ k : Nat, k ≤ n ∧ i = .int .i64 ((4 * k : Nat) : Int) ∧ v = .int .u64 ((f + k : Nat) : Int) ∧ Blk wr w.heap.size 125 (u32s (st.take f ++ (wds zs k ++ st.drop (f + k)))) ∧ Kept (fun b => b = w.heap.size) w2 wr) (fun _ i _ => 64 - (intOf i).toNat)
  case atStart => exact ⟨0, by omega, rfl, rfl, by simpa [wds] using HB.out.1, Kept.refl _ _⟩
  case round =>
    obtain ⟨k, hk, rfl, rfl, hb, hkp⟩ := hrel
    obtain ⟨F, hF⟩ : ∃ F, F = f + k := ⟨_, rfl⟩
    rw [← hF]
    obtain ⟨J, hJ⟩ : ∃ J, J = 4 * k := ⟨_, rfl⟩
    rw [← hJ]
    have q1 := HS.out.1
    have q2 := HS.out.2
    by_cases hlt : k < n
    · have sn : Seen wr (subA ao (4 * k) c) 4 (((zs.drop (4 * k)).take 4)) := by
        have := ((HX.out.later HB.out.2.2 (Nat.le_refl _)).kept hkp (fun b o h0 e => by have := HX.out.old (Nat.le_refl _) b o h0 e; omega)).sub (4 * k) (4 * k + 4) c (by omega) (by omega) (by omega)
        rwa [show 4 * k + 4 - 4 * k = 4 by omega] at this
      have hsl : ∀ w, (Instr.sliceAt 22 (.slice ao L c) (some (.int .i64 (J : Int))) (some (.int .i64 ((J : Int) + 4))) none).run Try.prog w = .ok (.slice (subA ao J c) 4 (c - J)) w := fun w => by
        have := sl_lh ao L c (4 * k) (4 * k + 4) (by omega) (by omega) w
        rw [show 4 * k + 4 - 4 * k = 4 by omega] at this
        rw [← hJ] at this
        simpa using this
      have SN : Hid (Seen wr (subA ao J c) 4 (((zs.drop (4 * k)).take 4))) := by rw [hJ]; exact sn
      have hlen : (st.take f ++ (wds zs k ++ st.drop (f + k))).length = 16 := by simp [wds_length]; omega
      have cs := u32s_cell hb F (by omega)
      have fs := hb.frozen F
      have X0 : Hid (Blk wr w.heap.size 125 (u32s (st.take f ++ (wds zs k ++ st.drop (f + k)))) ∧ f + k < st.length) := ⟨hb, by omega⟩
      have i1 : (J : Int) < (L : Int) := by omega
      have i4 : J + 4 ≤ 64 := by omega
      have i2 : (F : Int) < 16 := by omega
      have HF : Hid (F = f + k ∧ J = 4 * k) := ⟨hF, hJ⟩
      clear hb sn hlen q1 q2 hF hJ
      go_wp2_with (first | (go_at_call 61; refine (little_w4 zs k _ _ _ SN.out).mono ?_; rintro e w' ⟨rfl, rfl⟩))
      have R1 := X0.out.1.set F (.int .u32 (w4 zs k))
      have q3 := HF.out.1
      have q4 := HF.out.2
      rw [u32s_set, q3, with_set st zs f k X0.out.2, ← q3] at R1
      exact ⟨⟨k + 1, by omega, by rw [q4]; go_num, by rw [q3]; go_num, R1, hkp.setCell rfl _⟩, by simp [intOf]; omega⟩
    · obtain rfl : k = n := by omega
      have X3 : Hid (Blk wr w.heap.size 125 (u32s (st.take f ++ (wds zs k ++ st.drop (f + k))))) := hb
      have X4 : Hid (Blk wr (w.heap.size + 1) 125 (u32s (List.replicate 16 0))) := HB.out.2.1.kept hkp (by omega)
      have X5 : Hid (Below w.heap.size w wr) := below_kept HB.out.2.2 hkp (by omega) (fun j hj => by omega)
      have hlen : (u32s (st.take f ++ (wds zs k ++ st.drop (f + k)))).length = 16 := by rw [u32s_length]; simp [wds_length]; omega
      have X6 : Hid ((u32s (st.take f ++ (wds zs k ++ st.drop (f + k)))).length = 16) := hlen
      have i1 : ¬ ((J : Int) < (L : Int)) := by omega
      clear hb hkp hlen hF hJ q1 q2
      go_wp2_with (first | (refine wpList_load_blk rfl 125 _ rfl _ rfl (u32s (st.take f ++ (wds zs k ++ st.drop (f + k)))) _ X3.out Try.underlying125 rfl (by rw [X6.out]; exact sizeSt) ?_) | (refine wpList_store_blk rfl 125 125 _ _ rfl _ rfl _ (u32s (st.take f ++ (wds zs k ++ st.drop (f + k)))) rfl X4.out (by rw [X6.out, u32s_length, List.length_replicate]) (by rw [X6.out]; exact sizeSt) (u32s_one _) ?_; intro w5 b5 s5 k5))
      exact ret_blk rfl (w.heap.size + 1) (u32s (st.take f ++ (wds zs k ++ st.drop (f + k)))) _ rfl b5 Try.underlying125 rfl (by rw [X6.out]; exact sizeSt) rfl ⟨rfl, below_kept X5.out k5 X5.out.size (fun j hj => by omega)⟩
end Go.Proofs.Ytcimiajkbgabiaa

namespace Go.Proofs.Ytcimiajkbgabiaa
open Go.RowKit
set_option linter.unusedVariables false
set_option linter.unusedSimpArgs false

/-- Bytes copied into a block that is known whole, out of a slice that is seen, nil or not. -/
theorem run_copy_seen (w : World) (ty : TypeId) (g off dLen dCap : Nat) (dp so : Option Addr) (n c : Nat) (src : List Int) (hx : Seen w so n src) (t : TypeId) (xs ys zs : List Value) (hb : Blk w g t (xs ++ (ys ++ zs))) (hoff : xs.length = off) (k : Nat) (hk : Nat.min n dLen = k) (hy : ys.length = k)
    (hdp : 0 < k → dp = some ⟨g, off, none⟩) : ∃ w', (Builtin.copy_ #[22, 22] ty #[.slice dp dLen dCap, .slice so n c]).run Try.prog w = .ok (goInt k) w' ∧ Blk w' g t (xs ++ (u8s (src.take k) ++ zs)) ∧ w'.heap.size = w.heap.size ∧ Kept (fun b => b = g) w w' := by
  have hkn : k ≤ n := by rw [← hk]; exact Nat.min_le_left _ _
  have hl : (u8s (src.take k)).length = k := by rw [u8s_length, List.length_take, hx.len]; omega
  rcases Nat.eq_zero_or_pos k with h0 | h0
  · subst h0
    obtain rfl : ys = [] := List.eq_nil_of_length_eq_zero hy
    exact ⟨w, run_copy_none w 22 22 ty 5 dp so dLen dCap n c Try.underlying22 sizeByte hk, by simpa [u8s] using hb, rfl, Kept.refl _ _⟩
  · obtain rfl := hdp h0
    obtain ⟨b, o, rfl, hlt, hcs⟩ := hx.cells (by omega)
    have hsrc : ∀ j v, (u8s (src.take k))[j]? = some v → w.cell? ((⟨b, o, none⟩ : Addr).add j) = some v := by
      intro j v hv
      have hj : j < k := by have := (List.getElem?_eq_some_iff.1 hv).1; omega
      have h2 : j < src.length := by rw [hx.len]; omega
      rw [add_mid, hcs j (by omega), ← hv]
      simp [u8s, List.getElem?_take, List.getD, h2, hj]
    have hrun := run_copy_row (P := Try.prog) w 22 22 ty 5 g off dLen dCap ⟨b, o, none⟩ n c (xs ++ (ys ++ zs)).toArray t (u8s (src.take k)) Try.underlying22 sizeByte hb (by rw [hl, hk]) hsrc (by simp; omega) (u8s_one _)
    have e : ((xs ++ (ys ++ zs)).toArray.toList.take off ++ u8s (src.take k) ++ (xs ++ (ys ++ zs)).toArray.toList.drop (off + (u8s (src.take k)).length)) = xs ++ (u8s (src.take k) ++ zs) := by
      subst hoff
      simp [hl, hy, List.drop_append, List.take_append]
    rw [e] at hrun
    refine ⟨_, by rw [hrun, hl], setRow_heap w g _ _ t _ hb, by simp [World.setRow], ⟨rfl, rfl, rfl, by simp [World.setRow], fun k _ hk => setRow_other w g k _ hk⟩⟩
theorem wpList_copy_seen {ops : Array Oper} {rest : List Oper} {o : Oper} {a : Act} {Q : Exit → Act → World → Prop} {w : World} (hgd : o.guard = none) (d s : Operand) (ho : o.op = .call { callee := .builtin .copy, args := #[d, s], argTypes := #[22, 22] })
    (g off dLen dCap : Nat) (dp so : Option Addr) (n c : Nat) (hd : a.eval d = .slice dp dLen dCap) (hs : a.eval s = .slice so n c) (src : List Int) (hx : Seen w so n src) (t : TypeId) (xs ys zs : List Value) (hb : Blk w g t (xs ++ (ys ++ zs))) (hoff : xs.length = off) (k : Nat) (hk : Nat.min n dLen = k) (hy : ys.length = k) (hdp : 0 < k → dp = some ⟨g, off, none⟩)
    (h : ∀ w', Blk w' g t (xs ++ (u8s (src.take k) ++ zs)) → w'.heap.size = w.heap.size → Kept (fun b => b = g) w w' → wpList Try.prog ops Q rest (a.put o.dst (goInt k)) w') : wpList Try.prog ops Q (o :: rest) a w := by
  refine wpList_plain hgd fun K hK => ?_
  obtain ⟨w', hrun, h1, h2, h3⟩ := run_copy_seen w o.type g off dLen dCap dp so n c src hx t xs ys zs hb hoff k hk hy hdp
  unfold Oper.wp
  simp [execOp, ho, resolve, invoke, builtin, hd, hs, hrun, Result.andThen]
  exact hK _ _ (h w' h1 h2 h3)
theorem step_copy_seen {ops : Array Oper} {o : Oper} {a : Act} {w : World} {K : Act → World → Prop} {Q : Exit → Act → World → Prop} {E : Prop} (hgd : o.guard = none) (d s : Operand) (ho : o.op = .call { callee := .builtin .copy, args := #[d, s], argTypes := #[22, 22] })
    (g off dLen dCap : Nat) (dp so : Option Addr) (n c : Nat) (hd : a.eval d = .slice dp dLen dCap) (hs : a.eval s = .slice so n c) (src : List Int) (hx : Seen w so n src) (t : TypeId) (xs ys zs : List Value) (hb : Blk w g t (xs ++ (ys ++ zs))) (hoff : xs.length = off) (k : Nat) (hk : Nat.min n dLen = k) (hy : ys.length = k) (hdp : 0 < k → dp = some ⟨g, off, none⟩)
    (dst : Option Tmp) (hdst : o.dst = dst) (h : ∀ w', Blk w' g t (xs ++ (u8s (src.take k) ++ zs)) → w'.heap.size = w.heap.size → Kept (fun b => b = g) w w' → K (a.put dst (goInt k)) w') :
    if Region.wanted o (yielded ops a.tmps) = true then Oper.wp Try.prog o a w K Q else E := by
  subst hdst
  have hw : Region.wanted o (yielded ops a.tmps) = true := by simp [Region.wanted, hgd]
  rw [if_pos hw]
  obtain ⟨w', hrun, h1, h2, h3⟩ := run_copy_seen w o.type g off dLen dCap dp so n c src hx t xs ys zs hb hoff k hk hy hdp
  unfold Oper.wp
  simp [execOp, ho, resolve, invoke, builtin, hd, hs, hrun, Result.andThen]
  exact h w' h1 h2 h3
theorem seen_blk {w : World} {g : Nat} {t : TypeId} {zs : List Int} (h : Blk w g t (u8s zs)) (hb : Bytes zs) (ht : zs.length ≤ 140737488355328) : Seen w (some ⟨g, 0, none⟩) zs.length zs :=
  ⟨rfl, ht, hb, fun _ => ⟨g, 0, rfl, h.lt, fun i hi => by rw [Nat.zero_add]; exact u8s_cell h i hi⟩⟩
end Go.Proofs.Ytcimiajkbgabiaa

namespace Go.Proofs.Ytcimiajkbgabiaa
open Go.RowKit
set_option linter.unusedVariables false
set_option linter.unusedSimpArgs false

theorem sizeKey : (Try.prog.info? 27).map (·.size) = some 32 := by kernel_rfl
theorem sizeNonce : (Try.prog.info? 42).map (·.size) = some 12 := by kernel_rfl
def beg0 : List Int := fixW ++ List.replicate 12 0
def beg1 (key : List Int) : List Int := beg0.take 4 ++ (wds key 8 ++ beg0.drop (4 + 8))
def beg2 (key : List Int) (ctr : Int) : List Int := (beg1 key).set 12 ctr
theorem beg1_length (key : List Int) : (beg1 key).length = 16 := by simp [beg1, beg0, fixW, wds_length]
theorem beg2_length (key : List Int) (ctr : Int) : (beg2 key ctr).length = 16 := by simp [beg2, beg1_length]
theorem list8 (l : List Int) (h : l.length = 8) : ∃ a b c d e f g h, l = [a, b, c, d, e, f, g, h] := by
  match l, h with
  | [a, b, c, d, e, f, g, h], _ => exact ⟨a, b, c, d, e, f, g, h, rfl⟩
theorem beg3_eq (key : List Int) (ctr : Int) (nonce : List Int) : (beg2 key ctr).take 13 ++ (wds nonce 3 ++ (beg2 key ctr).drop (13 + 3)) = begW key ctr nonce := by
  obtain ⟨a, b, c, d, e, f, g, h, hl⟩ := list8 (wds key 8) (wds_length _ _)
  simp [beg2, beg1, beg0, begW, fixW, hl]
theorem build0 (w : World) : (Instr.build 125 #[(0, .int .u32 1634760805), (1, .int .u32 857760878), (2, .int .u32 2036477234), (3, .int .u32 1797285236)]).run Try.prog w = .ok (.agg (u32s beg0).toArray) w := by kernel_rfl
set_option maxRecDepth 20000 in
set_option maxHeartbeats 1000000 in
theorem begin_any (key : List Int) (ctr : Int) (nonce : List Int) (hk : key.length = 32) (hn : nonce.length = 12) (hkb : Bytes key) (hnb : Bytes nonce) (w : World) :
    Calls Try.prog 74 #[.agg (u8s key).toArray, .int .u32 ctr, .agg (u8s nonce).toArray] w fun e w' => e = .returned (.agg (u32s (begW key ctr nonce)).toArray) ∧ Below w.heap.size w w' := by
  have HS : Hid (key.length = 32 ∧ nonce.length = 12 ∧ Bytes key ∧ Bytes nonce) := ⟨hk, hn, hkb, hnb⟩
  clear hk hn hkb hnb
  go_enter Try.func74, Try.ntmps74
  go_wp2_with (first | (refine wpList_box_new rfl 27 _ rfl (u8s key) rfl ?_; intro w1 b1 s1 l1) | (refine wpList_box_new rfl 42 _ rfl (u8s nonce) rfl ?_; intro w2 b2 s2 l2) | ((with_reducible show wpList _ _ _ _ _ w2); refine wpList_alloc_new rfl 125 rfl 16 _ zeroSt ?_; intro w3 b3 s3 l3) | (refine wpList_build rfl 125 _ rfl _ rfl _ (build0 _) ?_) | (refine wpList_alloc_new rfl 125 rfl 16 _ zeroSt ?_; intro w4 b4 s4 l4) | (refine wpList_store_blk rfl 125 125 _ _ rfl _ rfl _ (u32s beg0) rfl b4 (by rw [u32s_length, u32s_length]; rfl) (by rw [u32s_length]; exact sizeSt) (u32s_one _) ?_; intro w5 b5 s5 k5))
  simp only [Act.put, List.setIfInBounds_toArray, List.set_cons_zero, List.set_cons_succ]
  obtain ⟨G, hG⟩ : ∃ G, w3.heap.size = G := ⟨_, rfl⟩
  rw [hG] at b5 k5 ⊢
  have HB : Hid (Blk w5 G 125 (u32s beg0) ∧ Blk w5 w.heap.size 27 (u8s key) ∧ Blk w5 (w.heap.size + 1) 42 (u8s nonce) ∧ Blk w5 (w.heap.size + 2) 125 (u32s (List.replicate 16 0)) ∧ Below w.heap.size w w5) := by
    rw [s1] at b2
    rw [s2, s1] at b3
    exact ⟨b5, (((b1.later l2 (by omega)).later l3 (by omega)).later l4 (by omega)).kept k5 (by omega), ((b2.later l3 (by omega)).later l4 (by omega)).kept k5 (by omega), (b3.later l4 (by omega)).kept k5 (by omega), below_kept (below_chain (below_chain (below_chain l1 l2 (by omega)) l3 (by omega)) l4 (by omega)) k5 (by omega) (fun j hj => by omega)⟩
  have gG : G = w.heap.size + 3 := by omega
  have g5 : w5.heap.size = w.heap.size + 4 := by omega
  have HG : Hid (G = w.heap.size + 3 ∧ w5.heap.size = w.heap.size + 4) := ⟨gG, g5⟩
  clear b1 s1 l1 b2 s2 l2 b3 s3 l3 b4 s4 l4 b5 s5 k5 hG gG g5
  refine wp_region_noPanic (till_region 3 (fun W => W.rangeAt G 0 (u32s beg0)) (by kernel_rfl) ?_)
  change wpTill _ _ _ _ _ _ _ _ w5.drew
  have RG : Hid (w5.drew.rangeAt G 0 (u32s beg0)) := fun j v hv => by rw [Nat.zero_add, HB.out.1.drew.cell]; exact hv
  refine tLoadMid 0 (some 9) (u32s beg0) rfl rfl (by kernel_rfl) (by kernel_rfl) (by kernel_rfl) (by decide) (by kernel_rfl) (by kernel_rfl) (fun _ _ _ h => h) (by rfl) 125 (.tmp 7) rfl G 0 rfl _ (fun _ h => h) Try.underlying125 rfl (by rw [u32s_length, show beg0.length = 16 from rfl]; exact sizeSt) RG.out ?_
  simp only [Act.put, List.setIfInBounds_toArray, List.set_cons_zero, List.set_cons_succ]
  refine tTake 2 (some 11) (.slice (some ⟨w.heap.size, 0, none⟩) 32 32) rfl rfl (by kernel_rfl) (by kernel_rfl) (by kernel_rfl) (by decide) (fun _ _ _ h => h) (by rfl) (fun _ => by go_simp) RG.out ?_
  simp only [Act.put, List.setIfInBounds_toArray, List.set_cons_zero, List.set_cons_succ]
  refine till_ready 1 (by kernel_rfl) rfl (fun K hK => ?_)
  go_simp
  go_wp2_with (go_at_call 97; refine (cell_any 1 0 (by decide) (by decide) _).mono ?_; rintro e w' ⟨rfl, rfl⟩)
  refine ⟨RG.out, till_at (by kernel_rfl) ?_⟩
  refine wpAny_ready (rs := [3]) (by kernel_rfl) (by simp) (AllReady.cons rfl (fun K hK => ?_) AllReady.nil)
  go_simp
  have SK : Hid (Seen w5.drew (some ⟨w.heap.size, 0, none⟩) 32 key) := by
    have := seen_blk HB.out.2.1.drew HS.out.2.2.1 (by have := HS.out.1; omega)
    rwa [HS.out.1] at this
  go_wp2_with (go_at_call 96; refine (with_any beg0 rfl 4 8 32 (by decide) rfl _ 32 key _ SK.out (by decide)).mono ?_; rintro e w6 ⟨rfl, l6⟩)
  have l6' : Below w5.heap.size w5 w6 := ⟨l6.os, l6.tape, l6.output, l6.size, l6.block⟩
  obtain ⟨S1, hS1⟩ : ∃ x, beg0.take 4 ++ (wds key 8 ++ beg0.drop (4 + 8)) = x := ⟨_, rfl⟩
  rw [hS1]
  have E1 : Hid (S1 = beg1 key ∧ S1.length = 16) := by rw [← hS1]; exact ⟨rfl, beg1_length key⟩
  have HC : Hid (Blk w6 G 125 (u32s beg0) ∧ Blk w6 (w.heap.size + 1) 42 (u8s nonce) ∧ Blk w6 (w.heap.size + 2) 125 (u32s (List.replicate 16 0)) ∧ Below w.heap.size w w6 ∧ w.heap.size + 4 ≤ w6.heap.size) := by
    have := HG.out.1
    have := HG.out.2
    have := l6'.size
    exact ⟨HB.out.1.later l6' (by omega), HB.out.2.2.1.later l6' (by omega), HB.out.2.2.2.1.later l6' (by omega), below_chain HB.out.2.2.2.2 l6' (by omega), by omega⟩
  clear l6 l6' hS1 SK RG HB
  have HT : w6.there G 0 (u32s S1).length := HC.out.1.there (by rw [u32s_length, E1.out.2, u32s_length]; decide)
  have u4 : (Try.prog.info? 125).map (·.size) = some (u32s S1).length := by rw [u32s_length, E1.out.2]; exact sizeSt
  have HD : Hid (Blk (w6.setCells G 0 (u32s S1)) G 125 (u32s S1) ∧ Kept (fun k => k = G) w6 (w6.setCells G 0 (u32s S1))) := by
    refine ⟨?_, (Kept.refl (fun k => k = G) _).setCells (S := fun k => k = G) rfl _ _⟩
    have := Blk.setCells (xs := []) (zs := []) (u32s S1) (u32s beg0) (by rw [u32s_length, E1.out.2, u32s_length]; rfl) (by simpa using HC.out.1)
    simpa using this
  refine one_step 4 rfl (by kernel_rfl) (fun K h => step_store rfl (by rfl) 125 (.tmp 7) (.tmp 12) rfl G 0 rfl (u32s S1) rfl HT u4 (u32s_one _) h) ?_
  obtain ⟨w7, hw7⟩ : ∃ x, w6.setCells G 0 (u32s S1) = x := ⟨_, rfl⟩
  rw [hw7] at HD ⊢
  clear hw7 HT u4
  refine wpAny_done (by kernel_rfl) (NoPanic.normal ?_) _
  have c12 := u32s_cell HD.out.1 12 (by have := E1.out.2; omega)
  have f12 := HD.out.1.frozen 12
  go_wp2_with (go_at_call 97; refine (cell_any 3 0 (by decide) (by decide) _).mono ?_; rintro e w' ⟨rfl, rfl⟩)
  obtain ⟨S2, hS2⟩ : ∃ x, S1.set 12 ctr = x := ⟨_, rfl⟩
  have E2 : Hid (S2 = beg2 key ctr ∧ S2.length = 16) := by
    have h := beg2_length key ctr
    rw [← hS2, E1.out.1]; exact ⟨rfl, h⟩
  have HE : Hid (Blk (w7.setCell ⟨G, 12, none⟩ (.int .u32 ctr)) G 125 (u32s S2) ∧ Kept (fun k => k = G) w6 (w7.setCell ⟨G, 12, none⟩ (.int .u32 ctr))) := by
    refine ⟨?_, HD.out.2.setCell rfl _⟩
    rw [← hS2, ← u32s_set]; exact HD.out.1.set _ _
  obtain ⟨w8, hw8⟩ : ∃ x, w7.setCell ⟨G, 12, none⟩ (.int .u32 ctr) = x := ⟨_, rfl⟩
  rw [hw8] at HE ⊢
  have HF : Hid (Blk w8 G 125 (u32s S2) ∧ Blk w8 (w.heap.size + 1) 42 (u8s nonce) ∧ Blk w8 (w.heap.size + 2) 125 (u32s (List.replicate 16 0)) ∧ Below w.heap.size w w8 ∧ w.heap.size + 4 ≤ w8.heap.size) := by
    have := HG.out.1
    have := HE.out.2.size
    have := HC.out.2.2.2.2
    exact ⟨HE.out.1, HC.out.2.1.kept HE.out.2 (by omega), HC.out.2.2.1.kept HE.out.2 (by omega), below_kept HC.out.2.2.2.1 HE.out.2 (by omega) (fun j hj => by omega), by omega⟩
  clear hS2 hw8 HD HE HC c12 f12
  refine wp_region_noPanic (till_region 3 (fun W => W.rangeAt G 0 (u32s S2)) (by kernel_rfl) ?_)
  change wpTill _ _ _ _ _ _ _ _ w8.drew
  have RG : Hid (w8.drew.rangeAt G 0 (u32s S2)) := fun j v hv => by rw [Nat.zero_add, HF.out.1.drew.cell]; exact hv
  refine tLoadMid 0 (some 16) (u32s S2) rfl rfl (by kernel_rfl) (by kernel_rfl) (by kernel_rfl) (by decide) (by kernel_rfl) (by kernel_rfl) (fun _ _ _ h => h) (by rfl) 125 (.tmp 7) rfl G 0 rfl _ (fun _ h => h) Try.underlying125 rfl (by rw [u32s_length, E2.out.2]; exact sizeSt) RG.out ?_
  simp only [Act.put, List.setIfInBounds_toArray, List.set_cons_zero, List.set_cons_succ]
  refine tTake 2 (some 18) (.slice (some ⟨w.heap.size + 1, 0, none⟩) 12 12) rfl rfl (by kernel_rfl) (by kernel_rfl) (by kernel_rfl) (by decide) (fun _ _ _ h => h) (by rfl) (fun _ => by go_simp) RG.out ?_
  simp only [Act.put, List.setIfInBounds_toArray, List.set_cons_zero, List.set_cons_succ]
  refine till_ready 1 (by kernel_rfl) rfl (fun K hK => ?_)
  go_simp
  go_wp2_with (go_at_call 97; refine (cell_any 3 1 (by decide) (by decide) _).mono ?_; rintro e w' ⟨rfl, rfl⟩)
  refine ⟨RG.out, till_at (by kernel_rfl) ?_⟩
  refine wpAny_ready (rs := [3]) (by kernel_rfl) (by simp) (AllReady.cons rfl (fun K hK => ?_) AllReady.nil)
  go_simp
  have SK : Hid (Seen w8.drew (some ⟨w.heap.size + 1, 0, none⟩) 12 nonce) := by
    have := seen_blk HF.out.2.1.drew HS.out.2.2.2 (by have := HS.out.2.1; omega)
    rwa [HS.out.2.1] at this
  go_wp2_with (go_at_call 96; refine (with_any S2 E2.out.2 13 3 12 (by decide) rfl _ 12 nonce _ SK.out (by decide)).mono ?_; rintro e w9 ⟨rfl, l9⟩)
  have l9' : Below w8.heap.size w8 w9 := ⟨l9.os, l9.tape, l9.output, l9.size, l9.block⟩
  rw [E2.out.1, beg3_eq]
  have HC : Hid (Blk w9 (w.heap.size + 1 + 1) 125 (u32s (List.replicate 16 0)) ∧ Below w.heap.size w w9 ∧ w.heap.size + 4 ≤ w9.heap.size) := by
    have := l9'.size
    have := HF.out.2.2.2.2
    exact ⟨HF.out.2.2.1.later l9' (by omega), below_chain HF.out.2.2.2.1 l9' (by omega), by omega⟩
  clear l9 l9' SK RG HF
  obtain ⟨S3, hS3⟩ : ∃ x, begW key ctr nonce = x := ⟨_, rfl⟩
  have E3 : Hid (S3.length = 16) := by rw [← hS3]; exact begW_length _ _ _
  rw [hS3]
  have HT : w9.there (w.heap.size + 1 + 1) 0 (u32s S3).length := HC.out.1.there (by rw [u32s_length, E3.out, u32s_length]; decide)
  have u4 : (Try.prog.info? 125).map (·.size) = some (u32s S3).length := by rw [u32s_length, E3.out]; exact sizeSt
  have HD : Hid (Blk (w9.setCells (w.heap.size + 1 + 1) 0 (u32s S3)) (w.heap.size + 1 + 1) 125 (u32s S3) ∧ Kept (fun k => k = w.heap.size + 1 + 1) w9 (w9.setCells (w.heap.size + 1 + 1) 0 (u32s S3))) := by
    refine ⟨?_, (Kept.refl (fun k => k = w.heap.size + 1 + 1) _).setCells (S := fun k => k = w.heap.size + 1 + 1) rfl _ _⟩
    have := Blk.setCells (xs := []) (zs := []) (u32s S3) (u32s (List.replicate 16 0)) (by rw [u32s_length, E3.out, u32s_length]; rfl) (by simpa using HC.out.1)
    simpa using this
  refine one_step 4 rfl (by kernel_rfl) (fun K h => step_store rfl (by rfl) 125 (.tmp 6) (.tmp 19) rfl (w.heap.size + 1 + 1) 0 rfl (u32s S3) rfl HT u4 (u32s_one _) h) ?_
  obtain ⟨wa, hwa⟩ : ∃ x, w9.setCells (w.heap.size + 1 + 1) 0 (u32s S3) = x := ⟨_, rfl⟩
  rw [hwa] at HD ⊢
  have HZ : Hid (begW key ctr nonce = S3) := hS3
  clear hwa HT u4 hS3
  refine wpAny_done (by kernel_rfl) (NoPanic.normal ?_) _
  go_wp2_with fail
  exact ret_blk rfl (w.heap.size + 1 + 1) (u32s S3) _ rfl HD.out.1 Try.underlying125 rfl (by rw [u32s_length, E3.out]; exact sizeSt) rfl ⟨by rw [HZ.out], below_kept HC.out.2.1 HD.out.2 (by have := HC.out.2.2; omega) (fun j hj => by omega)⟩
end Go.Proofs.Ytcimiajkbgabiaa

namespace Go.Proofs.Ytcimiajkbgabiaa
open Go.RowKit
set_option linter.unusedVariables false
set_option linter.unusedSimpArgs false

/-- What is expected of an operation: a value; a new block that holds values; or whatever stays true as memory grows. -/
inductive Exp where
  | val (v : Value)
  | blk (t : TypeId) (vs : List Value)
  | any (p : Value → World → Prop) (hp : ∀ v w w', Below w.heap.size w w' → p v w → p v w')
def Exp.ok (base : Nat) : Exp → Value → World → Prop
  | .val u, v, _ => v = u
  | .blk t vs, v, w => ∃ g, v = .pointer (some ⟨g, 0, none⟩) ∧ base ≤ g ∧ Blk w g t vs
  | .any p _, v, w => p v w
theorem Exp.ok_later {base : Nat} : ∀ (E : Exp) {v : Value} {w w' : World}, Below w.heap.size w w' → E.ok base v w → E.ok base v w'
  | .val _, _, _, _, _, h => h
  | .blk _ _, _, _, _, hb, ⟨g, h1, h2, h3⟩ => ⟨g, h1, h2, h3.later hb h3.lt⟩
  | .any _ hp, _, _, _, hb, h => hp _ _ _ hb h
/-- An operation with these operands does what is expected of it. -/
def Does (base : Nat) (E : Exp) (ρ : Operand → Value) (o : Oper) (w : World) : Prop :=
  match (execOp ρ o).run Try.prog w with
  | .ok (.value v) w' => E.ok base v w' ∧ Below w.heap.size w w'
  | .ok (.enter f args) w' => Calls Try.prog f args w' fun e w'' => ∃ v, e = .returned v ∧ E.ok base v w'' ∧ Below w.heap.size w w''
  | _ => False
theorem Does.wp {base : Nat} {E : Exp} {a : Act} {o : Oper} {w : World} (h : Does base E a.eval o w) {K : Act → World → Prop} {Q : Exit → Act → World → Prop} (hK : ∀ v w', E.ok base v w' → Below w.heap.size w w' → K (a.put o.dst v) w') : o.wp Try.prog a w K Q := by
  unfold Does at h
  unfold Oper.wp
  generalize (execOp a.eval o).run Try.prog w = r at h ⊢
  match r, h with
  | .ok (.value v) w', h => exact hK _ _ h.1 h.2
  | .ok (.enter f args) w', h =>
    rw [Oper.upon_enter]
    refine h.mono ?_
    rintro e w'' ⟨v, rfl, h1, h2⟩
    exact hK _ _ h1 h2
theorem Does.value {base : Nat} {E : Exp} {ρ : Operand → Value} {o : Oper} {w : World} (v : Value) (h : (execOp ρ o).run Try.prog w = .ok (.value v) w) (hE : E.ok base v w) : Does base E ρ o w := by
  unfold Does; rw [h]; exact ⟨hE, Below.refl _ _⟩
theorem Does.call {base : Nat} {E : Exp} {ρ : Operand → Value} {o : Oper} {w : World} (f : FuncId) (args : Array Value) (h : (execOp ρ o).run Try.prog w = .ok (.enter f args) w) (hC : Calls Try.prog f args w fun e w'' => ∃ v, e = .returned v ∧ E.ok base v w'' ∧ Below w.heap.size w w'') : Does base E ρ o w := by
  unfold Does; rw [h]; exact hC
theorem Does.alloc {base : Nat} {ρ : Operand → Value} {o : Oper} {w : World} (t : TypeId) (ho : o.op = .alloc t) (n : Nat) (vs : List Value) (hz : (Try.prog.info? t).map (fun i => (i.zero, i.size)) = some (some (.agg vs.toArray), n)) (hb : base ≤ w.heap.size) : Does base (.blk t vs) ρ o w := by
  unfold Does execOp
  simp only [ho, Sem.run_bind, Instr.alloc, (zero_of_info hz).1, newVar, newRow, run_newObj_alloc, Sem.run_pure, Result.andThen_ok]
  exact ⟨⟨_, rfl, hb, heap_alloc_new w _⟩, (Below.refl _ _).alloc (Nat.le_refl _) _⟩
theorem Does.box {base : Nat} {ρ : Operand → Value} {o : Oper} {w : World} (t : TypeId) (x : Operand) (ho : o.op = .box t x) (vs : List Value) (hx : ρ x = .agg vs.toArray) (hb : base ≤ w.heap.size) : Does base (.blk t vs) ρ o w := by
  unfold Does execOp
  simp only [ho, hx, Sem.run_bind, Instr.box, Value.cells, newVar, newRow, run_newObj_alloc, Sem.run_pure, Result.andThen_ok]
  exact ⟨⟨_, rfl, hb, heap_alloc_new w _⟩, (Below.refl _ _).alloc (Nat.le_refl _) _⟩
/-- Many cells read. -/
theorem Does.load {base : Nat} {ρ : Operand → Value} {o : Oper} {w : World} (t : TypeId) (x : Operand) (ho : o.op = .load t x) (b off : Nat) (hx : ρ x = .pointer (some ⟨b, off, none⟩)) (cs : List Value) (d : TypeDesc) (hc : w.rangeAt b off cs) (hu : Try.prog.underlying t = some d) (hd : d.isRow = true) (hi : (Try.prog.info? t).map (·.size) = some cs.length) :
    Does base (.val (.agg cs.toArray)) ρ o w := by
  refine Does.value _ ?_ rfl
  unfold execOp
  simp only [ho, hx, Instr.loadAt, Instr.sureAddr, Sem.run_bind, Sem.run_pure, Result.andThen_ok, run_loadVar_mid w b off t cs d hc hu hd hi]
/-- One cell read. -/
theorem Does.cell {base : Nat} {ρ : Operand → Value} {o : Oper} {w : World} (t : TypeId) (x : Operand) (ho : o.op = .load t x) (p : Addr) (hx : ρ x = .pointer (some p)) (v : Value) (hv : w.cell? p = some v) (hu : ∀ w', w'.cell? p = some v → (Instr.loadAt t (.pointer (some p))).run Try.prog w' = .ok v w') : Does base (.val v) ρ o w := by
  refine Does.value _ ?_ rfl
  unfold execOp
  simp only [ho, hx, Sem.run_bind, hu w hv, Sem.run_pure, Result.andThen_ok]

theorem Does.build {base : Nat} {ρ : Operand → Value} {o : Oper} {w : World} (t : TypeId) (parts : Array (Nat × Operand)) (ho : o.op = .build t parts) (ps : Array (Nat × Value)) (hp : (parts.map fun (i, x) => (i, ρ x)) = ps) (v : Value) (hrun : (Instr.build t ps).run Try.prog w = .ok v w) : Does base (.val v) ρ o w := by
  refine Does.value _ ?_ rfl
  unfold execOp
  simp only [ho, hp, Sem.run_bind, hrun, Sem.run_pure, Result.andThen_ok]
/-- The slot of operation k, what is expected of it, for those operations for which operation j waits. -/
def Deps (base : Nat) (ops : Array Oper) (E : List Exp) (j : Nat) (a : Act) (w : World) : Prop :=
  ∀ k t, ((ops[k]?).bind (·.dst)) = some t → ((ops[j]?).map (fun o => o.after.any fun e => Region.binds .any e && e.on == k)).getD false = true → k + 1 < ops.size → (E.getD k (.val undef)).ok base (a.tmps.getD t undef) w
/-- Each operation but the last. -/
def Steps' (base : Nat) (ops : Array Oper) (E : List Exp) (a0 : Act) (w0 : World) : Nat → List Oper → Prop
  | _, [] => True
  | _, [_] => True
  | j, o :: rest => (∀ a w, Below w0.heap.size w0 w → (∀ t, ((List.range (ops.size - 1)).all fun k => ((ops[k]?).bind (·.dst)) != some t) = true → a.tmps.getD t undef = a0.tmps.getD t undef) → Deps base ops E j a w → Does base (E.getD j (.val undef)) a.eval o w) ∧ Steps' base ops E a0 w0 (j + 1) rest
theorem Steps'.one (base : Nat) (ops : Array Oper) (E : List Exp) (a0 : Act) (w0 : World) (j : Nat) (o : Oper) : Steps' base ops E a0 w0 j [o] := trivial
theorem Steps'.cons {base : Nat} {ops : Array Oper} {E : List Exp} {a0 : Act} {w0 : World} {j : Nat} {o o' : Oper} {rest : List Oper}
    (h : ∀ a w, Below w0.heap.size w0 w → (∀ t, ((List.range (ops.size - 1)).all fun k => ((ops[k]?).bind (·.dst)) != some t) = true → a.tmps.getD t undef = a0.tmps.getD t undef) → Deps base ops E j a w → Does base (E.getD j (.val undef)) a.eval o w)
    (hr : Steps' base ops E a0 w0 (j + 1) (o' :: rest)) : Steps' base ops E a0 w0 j (o :: o' :: rest) := ⟨h, hr⟩
theorem Steps'.at {base : Nat} {ops : Array Oper} {E : List Exp} {a0 : Act} {w0 : World} : ∀ {l : List Oper} {j : Nat}, Steps' base ops E a0 w0 j l → ∀ i o, l[i]? = some o → i + 1 < l.length →
    ∀ a w, Below w0.heap.size w0 w → (∀ t, ((List.range (ops.size - 1)).all fun k => ((ops[k]?).bind (·.dst)) != some t) = true → a.tmps.getD t undef = a0.tmps.getD t undef) → Deps base ops E (j + i) a w → Does base (E.getD (j + i) (.val undef)) a.eval o w
  | [], _, _, i, o, hi, _ => by cases hi
  | [_], _, _, i, o, _, hl => by simp at hl
  | x :: y :: rest, j, h, 0, o, hi, _ => by
    simp at hi; subst hi; exact h.1
  | x :: y :: rest, j, h, i + 1, o, hi, hl => by
    have := Steps'.at h.2 i o (by simpa using hi) (by simpa using hl)
    rwa [show j + 1 + i = j + (i + 1) by omega] at this
/-- Behind all but the last operation. -/
def Ends (base : Nat) (E : List Exp) (Q : Exit → Act → World → Prop) (w : World) : Nat → List Oper → Act → Prop
  | _, [], _ => False
  | _, [o], a => o.wp Try.prog a w (fun a' w' => Q .normal a' w') (NoPanic Q)
  | j, o :: rest, a => ∀ v, (E.getD j (.val undef)).ok base v w → Ends base E Q w (j + 1) rest (a.put o.dst v)
theorem Ends.cons {base : Nat} {E : List Exp} {Q : Exit → Act → World → Prop} {w : World} {j : Nat} {o o' : Oper} {rest : List Oper} {a : Act}
    (h : ∀ v, (E.getD j (.val undef)).ok base v w → Ends base E Q w (j + 1) (o' :: rest) (a.put o.dst v)) : Ends base E Q w j (o :: o' :: rest) a := h
theorem Ends.one {base : Nat} {E : List Exp} {Q : Exit → Act → World → Prop} {w : World} {j : Nat} {o : Oper} {a : Act} (h : o.wp Try.prog a w (fun a' w' => Q .normal a' w') (NoPanic Q)) : Ends base E Q w j [o] a := h
theorem Ends.val {base : Nat} {E : List Exp} {Q : Exit → Act → World → Prop} {w : World} {j : Nat} {o o' : Oper} {rest : List Oper} {a : Act} (V : Value) (hE : E.getD j (.val undef) = .val V)
    (h : Ends base E Q w (j + 1) (o' :: rest) (a.put o.dst V)) : Ends base E Q w j (o :: o' :: rest) a := Ends.cons fun v hv => by
  rw [hE] at hv
  have : v = V := hv
  rw [this]; exact h
theorem Ends.blk {base : Nat} {E : List Exp} {Q : Exit → Act → World → Prop} {w : World} {j : Nat} {o o' : Oper} {rest : List Oper} {a : Act} (t : TypeId) (vs : List Value) (hE : E.getD j (.val undef) = .blk t vs)
    (h : ∀ g, base ≤ g → Blk w g t vs → Ends base E Q w (j + 1) (o' :: rest) (a.put o.dst (.pointer (some ⟨g, 0, none⟩)))) : Ends base E Q w j (o :: o' :: rest) a := Ends.cons fun v hv => by
  rw [hE] at hv
  obtain ⟨g, rfl, h1, h2⟩ := hv
  exact h g h1 h2
theorem Ends.any {base : Nat} {E : List Exp} {Q : Exit → Act → World → Prop} {w : World} {j : Nat} {o o' : Oper} {rest : List Oper} {a : Act} (p : Value → World → Prop) (hp : ∀ v w w', Below w.heap.size w w' → p v w → p v w') (hE : E.getD j (.val undef) = .any p hp)
    (h : ∀ v, p v w → Ends base E Q w (j + 1) (o' :: rest) (a.put o.dst v)) : Ends base E Q w j (o :: o' :: rest) a := Ends.cons fun v hv => by
  rw [hE] at hv
  exact h v hv
/-- The frame behind operations j .., with what the slots of b hold. -/
def fills (b : Act) : List Oper → Act → Act
  | [], a => a
  | [_], a => a
  | o :: rest, a => fills b rest (a.put o.dst ((o.dst.map (b.tmps.getD · undef)).getD undef))
theorem Ends.at {base : Nat} {E : List Exp} {Q : Exit → Act → World → Prop} {w : World} (b : Act) : ∀ {l : List Oper} {j : Nat} {a : Act}, l ≠ [] → Ends base E Q w j l a →
    (∀ i o, l[i]? = some o → i + 1 < l.length → ∃ t, o.dst = some t ∧ (E.getD (j + i) (.val undef)).ok base (b.tmps.getD t undef) w) →
    ∃ o, l.getLast? = some o ∧ o.wp Try.prog (fills b l a) w (fun a' w' => Q .normal a' w') (NoPanic Q)
  | [], _, _, h, _, _ => absurd rfl h
  | [o], _, _, _, h, _ => ⟨o, rfl, h⟩
  | x :: y :: rest, j, a, _, h, hv => by
    obtain ⟨t, h1, h2⟩ := hv 0 x rfl (by simp)
    have := Ends.at b (l := y :: rest) (j := j + 1) (by simp) (h _ h2) (fun i o hi hl => by
      have := hv (i + 1) o (by simpa using hi) (by simpa using hl)
      rwa [show j + (i + 1) = j + 1 + i by omega] at this)
    obtain ⟨o, ho, hw⟩ := this
    refine ⟨o, by simpa using ho, ?_⟩
    simpa [fills, h1] using hw
theorem fills_size (b : Act) : ∀ (l : List Oper) (a : Act), (fills b l a).tmps.size = a.tmps.size ∧ (fills b l a).defers = a.defers
  | [], a => ⟨rfl, rfl⟩
  | [_], a => ⟨rfl, rfl⟩
  | o :: y :: rest, a => by
    rw [fills]
    · have := fills_size b (y :: rest) (a.put o.dst ((o.dst.map (b.tmps.getD · undef)).getD undef))
      rw [this.1, this.2]
      cases o.dst <;> simp [Act.put]
    · simp
theorem fills_slot (b : Act) (t : Nat) : ∀ (l : List Oper) (a : Act), b.tmps.size = a.tmps.size → (b.tmps.getD t undef = a.tmps.getD t undef ∨ ∃ i o, l[i]? = some o ∧ i + 1 < l.length ∧ o.dst = some t) → (fills b l a).tmps.getD t undef = b.tmps.getD t undef
  | [], a, _, h => by
    rcases h with h | ⟨i, o, h, _⟩
    · exact h.symm
    · cases h
  | [_], a, _, h => by
    rcases h with h | ⟨i, o, h, h2, _⟩
    · exact h.symm
    · simp at h2
  | x :: y :: rest, a, hs, h => by
    rw [fills]
    · refine fills_slot b t (y :: rest) _ ?_ ?_
      · cases x.dst <;> simp [Act.put, hs]
      · by_cases hx : x.dst = some t
        · left
          rw [hx]
          simp only [Act.put, Option.map_some, Option.getD_some]
          simp only [Array.getD_eq_getD_getElem?, Array.getElem?_setIfInBounds]
          by_cases hlt : t < a.tmps.size
          · simp [hlt]
          · simp [hlt, hs]
        · rcases h with h | ⟨i, o, h1, h2, h3⟩
          · left
            rw [h]
            cases hd : x.dst with
            | none => simp [Act.put]
            | some d =>
              have : d ≠ t := fun e => hx (by rw [hd, e])
              simp only [Act.put, Array.getD_eq_getD_getElem?, Array.getElem?_setIfInBounds]
              simp [this]
          · cases i with
            | zero => simp at h1; subst h1; exact absurd h3 hx
            | succ i => right; exact ⟨i, o, by simpa using h1, by simpa using h2, h3⟩
    · simp
theorem act_ext {a b : Act} (hs : a.tmps.size = b.tmps.size) (ht : ∀ t, a.tmps.getD t undef = b.tmps.getD t undef) (hd : a.defers = b.defers) : a = b := by
  cases a; cases b
  simp only [Act.mk.injEq] at *
  refine ⟨Array.ext hs fun i h1 h2 => ?_, hd⟩
  have := ht i
  simpa [Array.getD, h1, h2] using this
/-- All operations but the last have slots of their own and no guard, each waits for earlier ones alone, and the last one waits for all. -/
def plainOps (ops : Array Oper) : Bool :=
  (List.range (ops.size - 1)).all (fun j => ((ops[j]?).map (fun o => o.guard.isNone && o.dst.isSome)).getD false) &&
  (List.range (ops.size - 1)).all (fun j => (List.range (ops.size - 1)).all fun k => j == k || ((ops[j]?).bind (·.dst)) != ((ops[k]?).bind (·.dst))) &&
  ((ops[ops.size - 1]?).map (fun o => o.guard.isNone && (List.range (ops.size - 1)).all (fun k => o.after.any fun e => Region.binds .any e && e.on == k))).getD false &&
  (List.range ops.size).all (fun j => ((ops[j]?).map (fun o => o.after.all fun e => !Region.binds .any e || decide (e.on < j))).getD false)
theorem range_all {n : Nat} {p : Nat → Bool} (h : (List.range n).all p = true) (j : Nat) (hj : j < n) : p j = true := List.all_eq_true.1 h j (List.mem_range.2 hj)
theorem wanted_plain {o : Oper} (h : o.guard.isNone = true) (f : Nat → Option Bool) : Region.wanted o f = true := by
  have : o.guard = none := Option.isNone_iff_eq_none.1 h
  simp [Region.wanted, this]
theorem least_false (f : Nat → Bool) : ∀ (n : Nat), f n = false → ∃ i, i ≤ n ∧ f i = false ∧ ∀ k, k < i → f k = true
  | 0, h => ⟨0, Nat.le_refl _, h, fun k hk => by omega⟩
  | n + 1, h => by
    by_cases h' : ∃ k, k ≤ n ∧ f k = false
    · obtain ⟨k, hk, hf⟩ := h'
      obtain ⟨i, h1, h2, h3⟩ := least_false f k hf
      exact ⟨i, by omega, h2, h3⟩
    · refine ⟨n + 1, Nat.le_refl _, h, fun k hk => ?_⟩
      cases hf : f k with
      | true => rfl
      | false => exact absurd ⟨k, by omega, hf⟩ h'
theorem region_inv {id : Nat} {ops : Array Oper} {Q : Exit → Act → World → Prop} {a0 : Act} {w0 : World} (E : List Exp) (hm : Try.prog.follows .mixedOrders = true) (hp : plainOps ops = true)
    (hin : (List.range (ops.size - 1)).all (fun j => ((ops[j]?).map (fun o => (o.dst.map (fun t => decide (t < a0.tmps.size))).getD false)).getD false) = true)
    (hs : Steps' w0.heap.size ops E a0 w0 0 ops.toList) (he : ∀ w, Below w0.heap.size w0 w → Ends w0.heap.size E Q w 0 ops.toList a0) : (Code.region id ops true).wp Try.prog Q a0 w0 := by
  simp only [plainOps, Bool.and_eq_true] at hp
  obtain ⟨⟨⟨hp1, hp2⟩, hp3⟩, hp4⟩ := hp
  have hne : ops.size - 1 < ops.size := by
    rcases Nat.eq_zero_or_pos ops.size with h | h
    · rw [Array.getElem?_eq_none (by omega)] at hp3; simp at hp3
    · omega
  have own : ∀ j o, ops[j]? = some o → j + 1 < ops.size → o.guard.isNone = true ∧ ∃ t, o.dst = some t ∧ t < a0.tmps.size := by
    intro j o ho hj
    have h1 := range_all hp1 j (by omega)
    have h2 := range_all hin j (by omega)
    simp only [ho, Option.map_some, Option.getD_some, Bool.and_eq_true] at h1 h2
    obtain ⟨t, ht⟩ := Option.isSome_iff_exists.1 h1.2
    rw [ht] at h2
    exact ⟨h1.1, t, ht, by simpa using h2⟩
  have apart : ∀ j k o o' t, ops[j]? = some o → ops[k]? = some o' → j + 1 < ops.size → k + 1 < ops.size → o.dst = some t → o'.dst = some t → j = k := by
    intro j k o o' t ho ho' hj hk ht ht'
    have h1 := range_all (range_all hp2 j (by omega)) k (by omega)
    simp only [ho, ho', Option.bind_some, ht, ht', Bool.or_eq_true, beq_iff_eq] at h1
    rcases h1 with h1 | h1
    · exact h1
    · simp at h1
  refine wp_region_noPanic (wp_region_any hm ?_)
  have main : ∀ (n : Nat) (l : Array Bool) (a : Act) (w : World), l.size = ops.size → Below w0.heap.size w0 w → a.tmps.size = a0.tmps.size → a.defers = a0.defers →
      l.getD (ops.size - 1) true = false →
      (∀ t, (∀ j o, ops[j]? = some o → j + 1 < ops.size → o.dst = some t → l.getD j true = false) → a.tmps.getD t undef = a0.tmps.getD t undef) →
      (∀ j o t, ops[j]? = some o → j + 1 < ops.size → o.dst = some t → l.getD j true = true → (E.getD j (.val undef)).ok w0.heap.size (a.tmps.getD t undef) w) →
      ((List.range ops.size).filter fun i => !l.getD i true).length ≤ n →
      wpAny Try.prog .any ops (NoPanic Q) n l a w := by
    intro n
    induction n with
    | zero =>
      intro l a w hl hb hsz hdf hlast hold hnew hc
      have : ops.size - 1 ∈ (List.range ops.size).filter fun i => !l.getD i true := List.mem_filter.2 ⟨List.mem_range.2 hne, by rw [hlast]; rfl⟩
      have := List.length_pos_of_mem this
      omega
    | succ n ih =>
      intro l a w hl hb hsz hdf hlast hold hnew hc
      have hcount : ∀ i, i < ops.size → l.getD i true = false → ((List.range ops.size).filter fun k => !(l.setIfInBounds i true).getD k true).length ≤ n := by
        intro i hi hli
        have hlt : ((List.range ops.size).filter fun k => !(l.setIfInBounds i true).getD k true).length < ((List.range ops.size).filter fun k => !l.getD k true).length := by
          have e : ((List.range ops.size).filter fun k => !(l.setIfInBounds i true).getD k true) = ((List.range ops.size).filter fun k => !l.getD k true).filter (fun k => k != i) := by
            rw [List.filter_filter]
            refine List.filter_congr fun k hk => ?_
            by_cases hki : k = i
            · subst hki; simp [Array.getD, hl, hi]
            · rw [getD_set_ne true (Ne.symm hki)]; simp [hki]
          rw [e]
          refine List.length_filter_lt_length_iff_exists.2 ⟨i, List.mem_filter.2 ⟨List.mem_range.2 hi, by rw [hli]; rfl⟩, by simp⟩
        omega
      refine ⟨fun h0 => ?_, fun i hi => ?_⟩
      · exfalso
        obtain ⟨i, h1, h2, h3⟩ := least_false (fun k => l.getD k true) (ops.size - 1) hlast
        have hi : i < ops.size := by omega
        have : i ∈ Region.ready .any ops l := by
          refine mem_ready.2 ⟨h2, ops[i], by simp [hi], fun e he hbd => ?_⟩
          have h4 := range_all hp4 i hi
          simp only [Array.getElem?_eq_getElem hi, Option.map_some, Option.getD_some] at h4
          have h5 := Array.all_eq_true_iff_forall_mem.1 h4 e he
          simp only [hbd, Bool.not_true, Bool.false_or, decide_eq_true_eq] at h5
          have h6 := h3 e.on h5
          simp only [Array.getD] at h6 ⊢
          rw [dif_pos (by omega)] at h6 ⊢
          exact h6
        rw [h0] at this
        cases this
      · obtain ⟨hun, o, ho, hall⟩ := mem_ready.1 hi
        have hilt : i < ops.size := (Array.getElem?_eq_some_iff.1 ho).1
        by_cases hil : i + 1 < ops.size
        · obtain ⟨hgd, t, hdt, htl⟩ := own i o ho hil
          have hdo := Steps'.at hs i o (by simpa using ho) (by simpa using hil) a w hb (fun t' ht' => hold t' fun j oj hoj hj hdj => by
              have := range_all ht' j (by omega)
              simp only [hoj, Option.bind_some, hdj] at this
              simp at this) (fun k t' hk hdep hkl => by
              obtain ⟨ok, hok⟩ : ∃ ok, ops[k]? = some ok := ⟨ops[k]'(by omega), by simp⟩
              rw [hok] at hk
              refine hnew k ok t' hok hkl hk ?_
              rw [Nat.zero_add, ho] at hdep
              simp only [Option.map_some, Option.getD_some, Array.any_eq_true, Bool.and_eq_true, beq_iff_eq] at hdep
              obtain ⟨x, hx, hbd, hon⟩ := hdep
              have := hall _ (Array.getElem_mem hx) hbd
              rw [hon] at this
              simp only [Array.getD] at this ⊢
              rw [dif_pos (by omega)] at this ⊢
              exact this)
          rw [Nat.zero_add] at hdo
          unfold wpOp
          rw [ho]
          simp only [wanted_plain hgd, if_true]
          refine .inl (hdo.wp fun v w' hv hbw => ?_)
          rw [hdt]
          refine ih _ _ _ (by simpa using hl) (below_chain hb hbw hb.size) (by simpa [Act.put] using hsz) (by simpa [Act.put] using hdf) ?_ ?_ ?_ (hcount i hilt hun)
          · rw [getD_set_ne true (by omega)]; exact hlast
          · intro t' ht'
            have htt : t ≠ t' := fun e => by
              have := ht' i o ho hil (by rw [hdt, e])
              simp [Array.getD, hl, hilt] at this
            simp only [Act.put, Array.getD_eq_getD_getElem?, Array.getElem?_setIfInBounds, if_neg htt]
            rw [← Array.getD_eq_getD_getElem?, ← Array.getD_eq_getD_getElem?]
            refine hold t' fun j oj hoj hj hdj => ?_
            have h1 := ht' j oj hoj hj hdj
            by_cases hji : i = j
            · subst hji; exact hun
            · rwa [getD_set_ne true hji] at h1
          · intro j oj t' hoj hj hdj hlj
            by_cases hji : i = j
            · subst hji
              rw [ho] at hoj
              cases hoj
              rw [hdt] at hdj
              cases hdj
              have : (a.put (some t) v).tmps.getD t undef = v := by simp [Act.put, Array.getD, hsz, htl]
              rw [this]; exact hv
            · rw [getD_set_ne true hji] at hlj
              have htt : t ≠ t' := fun e => hji (apart i j o oj t ho hoj hil hj hdt (by rw [hdj, e]))
              have h1 := hnew j oj t' hoj hj hdj hlj
              have : (a.put (some t) v).tmps.getD t' undef = a.tmps.getD t' undef := by
                simp only [Act.put, Array.getD_eq_getD_getElem?, Array.getElem?_setIfInBounds, if_neg htt]
              rw [this]
              exact Exp.ok_later _ hbw h1
        · obtain rfl : i = ops.size - 1 := by omega
          simp only [ho, Option.map_some, Option.getD_some, Bool.and_eq_true] at hp3
          have hlisted : ∀ k, k + 1 < ops.size → l.getD k true = true := by
            intro k hk
            have h1 := range_all hp3.2 k (by omega)
            simp only [Array.any_eq_true, Bool.and_eq_true, beq_iff_eq] at h1
            obtain ⟨x, hx, hbd, hon⟩ := h1
            have := hall _ (Array.getElem_mem hx) hbd
            rw [hon] at this
            simp only [Array.getD] at this ⊢
            rw [dif_pos (by omega)] at this ⊢
            exact this
          obtain ⟨o', ho', hw⟩ := Ends.at a (l := ops.toList) (j := 0) (a := a0) (fun h => by rw [Array.toList_eq_nil_iff] at h; subst h; simp at hne) (he w hb) (fun k ok hk hkl => by
            have hk' : ops[k]? = some ok := by simpa using hk
            have hkl' : k + 1 < ops.size := by simpa using hkl
            obtain ⟨_, t, hdt, htl⟩ := own k ok hk' hkl'
            refine ⟨t, hdt, ?_⟩
            rw [Nat.zero_add]
            exact hnew k ok t hk' hkl' hdt (hlisted k hkl'))
          have hoo : o' = o := by
            rw [List.getLast?_eq_getElem?] at ho'
            have h2 : ops[ops.size - 1]? = some o' := by simpa using ho'
            rw [ho] at h2
            exact (Option.some.inj h2).symm
          subst hoo
          have hfill : fills a ops.toList a0 = a := by
            have hz := fills_size a ops.toList a0
            refine act_ext (by rw [hz.1, hsz]) (fun t => ?_) (by rw [hz.2, hdf])
            refine fills_slot a t ops.toList a0 hsz ?_
            by_cases hx : ∃ k ok, ops[k]? = some ok ∧ k + 1 < ops.size ∧ ok.dst = some t
            · obtain ⟨k, ok, h1, h2, h3⟩ := hx
              exact .inr ⟨k, ok, by simpa using h1, by simpa using h2, h3⟩
            · exact .inl (hold t fun j oj hoj hj hdj => absurd ⟨j, oj, hoj, hj, hdj⟩ hx)
          rw [hfill] at hw
          unfold wpOp
          rw [ho]
          simp only [wanted_plain hp3.1, if_true]
          refine .inl (Oper.wp_mono (fun a' w' hq => wpAny_done ?_ (NoPanic.normal hq) _) hw)
          refine List.filter_eq_nil_iff.2 fun k hk => ?_
          have hk' : k < ops.size := List.mem_range.1 hk
          have : (l.setIfInBounds (ops.size - 1) true).getD k true = true := by
            by_cases hkl : k + 1 < ops.size
            · rw [getD_set_ne true (by omega)]; exact hlisted k hkl
            · obtain rfl : k = ops.size - 1 := by omega
              simp [Array.getD, hl, hne]
          rw [this]; simp
  refine main _ _ _ _ (by simp) ⟨rfl, rfl, rfl, Nat.le_refl _, fun _ _ => rfl⟩ rfl rfl (by simp [Array.getD, hne]) (fun t _ => rfl) (fun j o t ho hj hd hl => ?_) ?_
  · exfalso
    have : j < ops.size := by omega
    simp [Array.getD, this] at hl
  · have := List.length_filter_le (fun i => !(Array.replicate ops.size false).getD i true) (List.range ops.size)
    simpa using this
/-- The last operation of a region: a whole variable is written; a slot is. -/
theorem last_store {o : Oper} {a : Act} {w : World} {K : Act → World → Prop} {Q : Exit → Act → World → Prop} (ty : TypeId) (x y : Operand) (ho : o.op = .store ty x y) (hdst : o.dst = none) (b : Nat) (hx : a.eval x = .pointer (some ⟨b, 0, none⟩)) (t : TypeId) (vs cs : List Value) (hy : a.eval y = .agg cs.toArray) (hb : Blk w b t vs) (hl : cs.length = vs.length)
    (hi : (Try.prog.info? ty).map (·.size) = some cs.length) (h1 : ∀ v ∈ cs, v.oneCell' = true) (h : ∀ w', Blk w' b t cs → w'.heap.size = w.heap.size → Kept (fun k => k = b) w w' → K a w') : o.wp Try.prog a w K Q := by
  refine wp_store_mid ty x y ho b 0 cs.toArray hx hy (by have := hb.there (o := 0) (n := cs.toArray.size) (by simp; omega); simpa using this) (by simpa using hi) (all_oneCell_toArray h1) ?_
  rw [hdst]
  refine h _ ?_ (setCells_size ..) ((Kept.refl _ _).setCells (S := fun k => k = b) rfl _ _)
  have := Blk.setCells (xs := []) (zs := []) cs vs hl (by simpa using hb)
  simpa using this
theorem last_assign {o : Oper} {a : Act} {w : World} {K : Act → World → Prop} {Q : Exit → Act → World → Prop} (x : Operand) (ho : o.op = .assign x) (d : Option Tmp) (hdst : o.dst = d) (v : Value) (hx : a.eval x = v) (h : K (a.put d v) w) : o.wp Try.prog a w K Q := by
  subst hdst
  unfold Oper.wp execOp
  simp only [ho, hx, Sem.run_pure]
  exact h
end Go.Proofs.Ytcimiajkbgabiaa

namespace Go.Proofs.Ytcimiajkbgabiaa
open Go.RowKit
set_option linter.unusedVariables false
set_option linter.unusedSimpArgs false

/-- As plainOps; an operation may have a guard, for which it waits. -/
def guardOps (ops : Array Oper) : Bool :=
  (List.range (ops.size - 1)).all (fun j => ((ops[j]?).map (fun o => (match o.guard with | none => true | some (k, _) => decide (k + 1 < ops.size) && o.after.any (fun e => Region.binds .any e && e.on == k)) && o.dst.isSome)).getD false) &&
  (List.range (ops.size - 1)).all (fun j => (List.range (ops.size - 1)).all fun k => j == k || ((ops[j]?).bind (·.dst)) != ((ops[k]?).bind (·.dst))) &&
  ((ops[ops.size - 1]?).map (fun o => o.guard.isNone && (List.range (ops.size - 1)).all (fun k => o.after.any fun e => Region.binds .any e && e.on == k))).getD false &&
  (List.range ops.size).all (fun j => ((ops[j]?).map (fun o => o.after.all fun e => !Region.binds .any e || decide (e.on < j))).getD false)
/-- What each guard asks is expected. -/
def Gds (E : List Exp) : List Oper → Prop
  | [] => True
  | o :: r => (match o.guard with | none => True | some (k, b) => E.getD k (.val undef) = .val (.bool b)) ∧ Gds E r
theorem Gds.at {E : List Exp} : ∀ {l : List Oper}, Gds E l → ∀ (i : Nat) (o : Oper), l[i]? = some o → ∀ k b, o.guard = some (k, b) → E.getD k (.val undef) = .val (.bool b)
  | [], _, i, o, h, _, _, _ => by cases h
  | x :: r, h, 0, o, ho, k, b, hg => by
    simp at ho; subst ho
    have := h.1
    rw [hg] at this
    exact this
  | x :: r, h, i + 1, o, ho, k, b, hg => Gds.at h.2 i o (by simpa using ho) k b hg
theorem region_invG {id : Nat} {ops : Array Oper} {Q : Exit → Act → World → Prop} {a0 : Act} {w0 : World} (E : List Exp) (hm : Try.prog.follows .mixedOrders = true) (hp : guardOps ops = true) (hG : Gds E ops.toList)
    (hin : (List.range (ops.size - 1)).all (fun j => ((ops[j]?).map (fun o => (o.dst.map (fun t => decide (t < a0.tmps.size))).getD false)).getD false) = true)
    (hs : Steps' w0.heap.size ops E a0 w0 0 ops.toList) (he : ∀ w, Below w0.heap.size w0 w → Ends w0.heap.size E Q w 0 ops.toList a0) : (Code.region id ops true).wp Try.prog Q a0 w0 := by
  simp only [guardOps, Bool.and_eq_true] at hp
  obtain ⟨⟨⟨hp1, hp2⟩, hp3⟩, hp4⟩ := hp
  have hne : ops.size - 1 < ops.size := by
    rcases Nat.eq_zero_or_pos ops.size with h | h
    · rw [Array.getElem?_eq_none (by omega)] at hp3; simp at hp3
    · omega
  have own : ∀ j o, ops[j]? = some o → j + 1 < ops.size → (∀ k b, o.guard = some (k, b) → k + 1 < ops.size ∧ o.after.any (fun e => Region.binds .any e && e.on == k) = true) ∧ ∃ t, o.dst = some t ∧ t < a0.tmps.size := by
    intro j o ho hj
    have h1 := range_all hp1 j (by omega)
    have h2 := range_all hin j (by omega)
    simp only [ho, Option.map_some, Option.getD_some, Bool.and_eq_true] at h1 h2
    obtain ⟨t, ht⟩ := Option.isSome_iff_exists.1 h1.2
    rw [ht] at h2
    refine ⟨fun k b hg => ?_, t, ht, by simpa using h2⟩
    have h3 := h1.1
    rw [hg] at h3
    simpa using h3
  have apart : ∀ j k o o' t, ops[j]? = some o → ops[k]? = some o' → j + 1 < ops.size → k + 1 < ops.size → o.dst = some t → o'.dst = some t → j = k := by
    intro j k o o' t ho ho' hj hk ht ht'
    have h1 := range_all (range_all hp2 j (by omega)) k (by omega)
    simp only [ho, ho', Option.bind_some, ht, ht', Bool.or_eq_true, beq_iff_eq] at h1
    rcases h1 with h1 | h1
    · exact h1
    · simp at h1
  refine wp_region_noPanic (wp_region_any hm ?_)
  have main : ∀ (n : Nat) (l : Array Bool) (a : Act) (w : World), l.size = ops.size → Below w0.heap.size w0 w → a.tmps.size = a0.tmps.size → a.defers = a0.defers →
      l.getD (ops.size - 1) true = false →
      (∀ t, (∀ j o, ops[j]? = some o → j + 1 < ops.size → o.dst = some t → l.getD j true = false) → a.tmps.getD t undef = a0.tmps.getD t undef) →
      (∀ j o t, ops[j]? = some o → j + 1 < ops.size → o.dst = some t → l.getD j true = true → (E.getD j (.val undef)).ok w0.heap.size (a.tmps.getD t undef) w) →
      ((List.range ops.size).filter fun i => !l.getD i true).length ≤ n →
      wpAny Try.prog .any ops (NoPanic Q) n l a w := by
    intro n
    induction n with
    | zero =>
      intro l a w hl hb hsz hdf hlast hold hnew hc
      have : ops.size - 1 ∈ (List.range ops.size).filter fun i => !l.getD i true := List.mem_filter.2 ⟨List.mem_range.2 hne, by rw [hlast]; rfl⟩
      have := List.length_pos_of_mem this
      omega
    | succ n ih =>
      intro l a w hl hb hsz hdf hlast hold hnew hc
      have hcount : ∀ i, i < ops.size → l.getD i true = false → ((List.range ops.size).filter fun k => !(l.setIfInBounds i true).getD k true).length ≤ n := by
        intro i hi hli
        have hlt : ((List.range ops.size).filter fun k => !(l.setIfInBounds i true).getD k true).length < ((List.range ops.size).filter fun k => !l.getD k true).length := by
          have e : ((List.range ops.size).filter fun k => !(l.setIfInBounds i true).getD k true) = ((List.range ops.size).filter fun k => !l.getD k true).filter (fun k => k != i) := by
            rw [List.filter_filter]
            refine List.filter_congr fun k hk => ?_
            by_cases hki : k = i
            · subst hki; simp [Array.getD, hl, hi]
            · rw [getD_set_ne true (Ne.symm hki)]; simp [hki]
          rw [e]
          refine List.length_filter_lt_length_iff_exists.2 ⟨i, List.mem_filter.2 ⟨List.mem_range.2 hi, by rw [hli]; rfl⟩, by simp⟩
        omega
      refine ⟨fun h0 => ?_, fun i hi => ?_⟩
      · exfalso
        obtain ⟨i, h1, h2, h3⟩ := least_false (fun k => l.getD k true) (ops.size - 1) hlast
        have hi : i < ops.size := by omega
        have : i ∈ Region.ready .any ops l := by
          refine mem_ready.2 ⟨h2, ops[i], by simp [hi], fun e he hbd => ?_⟩
          have h4 := range_all hp4 i hi
          simp only [Array.getElem?_eq_getElem hi, Option.map_some, Option.getD_some] at h4
          have h5 := Array.all_eq_true_iff_forall_mem.1 h4 e he
          simp only [hbd, Bool.not_true, Bool.false_or, decide_eq_true_eq] at h5
          have h6 := h3 e.on h5
          simp only [Array.getD] at h6 ⊢
          rw [dif_pos (by omega)] at h6 ⊢
          exact h6
        rw [h0] at this
        cases this
      · obtain ⟨hun, o, ho, hall⟩ := mem_ready.1 hi
        have hilt : i < ops.size := (Array.getElem?_eq_some_iff.1 ho).1
        by_cases hil : i + 1 < ops.size
        · obtain ⟨hgd, t, hdt, htl⟩ := own i o ho hil
          have hdo := Steps'.at hs i o (by simpa using ho) (by simpa using hil) a w hb (fun t' ht' => hold t' fun j oj hoj hj hdj => by
              have := range_all ht' j (by omega)
              simp only [hoj, Option.bind_some, hdj] at this
              simp at this) (fun k t' hk hdep hkl => by
              obtain ⟨ok, hok⟩ : ∃ ok, ops[k]? = some ok := ⟨ops[k]'(by omega), by simp⟩
              rw [hok] at hk
              refine hnew k ok t' hok hkl hk ?_
              rw [Nat.zero_add, ho] at hdep
              simp only [Option.map_some, Option.getD_some, Array.any_eq_true, Bool.and_eq_true, beq_iff_eq] at hdep
              obtain ⟨x, hx, hbd, hon⟩ := hdep
              have := hall _ (Array.getElem_mem hx) hbd
              rw [hon] at this
              simp only [Array.getD] at this ⊢
              rw [dif_pos (by omega)] at this ⊢
              exact this)
          rw [Nat.zero_add] at hdo
          have hwant : Region.wanted o (yielded ops a.tmps) = true := by
            cases hg : o.guard with
            | none => simp [Region.wanted, hg]
            | some kb =>
              obtain ⟨k, b⟩ := kb
              obtain ⟨hk1, hk2⟩ := hgd k b hg
              obtain ⟨ok, hok⟩ : ∃ ok, ops[k]? = some ok := ⟨ops[k]'(by omega), by simp⟩
              obtain ⟨_, tk, htk, htl'⟩ := own k ok hok hk1
              simp only [Array.any_eq_true, Bool.and_eq_true, beq_iff_eq] at hk2
              obtain ⟨x, hx, hbd, hon⟩ := hk2
              have h1 := hall _ (Array.getElem_mem hx) hbd
              rw [hon] at h1
              have h2 : l.getD k true = true := by
                simp only [Array.getD] at h1 ⊢
                rw [dif_pos (by omega)] at h1 ⊢
                exact h1
              have h3 := hnew k ok tk hok hk1 htk h2
              rw [Gds.at hG i o (by simpa using ho) k b hg] at h3
              have h4 : a.tmps.getD tk undef = .bool b := h3
              have h5 : a.tmps[tk]? = some (.bool b) := by
                have hlt : tk < a.tmps.size := by omega
                simp only [Array.getD, hlt, dif_pos] at h4
                rw [Array.getElem?_eq_getElem hlt]
                exact congrArg some h4
              simp [Region.wanted, hg, yielded, hok, htk, h5]
          unfold wpOp
          rw [ho]
          simp only [hwant, if_true]
          refine .inl (hdo.wp fun v w' hv hbw => ?_)
          rw [hdt]
          refine ih _ _ _ (by simpa using hl) (below_chain hb hbw hb.size) (by simpa [Act.put] using hsz) (by simpa [Act.put] using hdf) ?_ ?_ ?_ (hcount i hilt hun)
          · rw [getD_set_ne true (by omega)]; exact hlast
          · intro t' ht'
            have htt : t ≠ t' := fun e => by
              have := ht' i o ho hil (by rw [hdt, e])
              simp [Array.getD, hl, hilt] at this
            simp only [Act.put, Array.getD_eq_getD_getElem?, Array.getElem?_setIfInBounds, if_neg htt]
            rw [← Array.getD_eq_getD_getElem?, ← Array.getD_eq_getD_getElem?]
            refine hold t' fun j oj hoj hj hdj => ?_
            have h1 := ht' j oj hoj hj hdj
            by_cases hji : i = j
            · subst hji; exact hun
            · rwa [getD_set_ne true hji] at h1
          · intro j oj t' hoj hj hdj hlj
            by_cases hji : i = j
            · subst hji
              rw [ho] at hoj
              cases hoj
              rw [hdt] at hdj
              cases hdj
              have : (a.put (some t) v).tmps.getD t undef = v := by simp [Act.put, Array.getD, hsz, htl]
              rw [this]; exact hv
            · rw [getD_set_ne true hji] at hlj
              have htt : t ≠ t' := fun e => hji (apart i j o oj t ho hoj hil hj hdt (by rw [hdj, e]))
              have h1 := hnew j oj t' hoj hj hdj hlj
              have : (a.put (some t) v).tmps.getD t' undef = a.tmps.getD t' undef := by
                simp only [Act.put, Array.getD_eq_getD_getElem?, Array.getElem?_setIfInBounds, if_neg htt]
              rw [this]
              exact Exp.ok_later _ hbw h1
        · obtain rfl : i = ops.size - 1 := by omega
          simp only [ho, Option.map_some, Option.getD_some, Bool.and_eq_true] at hp3
          have hlisted : ∀ k, k + 1 < ops.size → l.getD k true = true := by
            intro k hk
            have h1 := range_all hp3.2 k (by omega)
            simp only [Array.any_eq_true, Bool.and_eq_true, beq_iff_eq] at h1
            obtain ⟨x, hx, hbd, hon⟩ := h1
            have := hall _ (Array.getElem_mem hx) hbd
            rw [hon] at this
            simp only [Array.getD] at this ⊢
            rw [dif_pos (by omega)] at this ⊢
            exact this
          obtain ⟨o', ho', hw⟩ := Ends.at a (l := ops.toList) (j := 0) (a := a0) (fun h => by rw [Array.toList_eq_nil_iff] at h; subst h; simp at hne) (he w hb) (fun k ok hk hkl => by
            have hk' : ops[k]? = some ok := by simpa using hk
            have hkl' : k + 1 < ops.size := by simpa using hkl
            obtain ⟨_, t, hdt, htl⟩ := own k ok hk' hkl'
            refine ⟨t, hdt, ?_⟩
            rw [Nat.zero_add]
            exact hnew k ok t hk' hkl' hdt (hlisted k hkl'))
          have hoo : o' = o := by
            rw [List.getLast?_eq_getElem?] at ho'
            have h2 : ops[ops.size - 1]? = some o' := by simpa using ho'
            rw [ho] at h2
            exact (Option.some.inj h2).symm
          subst hoo
          have hfill : fills a ops.toList a0 = a := by
            have hz := fills_size a ops.toList a0
            refine act_ext (by rw [hz.1, hsz]) (fun t => ?_) (by rw [hz.2, hdf])
            refine fills_slot a t ops.toList a0 hsz ?_
            by_cases hx : ∃ k ok, ops[k]? = some ok ∧ k + 1 < ops.size ∧ ok.dst = some t
            · obtain ⟨k, ok, h1, h2, h3⟩ := hx
              exact .inr ⟨k, ok, by simpa using h1, by simpa using h2, h3⟩
            · exact .inl (hold t fun j oj hoj hj hdj => absurd ⟨j, oj, hoj, hj, hdj⟩ hx)
          rw [hfill] at hw
          unfold wpOp
          rw [ho]
          simp only [wanted_plain hp3.1, if_true]
          refine .inl (Oper.wp_mono (fun a' w' hq => wpAny_done ?_ (NoPanic.normal hq) _) hw)
          refine List.filter_eq_nil_iff.2 fun k hk => ?_
          have hk' : k < ops.size := List.mem_range.1 hk
          have : (l.setIfInBounds (ops.size - 1) true).getD k true = true := by
            by_cases hkl : k + 1 < ops.size
            · rw [getD_set_ne true (by omega)]; exact hlisted k hkl
            · obtain rfl : k = ops.size - 1 := by omega
              simp [Array.getD, hl, hne]
          rw [this]; simp
  refine main _ _ _ _ (by simp) ⟨rfl, rfl, rfl, Nat.le_refl _, fun _ _ => rfl⟩ rfl rfl (by simp [Array.getD, hne]) (fun t _ => rfl) (fun j o t ho hj hd hl => ?_) ?_
  · exfalso
    have : j < ops.size := by omega
    simp [Array.getD, this] at hl
  · have := List.length_filter_le (fun i => !(Array.replicate ops.size false).getD i true) (List.range ops.size)
    simpa using this
end Go.Proofs.Ytcimiajkbgabiaa

namespace Go.Proofs.Ytcimiajkbgabiaa
open Go.RowKit
set_option linter.unusedVariables false
set_option linter.unusedSimpArgs false
def leansOn (ops : Array Oper) : Nat → Nat → Nat → Bool
  | 0, _, _ => false
  | n + 1, j, k => ((ops[j]?).map fun o => o.after.any fun e => Region.binds .any e && (e.on == k || leansOn ops n e.on k)).getD false
theorem behind_done {ops : Array Oper} {l : Array Bool} (hcl : ∀ j o, ops[j]? = some o → l.getD j true = true → ∀ x ∈ o.after, Region.binds .any x = true → l.getD x.on true = true) :
    ∀ {n j k : Nat} {o : Oper}, (∀ x ∈ o.after, Region.binds .any x = true → l.getD x.on true = true) → ops[j]? = some o → leansOn ops n j k = true → l.getD k true = true
  | 0, _, _, _, _, _, h => by cases h
  | n + 1, j, k, o, hd, ho, h => by
    simp only [leansOn, ho, Option.map_some, Option.getD_some, Array.any_eq_true, Bool.and_eq_true, Bool.or_eq_true, beq_iff_eq] at h
    obtain ⟨x, hx, hbd, h⟩ := h
    have h1 := hd _ (Array.getElem_mem hx) hbd
    rcases h with h | h
    · rwa [h] at h1
    · cases ho' : ops[o.after[x].on]? with
      | none => cases n <;> simp [leansOn, ho'] at h
      | some o' => exact behind_done hcl (hcl _ o' ho' h1) ho' h
def chainOps (ops : Array Oper) : Bool :=
  (List.range (ops.size - 1)).all (fun j => ((ops[j]?).map (fun o => o.guard.isNone && o.dst.isSome)).getD false) &&
  (List.range (ops.size - 1)).all (fun j => (List.range (ops.size - 1)).all fun k => j == k || ((ops[j]?).bind (·.dst)) != ((ops[k]?).bind (·.dst))) &&
  ((ops[ops.size - 1]?).map (fun o => o.guard.isNone && (List.range (ops.size - 1)).all (fun k => leansOn ops ops.size (ops.size - 1) k))).getD false &&
  (List.range ops.size).all (fun j => ((ops[j]?).map (fun o => o.after.all fun e => !Region.binds .any e || decide (e.on < j))).getD false)
theorem region_invT {id : Nat} {ops : Array Oper} {Q : Exit → Act → World → Prop} {a0 : Act} {w0 : World} (E : List Exp) (hm : Try.prog.follows .mixedOrders = true) (hp : chainOps ops = true)
    (hin : (List.range (ops.size - 1)).all (fun j => ((ops[j]?).map (fun o => (o.dst.map (fun t => decide (t < a0.tmps.size))).getD false)).getD false) = true)
    (hs : Steps' w0.heap.size ops E a0 w0 0 ops.toList) (he : ∀ w, Below w0.heap.size w0 w → Ends w0.heap.size E Q w 0 ops.toList a0) : (Code.region id ops true).wp Try.prog Q a0 w0 := by
  simp only [chainOps, Bool.and_eq_true] at hp
  obtain ⟨⟨⟨hp1, hp2⟩, hp3⟩, hp4⟩ := hp
  have hne : ops.size - 1 < ops.size := by
    rcases Nat.eq_zero_or_pos ops.size with h | h
    · rw [Array.getElem?_eq_none (by omega)] at hp3; simp at hp3
    · omega
  have own : ∀ j o, ops[j]? = some o → j + 1 < ops.size → o.guard.isNone = true ∧ ∃ t, o.dst = some t ∧ t < a0.tmps.size := by
    intro j o ho hj
    have h1 := range_all hp1 j (by omega)
    have h2 := range_all hin j (by omega)
    simp only [ho, Option.map_some, Option.getD_some, Bool.and_eq_true] at h1 h2
    obtain ⟨t, ht⟩ := Option.isSome_iff_exists.1 h1.2
    rw [ht] at h2
    exact ⟨h1.1, t, ht, by simpa using h2⟩
  have apart : ∀ j k o o' t, ops[j]? = some o → ops[k]? = some o' → j + 1 < ops.size → k + 1 < ops.size → o.dst = some t → o'.dst = some t → j = k := by
    intro j k o o' t ho ho' hj hk ht ht'
    have h1 := range_all (range_all hp2 j (by omega)) k (by omega)
    simp only [ho, ho', Option.bind_some, ht, ht', Bool.or_eq_true, beq_iff_eq] at h1
    rcases h1 with h1 | h1
    · exact h1
    · simp at h1
  refine wp_region_noPanic (wp_region_any hm ?_)
  have main : ∀ (n : Nat) (l : Array Bool) (a : Act) (w : World), l.size = ops.size → Below w0.heap.size w0 w → a.tmps.size = a0.tmps.size → a.defers = a0.defers →
      l.getD (ops.size - 1) true = false →
      (∀ t, (∀ j o, ops[j]? = some o → j + 1 < ops.size → o.dst = some t → l.getD j true = false) → a.tmps.getD t undef = a0.tmps.getD t undef) →
      (∀ j o t, ops[j]? = some o → j + 1 < ops.size → o.dst = some t → l.getD j true = true → (E.getD j (.val undef)).ok w0.heap.size (a.tmps.getD t undef) w) →
      (∀ j o, ops[j]? = some o → l.getD j true = true → ∀ x ∈ o.after, Region.binds .any x = true → l.getD x.on true = true) →
      ((List.range ops.size).filter fun i => !l.getD i true).length ≤ n →
      wpAny Try.prog .any ops (NoPanic Q) n l a w := by
    intro n
    induction n with
    | zero =>
      intro l a w hl hb hsz hdf hlast hold hnew hcl hc
      have : ops.size - 1 ∈ (List.range ops.size).filter fun i => !l.getD i true := List.mem_filter.2 ⟨List.mem_range.2 hne, by rw [hlast]; rfl⟩
      have := List.length_pos_of_mem this
      omega
    | succ n ih =>
      intro l a w hl hb hsz hdf hlast hold hnew hcl hc
      have hcount : ∀ i, i < ops.size → l.getD i true = false → ((List.range ops.size).filter fun k => !(l.setIfInBounds i true).getD k true).length ≤ n := by
        intro i hi hli
        have hlt : ((List.range ops.size).filter fun k => !(l.setIfInBounds i true).getD k true).length < ((List.range ops.size).filter fun k => !l.getD k true).length := by
          have e : ((List.range ops.size).filter fun k => !(l.setIfInBounds i true).getD k true) = ((List.range ops.size).filter fun k => !l.getD k true).filter (fun k => k != i) := by
            rw [List.filter_filter]
            refine List.filter_congr fun k hk => ?_
            by_cases hki : k = i
            · subst hki; simp [Array.getD, hl, hi]
            · rw [getD_set_ne true (Ne.symm hki)]; simp [hki]
          rw [e]
          refine List.length_filter_lt_length_iff_exists.2 ⟨i, List.mem_filter.2 ⟨List.mem_range.2 hi, by rw [hli]; rfl⟩, by simp⟩
        omega
      refine ⟨fun h0 => ?_, fun i hi => ?_⟩
      · exfalso
        obtain ⟨i, h1, h2, h3⟩ := least_false (fun k => l.getD k true) (ops.size - 1) hlast
        have hi : i < ops.size := by omega
        have : i ∈ Region.ready .any ops l := by
          refine mem_ready.2 ⟨h2, ops[i], by simp [hi], fun e he hbd => ?_⟩
          have h4 := range_all hp4 i hi
          simp only [Array.getElem?_eq_getElem hi, Option.map_some, Option.getD_some] at h4
          have h5 := Array.all_eq_true_iff_forall_mem.1 h4 e he
          simp only [hbd, Bool.not_true, Bool.false_or, decide_eq_true_eq] at h5
          have h6 := h3 e.on h5
          simp only [Array.getD] at h6 ⊢
          rw [dif_pos (by omega)] at h6 ⊢
          exact h6
        rw [h0] at this
        cases this
      · obtain ⟨hun, o, ho, hall⟩ := mem_ready.1 hi
        have hilt : i < ops.size := (Array.getElem?_eq_some_iff.1 ho).1
        by_cases hil : i + 1 < ops.size
        · obtain ⟨hgd, t, hdt, htl⟩ := own i o ho hil
          have hdo := Steps'.at hs i o (by simpa using ho) (by simpa using hil) a w hb (fun t' ht' => hold t' fun j oj hoj hj hdj => by
              have := range_all ht' j (by omega)
              simp only [hoj, Option.bind_some, hdj] at this
              simp at this) (fun k t' hk hdep hkl => by
              obtain ⟨ok, hok⟩ : ∃ ok, ops[k]? = some ok := ⟨ops[k]'(by omega), by simp⟩
              rw [hok] at hk
              refine hnew k ok t' hok hkl hk ?_
              rw [Nat.zero_add, ho] at hdep
              simp only [Option.map_some, Option.getD_some, Array.any_eq_true, Bool.and_eq_true, beq_iff_eq] at hdep
              obtain ⟨x, hx, hbd, hon⟩ := hdep
              have := hall _ (Array.getElem_mem hx) hbd
              rw [hon] at this
              simp only [Array.getD] at this ⊢
              rw [dif_pos (by omega)] at this ⊢
              exact this)
          rw [Nat.zero_add] at hdo
          unfold wpOp
          rw [ho]
          simp only [wanted_plain hgd, if_true]
          refine .inl (hdo.wp fun v w' hv hbw => ?_)
          rw [hdt]
          refine ih _ _ _ (by simpa using hl) (below_chain hb hbw hb.size) (by simpa [Act.put] using hsz) (by simpa [Act.put] using hdf) ?_ ?_ ?_ ?_ (hcount i hilt hun)
          · rw [getD_set_ne true (by omega)]; exact hlast
          · intro t' ht'
            have htt : t ≠ t' := fun e => by
              have := ht' i o ho hil (by rw [hdt, e])
              simp [Array.getD, hl, hilt] at this
            simp only [Act.put, Array.getD_eq_getD_getElem?, Array.getElem?_setIfInBounds, if_neg htt]
            rw [← Array.getD_eq_getD_getElem?, ← Array.getD_eq_getD_getElem?]
            refine hold t' fun j oj hoj hj hdj => ?_
            have h1 := ht' j oj hoj hj hdj
            by_cases hji : i = j
            · subst hji; exact hun
            · rwa [getD_set_ne true hji] at h1
          · intro j oj t' hoj hj hdj hlj
            by_cases hji : i = j
            · subst hji
              rw [ho] at hoj
              cases hoj
              rw [hdt] at hdj
              cases hdj
              have : (a.put (some t) v).tmps.getD t undef = v := by simp [Act.put, Array.getD, hsz, htl]
              rw [this]; exact hv
            · rw [getD_set_ne true hji] at hlj
              have htt : t ≠ t' := fun e => hji (apart i j o oj t ho hoj hil hj hdt (by rw [hdj, e]))
              have h1 := hnew j oj t' hoj hj hdj hlj
              have : (a.put (some t) v).tmps.getD t' undef = a.tmps.getD t' undef := by
                simp only [Act.put, Array.getD_eq_getD_getElem?, Array.getElem?_setIfInBounds, if_neg htt]
              rw [this]
              exact Exp.ok_later _ hbw h1
          · intro j oj hoj hlj x hx hbx
            have hdone : l.getD x.on true = true := by
              by_cases hji : i = j
              · subst hji
                rw [ho] at hoj
                cases hoj
                have := hall _ hx hbx
                by_cases hxl : x.on < l.size
                · simp only [Array.getD] at this ⊢
                  rw [dif_pos hxl] at this ⊢
                  exact this
                · simp [Array.getD, hxl]
              · rw [getD_set_ne true hji] at hlj
                exact hcl j oj hoj hlj x hx hbx
            by_cases hxi : i = x.on
            · rw [← hxi, hun] at hdone; cases hdone
            · rw [getD_set_ne true hxi]; exact hdone
        · obtain rfl : i = ops.size - 1 := by omega
          simp only [ho, Option.map_some, Option.getD_some, Bool.and_eq_true] at hp3
          have hlisted : ∀ k, k + 1 < ops.size → l.getD k true = true := by
            intro k hk
            have h1 := range_all hp3.2 k (by omega)
            refine behind_done hcl (fun x hx hbx => ?_) ho h1
            have := hall _ hx hbx
            by_cases hxl : x.on < l.size
            · simp only [Array.getD] at this ⊢
              rw [dif_pos hxl] at this ⊢
              exact this
            · simp [Array.getD, hxl]
          obtain ⟨o', ho', hw⟩ := Ends.at a (l := ops.toList) (j := 0) (a := a0) (fun h => by rw [Array.toList_eq_nil_iff] at h; subst h; simp at hne) (he w hb) (fun k ok hk hkl => by
            have hk' : ops[k]? = some ok := by simpa using hk
            have hkl' : k + 1 < ops.size := by simpa using hkl
            obtain ⟨_, t, hdt, htl⟩ := own k ok hk' hkl'
            refine ⟨t, hdt, ?_⟩
            rw [Nat.zero_add]
            exact hnew k ok t hk' hkl' hdt (hlisted k hkl'))
          have hoo : o' = o := by
            rw [List.getLast?_eq_getElem?] at ho'
            have h2 : ops[ops.size - 1]? = some o' := by simpa using ho'
            rw [ho] at h2
            exact (Option.some.inj h2).symm
          subst hoo
          have hfill : fills a ops.toList a0 = a := by
            have hz := fills_size a ops.toList a0
            refine act_ext (by rw [hz.1, hsz]) (fun t => ?_) (by rw [hz.2, hdf])
            refine fills_slot a t ops.toList a0 hsz ?_
            by_cases hx : ∃ k ok, ops[k]? = some ok ∧ k + 1 < ops.size ∧ ok.dst = some t
            · obtain ⟨k, ok, h1, h2, h3⟩ := hx
              exact .inr ⟨k, ok, by simpa using h1, by simpa using h2, h3⟩
            · exact .inl (hold t fun j oj hoj hj hdj => absurd ⟨j, oj, hoj, hj, hdj⟩ hx)
          rw [hfill] at hw
          unfold wpOp
          rw [ho]
          simp only [wanted_plain hp3.1, if_true]
          refine .inl (Oper.wp_mono (fun a' w' hq => wpAny_done ?_ (NoPanic.normal hq) _) hw)
          refine List.filter_eq_nil_iff.2 fun k hk => ?_
          have hk' : k < ops.size := List.mem_range.1 hk
          have : (l.setIfInBounds (ops.size - 1) true).getD k true = true := by
            by_cases hkl : k + 1 < ops.size
            · rw [getD_set_ne true (by omega)]; exact hlisted k hkl
            · obtain rfl : k = ops.size - 1 := by omega
              simp [Array.getD, hl, hne]
          rw [this]; simp
  refine main _ _ _ _ (by simp) ⟨rfl, rfl, rfl, Nat.le_refl _, fun _ _ => rfl⟩ rfl rfl (by simp [Array.getD, hne]) (fun t _ => rfl) (fun j o t ho hj hd hl => ?_) (fun j o ho hl => ?_) ?_
  · exfalso
    have : j < ops.size := by omega
    simp [Array.getD, this] at hl
  · exfalso
    have : j < ops.size := (Array.getElem?_eq_some_iff.1 ho).1
    simp [Array.getD, this] at hl
  · have := List.length_filter_le (fun i => !(Array.replicate ops.size false).getD i true) (List.range ops.size)
    simpa using this
end Go.Proofs.Ytcimiajkbgabiaa

namespace Go.Proofs.Ytcimiajkbgabiaa
open Go.RowKit Go.Joins
set_option linter.unusedVariables false
set_option linter.unusedSimpArgs false

theorem infoByte : (Try.prog.info? 5).map (fun i => (i.zero, i.size)) = some (some (.int .u8 0), 1) := by kernel_rfl
/-- An array of bytes is itself. -/
theorem equal_self (d : Nat) (zs : List Int) (hl : zs.length = 16) (w : World) : (Op.equalIn (d + 2) 77 (.agg (u8s zs).toArray) (.agg (u8s zs).toArray)).run Try.prog w = .ok true w := by
  have hsz : ∀ w, (sizeOf 5).run Try.prog w = .ok 1 w := fun w => by
    have h := infoByte
    cases hq : Try.prog.info? 5 with
    | none => simp [hq] at h
    | some i => simp [hq] at h; simp [sizeOf, typeInfo, hq, h.2]
  have ht := Try.underlying77
  have he := Try.underlying5
  rw [Op.equalIn]
  simp only [Sem.run_bind, run_underlying ht, Result.andThen_ok, hsz, Std.Legacy.Range.forIn_eq_forIn_range', Std.Legacy.Range.size, Nat.sub_zero, Nat.add_sub_cancel, Nat.div_one]
  have hlr : ∀ i ∈ List.range' 0 16 1, i < 16 := fun i hi => by simpa using (List.mem_range'_1.1 hi).2
  generalize List.range' 0 16 1 = l at hlr ⊢
  induction l with
  | nil => simp
  | cons i l ih =>
    have hi : i < 16 := hlr i (by simp)
    have px : (Go.part 5 (u8s zs).toArray (i * 1)).run Try.prog w = .ok (.int .u8 (zs.getD i 0)) w := by
      simp [Go.part, isAgg, run_underlying he, u8s, List.getD, List.getElem?_eq_getElem (show i < zs.length by omega)]
    have pe : (Op.equalIn (d + 1) 5 (.int .u8 (zs.getD i 0)) (.int .u8 (zs.getD i 0))).run Try.prog w = .ok true w := by
      rw [run_equalIn_int w d 5 .u8 .u8 _ _ he]; simp
    simp only [List.forIn_cons, Sem.run_bind, px, pe, Result.andThen_ok]
    simp only [Bool.not_true, Bool.false_eq_true, if_false, Sem.run_pure, Result.andThen_ok]
    exact ih fun j hj => hlr j (by simp [hj])
/-- Lists in a new row of headers. -/
def isP (n : Nat) (pss : List (List Int)) (v : Value) (w : World) : Prop := ∃ b c, v = .slice (some ⟨b, 0, none⟩) n c ∧ SeenP w (some ⟨b, 0, none⟩) n pss
theorem isP_later (n : Nat) (pss : List (List Int)) : ∀ v w w', Below w.heap.size w w' → isP n pss v w → isP n pss v w' := fun _ _ _ hb ⟨b, c, h1, h2⟩ => ⟨b, c, h1, h2.later hb (Nat.le_refl _)⟩
theorem Does.run {base : Nat} {E : Exp} {ρ : Operand → Value} {o : Oper} {w w' : World} (v : Value) (h : (execOp ρ o).run Try.prog w = .ok (.value v) w') (hE : E.ok base v w') (hb : Below w.heap.size w w') : Does base E ρ o w := by
  unfold Does; rw [h]; exact ⟨hE, hb⟩
theorem bs1 (s1 : Option Addr) (n1 c1 : Nat) (w : World) : (Instr.buildSlice 50 1 #[(0, .slice s1 n1 c1)]).run Try.prog w = .ok (.slice (some ⟨w.heap.size, 0, none⟩) 1 1) (w.alloc (.cells #[.slice s1 n1 c1] 22)) := by kernel_rfl
theorem bs2 (s1 s2 : Option Addr) (n1 n2 c1 c2 : Nat) (w : World) : (Instr.buildSlice 50 2 #[(0, .slice s1 n1 c1), (1, .slice s2 n2 c2)]).run Try.prog w = .ok (.slice (some ⟨w.heap.size, 0, none⟩) 2 2) (w.alloc (.cells #[.slice s1 n1 c1, .slice s2 n2 c2] 22)) := by kernel_rfl
theorem Does.rows1 {base : Nat} {ρ : Operand → Value} {o : Oper} {w : World} (parts : Array (Nat × Operand)) (ho : o.op = .buildSlice 50 1 parts) (s1 : Option Addr) (n1 c1 : Nat) (z1 : List Int) (hp : (parts.map fun (i, x) => (i, ρ x)) = #[(0, .slice s1 n1 c1)]) (h1 : Seen w s1 n1 z1) (l1 : n1 ≤ c1) : Does base (.any (isP 1 [z1]) (isP_later _ _)) ρ o w := by
  refine Does.run (.slice (some ⟨w.heap.size, 0, none⟩) 1 1) (w' := w.alloc (.cells #[.slice s1 n1 c1] 22)) ?_ ⟨_, _, rfl, seenP1 w s1 n1 c1 z1 h1 l1⟩ ((Below.refl _ _).alloc (Nat.le_refl _) _)
  unfold execOp
  simp only [ho, hp, Sem.run_bind, bs1, Sem.run_pure, Result.andThen_ok]
theorem Does.rows2 {base : Nat} {ρ : Operand → Value} {o : Oper} {w : World} (parts : Array (Nat × Operand)) (ho : o.op = .buildSlice 50 2 parts) (s1 s2 : Option Addr) (n1 n2 c1 c2 : Nat) (z1 z2 : List Int) (hp : (parts.map fun (i, x) => (i, ρ x)) = #[(0, .slice s1 n1 c1), (1, .slice s2 n2 c2)]) (h1 : Seen w s1 n1 z1) (h2 : Seen w s2 n2 z2) (l1 : n1 ≤ c1) (l2 : n2 ≤ c2) : Does base (.any (isP 2 [z1, z2]) (isP_later _ _)) ρ o w := by
  refine Does.run (.slice (some ⟨w.heap.size, 0, none⟩) 2 2) (w' := w.alloc (.cells #[.slice s1 n1 c1, .slice s2 n2 c2] 22)) ?_ ⟨_, _, rfl, seenP2 w s1 s2 n1 n2 c1 c2 z1 z2 h1 h2 l1 l2⟩ ((Below.refl _ _).alloc (Nat.le_refl _) _)
  unfold execOp
  simp only [ho, hp, Sem.run_bind, bs2, Sem.run_pure, Result.andThen_ok]
theorem wpList_buildSlice {ops : Array Oper} {rest : List Oper} {o : Oper} {a : Act} {Q : Exit → Act → World → Prop} {w : World} (hgd : o.guard = none) (t : TypeId) (m : Nat) (parts : Array (Nat × Operand)) (ho : o.op = .buildSlice t m parts) (ps : Array (Nat × Value))
    (hp : (parts.map fun (i, x) => (i, a.eval x)) = ps) (v : Value) (w' : World) (hrun : (Instr.buildSlice t m ps).run Try.prog w = .ok v w') (h : wpList Try.prog ops Q rest (a.put o.dst v) w') : wpList Try.prog ops Q (o :: rest) a w := by
  refine wpList_plain hgd fun K hK => ?_
  unfold Oper.wp execOp
  simp only [ho, hp, Sem.run_bind, hrun, Sem.run_pure, Result.andThen_ok]
  exact hK _ _ h
/-- Lists in a new row of headers, however many. -/
def hdr (x : Option Addr × Nat × Nat × List Int) : Value := .slice x.1 x.2.1 x.2.2.1
theorem seenPn (W : World) (l : List (Option Addr × Nat × Nat × List Int)) (h : ∀ x ∈ l, Seen W x.1 x.2.1 x.2.2.2 ∧ x.2.1 ≤ x.2.2.1) :
    SeenP (W.alloc (.cells (l.map hdr).toArray 22)) (some ⟨W.heap.size, 0, none⟩) l.length (l.map (·.2.2.2)) := by
  have hb : Below W.heap.size W (W.alloc (.cells (l.map hdr).toArray 22)) := (Below.refl _ _).alloc (Nat.le_refl _) _
  have hh : (W.alloc (.cells (l.map hdr).toArray 22)).heap[W.heap.size]? = some (.cells (l.map hdr).toArray 22 (0, 0)) := heap_alloc_new W _
  refine ⟨by simp, fun i hi => ?_⟩
  have hx := h l[i] (List.getElem_mem hi)
  have e : (l.map (·.2.2.2)).getD i [] = l[i].2.2.2 := by simp [List.getD, hi]
  have el : l[i].2.2.2.length = l[i].2.1 := hx.1.len
  rw [e, el]
  refine ⟨_, 0, l[i].1, l[i].2.2.1, rfl, by simp, ?_, hx.1.later hb (Nat.le_refl _), hx.2⟩
  rw [cell_of_row _ _ _ _ _ _ hh]
  simp [hi, hdr]
theorem bs3 (s1 s2 s3 : Option Addr) (n1 n2 n3 c1 c2 c3 : Nat) (w : World) : (Instr.buildSlice 50 3 #[(0, .slice s1 n1 c1), (1, .slice s2 n2 c2), (2, .slice s3 n3 c3)]).run Try.prog w = .ok (.slice (some ⟨w.heap.size, 0, none⟩) 3 3) (w.alloc (.cells #[.slice s1 n1 c1, .slice s2 n2 c2, .slice s3 n3 c3] 22)) := by kernel_rfl
theorem bs4 (s1 s2 s3 s4 : Option Addr) (n1 n2 n3 n4 c1 c2 c3 c4 : Nat) (w : World) : (Instr.buildSlice 50 4 #[(0, .slice s1 n1 c1), (1, .slice s2 n2 c2), (2, .slice s3 n3 c3), (3, .slice s4 n4 c4)]).run Try.prog w = .ok (.slice (some ⟨w.heap.size, 0, none⟩) 4 4) (w.alloc (.cells #[.slice s1 n1 c1, .slice s2 n2 c2, .slice s3 n3 c3, .slice s4 n4 c4] 22)) := by kernel_rfl
theorem bs5 (s1 s2 s3 s4 s5 : Option Addr) (n1 n2 n3 n4 n5 c1 c2 c3 c4 c5 : Nat) (w : World) : (Instr.buildSlice 50 5 #[(0, .slice s1 n1 c1), (1, .slice s2 n2 c2), (2, .slice s3 n3 c3), (3, .slice s4 n4 c4), (4, .slice s5 n5 c5)]).run Try.prog w = .ok (.slice (some ⟨w.heap.size, 0, none⟩) 5 5) (w.alloc (.cells #[.slice s1 n1 c1, .slice s2 n2 c2, .slice s3 n3 c3, .slice s4 n4 c4, .slice s5 n5 c5] 22)) := by kernel_rfl
theorem Does.rows5 {base : Nat} {ρ : Operand → Value} {o : Oper} {w : World} (parts : Array (Nat × Operand)) (ho : o.op = .buildSlice 50 5 parts) (s1 s2 s3 s4 s5 : Option Addr) (n1 n2 n3 n4 n5 c1 c2 c3 c4 c5 : Nat) (z1 z2 z3 z4 z5 : List Int) (hp : (parts.map fun (i, x) => (i, ρ x)) = #[(0, .slice s1 n1 c1), (1, .slice s2 n2 c2), (2, .slice s3 n3 c3), (3, .slice s4 n4 c4), (4, .slice s5 n5 c5)])
    (h1 : Seen w s1 n1 z1 ∧ n1 ≤ c1) (h2 : Seen w s2 n2 z2 ∧ n2 ≤ c2) (h3 : Seen w s3 n3 z3 ∧ n3 ≤ c3) (h4 : Seen w s4 n4 z4 ∧ n4 ≤ c4) (h5 : Seen w s5 n5 z5 ∧ n5 ≤ c5) : Does base (.any (isP 5 [z1, z2, z3, z4, z5]) (isP_later _ _)) ρ o w := by
  refine Does.run (.slice (some ⟨w.heap.size, 0, none⟩) 5 5) (w' := w.alloc (.cells #[.slice s1 n1 c1, .slice s2 n2 c2, .slice s3 n3 c3, .slice s4 n4 c4, .slice s5 n5 c5] 22)) ?_ ⟨_, _, rfl, ?_⟩ ((Below.refl _ _).alloc (Nat.le_refl _) _)
  · unfold execOp
    simp only [ho, hp, Sem.run_bind, bs5, Sem.run_pure, Result.andThen_ok]
  · exact seenPn w [(s1, n1, c1, z1), (s2, n2, c2, z2), (s3, n3, c3, z3), (s4, n4, c4, z4), (s5, n5, c5, z5)] (fun x hx => by
      simp only [List.mem_cons, List.not_mem_nil, or_false] at hx
      rcases hx with rfl | rfl | rfl | rfl | rfl
      · exact h1
      · exact h2
      · exact h3
      · exact h4
      · exact h5)
/-- A slice of these bytes, with room enough. -/
def isS (zs : List Int) (v : Value) (w : World) : Prop := ∃ vo n c, v = .slice vo n c ∧ Seen w vo n zs ∧ n ≤ c
theorem isS_later (zs : List Int) : ∀ v w w', Below w.heap.size w w' → isS zs v w → isS zs v w' := fun _ _ _ hb ⟨b, o, c, h1, h2, h3⟩ => ⟨b, o, c, h1, h2.later hb (Nat.le_refl _), h3⟩
theorem copyB_is (ao : Option Addr) (n c : Nat) (zs : List Int) (w : World) (hx : Seen w ao n zs) : Calls Try.prog 12 #[.slice ao n c] w fun e w' => ∃ v, e = .returned v ∧ isS zs v w' ∧ Below w.heap.size w w' := by
  refine (copyB_any ao n c zs w hx).mono ?_
  rintro e w' ⟨v, rfl, ho, hb⟩
  have hl := hx.len
  subst hl
  obtain ⟨vo, cap, rfl, hs, hc, _⟩ := own_data hx.bytes hx.top ho
  exact ⟨_, rfl, ⟨_, _, _, rfl, hs, hc⟩, hb⟩
end Go.Proofs.Ytcimiajkbgabiaa

namespace Go.Proofs.Ytcimiajkbgabiaa
open Go.RowKit
set_option linter.unusedVariables false
set_option linter.unusedSimpArgs false

theorem wpList_append_seenU {ops : Array Oper} {rest : List Oper} {o : Oper} {a : Act} {Q : Exit → Act → World → Prop} {w : World} (hgd : o.guard = none) (s x : Operand)
    (ho : o.op = .call { callee := .builtin .append, args := #[s, x], argTypes := #[137, 137] }) (base : Nat) (v : Value) (n : Nat) (xs : List Int) (hs : a.eval s = v) (hown : w.ownsRow base 28 1 v n (w64s xs))
    (ao : Option Addr) (m c : Nat) (zs : List Int) (hx : a.eval x = .slice ao m c) (hsn : SeenU w ao m zs) (h0 : 0 < m) (hb : n + m ≤ 2000) (hbase : base ≤ w.heap.size)
    (h : ∀ v' w', w'.ownsRow base 28 1 v' (n + m) (w64s (xs ++ zs)) → w.grownBy w' v.ownBlock → wpList Try.prog ops Q rest (a.put o.dst v') w') : wpList Try.prog ops Q (o :: rest) a w := by
  obtain ⟨i0, hi, hz0, hz1, hz2⟩ := info_parts info_w
  obtain ⟨b, off, rfl, hlt, hc⟩ := hsn.cells h0
  refine wpList_append_own _ hgd s x 137 ho base 28 i0 (.int .u64 0) 1 8 Try.underlying137 hi hz0 hz1 hz2 rfl (by decide) v n (w64s xs) hs hown ⟨b, off, none⟩ m c (w64s zs) hx ?_ ?_ ?_ ?_ ?_ hbase (fun v' w' h1 h2 _ => h v' w' ?_ h2)
  · rw [w64s_length, hsn.len, Nat.mul_one]
  · intro j u hj
    have hjl : j < zs.length := by have := (List.getElem?_eq_some_iff.1 hj).1; simpa [w64s] using this
    rw [show (⟨b, off, none⟩ : Addr).add j = ⟨b, off + j, none⟩ from Addr.add_mid b off j, hc j (by rw [← hsn.len]; exact hjl), ← hj]
    simp [w64s, List.getD, hjl]
  · intro u hu
    obtain ⟨z, _, rfl⟩ := List.mem_map.1 hu
    rfl
  · unfold maxLen; omega
  · omega
  · rw [w64s, List.map_append]; exact h1
theorem wd_app {xs ys : List Int} (hx : Wds xs) (hy : Wds ys) : Wds (xs ++ ys) := fun z hz => by
  rcases List.mem_append.1 hz with h | h
  · exact hx z h
  · exact hy z h
theorem fix_wd : Wds fixW := by unfold Wds fixW Wd; decide
theorem begW_wd (key : List Int) (ctr : Int) (nonce : List Int) (hk : key.length = 32) (hn : nonce.length = 12) (hkb : Bytes key) (hnb : Bytes nonce) (hc : Wd ctr) : Wds (begW key ctr nonce) :=
  wd_app fix_wd (wd_app (wds_wd key 8 hkb (by omega)) (fun z hz => by
    rcases List.mem_cons.1 hz with rfl | h
    · exact hc
    · exact wds_wd nonce 3 hnb (by omega) z h))
theorem one_u64 (w : World) (x : Int) (hx : Wd x) : SeenU (w.alloc (.cells #[.int .u64 x] 28)) (some ⟨w.heap.size, 0, none⟩) 1 [x] := by
  have h : RowU (w.alloc (.cells #[.int .u64 x] 28)) w.heap.size 1 [x] := ⟨[], heap_alloc_new w _, rfl⟩
  exact h.seen (by simp) (fun d hd => by simp at hd; subst hd; exact hx)
theorem below_grownU {w w1 w2 : World} {base n : Nat} {v : Value} {xs : List Value} (hb : Below w.heap.size w w1) (hbs : w.heap.size ≤ base) (ho : w1.ownsRow base 28 1 v n xs) (hg : w1.grownBy w2 v.ownBlock) : Below w.heap.size w w2 :=
  hb.grown hg hb.size (fun j hj => Nat.le_trans hbs (ho.lt j hj).1)
set_option maxHeartbeats 1000000 in
set_option maxRecDepth 20000 in
theorem rstate_any (key : List Int) (ctr : Int) (nonce : List Int) (hk : key.length = 32) (hn : nonce.length = 12) (hkb : Bytes key) (hnb : Bytes nonce) (hc : Wd ctr) (w : World) :
    Calls Try.prog 83 #[.agg (u8s key).toArray, .int .u32 ctr, .agg (u8s nonce).toArray] w fun e w' => ∃ v, e = .returned v ∧ w'.ownsRow w.heap.size 28 1 v 16 (w64s (begW key ctr nonce)) ∧ Below w.heap.size w w' := by
  have HS : Hid (key.length = 32 ∧ nonce.length = 12 ∧ Bytes key ∧ Bytes nonce ∧ Wd ctr) := ⟨hk, hn, hkb, hnb, hc⟩
  have v1 : IntKind.u64.wrap ctr = ctr := by simp only [IntKind.wrap, IntKind.bits, IntKind.signed]; simp; unfold Wd at hc; omega
  clear hk hn hkb hnb hc
  go_enter Try.func83, Try.ntmps83
  go_wp2_with (first | (refine wpList_box_new rfl 27 _ rfl (u8s key) rfl ?_; intro w1 b1 s1 l1) | (refine wpList_box_new rfl 42 _ rfl (u8s nonce) rfl ?_; intro w2 b2 s2 l2))
  have r3 : RowU (w2.alloc (.cells #[.int .u64 1634760805, .int .u64 857760878, .int .u64 2036477234, .int .u64 1797285236] 28)) w2.heap.size 4 fixW := ⟨[], heap_alloc_new w2 _, rfl⟩
  have l3 : Below w2.heap.size w2 (w2.alloc (.cells #[.int .u64 1634760805, .int .u64 857760878, .int .u64 2036477234, .int .u64 1797285236] 28)) := (Below.refl _ _).alloc (Nat.le_refl _) _
  obtain ⟨w3, hw3⟩ : ∃ W, w2.alloc (.cells #[.int .u64 1634760805, .int .u64 857760878, .int .u64 2036477234, .int .u64 1797285236] 28) = W := ⟨_, rfl⟩
  rw [hw3] at r3 l3 ⊢
  have e2 : w2.heap.size = w.heap.size + 1 + 1 := by omega
  rw [e2] at r3
  have H3 : Hid (Blk w3 w.heap.size 27 (u8s key) ∧ Blk w3 (w.heap.size + 1) 42 (u8s nonce) ∧ w3.ownsRow (w.heap.size + 1 + 1) 28 1 (.slice (some ⟨w.heap.size + 1 + 1, 0, none⟩) 4 4) 4 (w64s fixW) ∧ Below w.heap.size w w3) := by
    rw [s1] at b2
    exact ⟨(b1.later l2 (by omega)).later l3 (by omega), b2.later l3 (by omega), r3.own rfl (Nat.le_refl _) (by unfold maxLen; decide), below_chain (below_chain l1 l2 (by omega)) l3 (by omega)⟩
  clear b1 s1 l1 b2 s2 l2 r3 l3 hw3 e2
  have hw8 := words_any (some ⟨w.heap.size, 0, none⟩) 8 32 key (by decide) w3 (by have := seen_blk H3.out.1 HS.out.2.2.1 (by rw [HS.out.1]; decide); rwa [HS.out.1] at this) (by decide)
  go_wp2_with fail
  refine hw8.mono ?_
  rintro e w4 ⟨v4, rfl, hv4, l4⟩
  obtain ⟨a4, n4, c4, rfl, s4⟩ := hv4
  obtain rfl : 8 = n4 := by rw [← s4.len, wds_length]
  have H4 : Hid (Blk w4 (w.heap.size + 1) 42 (u8s nonce) ∧ w4.ownsRow (w.heap.size + 1 + 1) 28 1 (.slice (some ⟨w.heap.size + 1 + 1, 0, none⟩) 4 4) 4 (w64s fixW) ∧ Below w.heap.size w w4 ∧ SeenU w4 a4 8 (wds key 8) ∧ w.heap.size + 1 + 1 ≤ w4.heap.size) := ⟨H3.out.2.1.later l4 H3.out.2.1.lt, ownsRow_below H3.out.2.2.1 l4, below_chain H3.out.2.2.2 l4 H3.out.2.2.2.size, s4, by have := H3.out.2.1.lt; have := l4.size; omega⟩
  clear hw8 s4 l4 H3
  go_wp2_with (first | (at_builtin; refine wpList_append_seenU rfl _ _ rfl (w.heap.size + 1 + 1) _ 4 fixW rfl H4.out.2.1 a4 8 c4 (wds key 8) rfl H4.out.2.2.2.1 (by decide) (by decide) H4.out.2.2.2.2 ?_; intro v5 w5 o5 g5; have H5 : Hid (w5.ownsRow (w.heap.size + 1 + 1) 28 1 v5 (4 + 8) (w64s (fixW ++ wds key 8)) ∧ Below w.heap.size w w5 ∧ Blk w5 (w.heap.size + 1) 42 (u8s nonce)) := (by
    have B5 := H4.out.2.2.1.grown g5 H4.out.2.2.1.size (fun j hj => Nat.le_trans (by omega) (H4.out.2.1.lt j hj).1)
    refine ⟨o5, B5, ?_⟩
    have B6 : Below (w.heap.size + 1 + 1) w4 w5 := (Below.refl (w.heap.size + 1 + 1) w4).grown g5 H4.out.2.2.2.2 (fun j hj => (H4.out.2.1.lt j hj).1)
    exact H4.out.1.later B6 (by omega)); clear o5 g5 H4) | (at_builtin; refine wpList_append_seenU rfl _ _ rfl (w.heap.size + 1 + 1) _ (4 + 8) (fixW ++ wds key 8) rfl (H5.out.1.alloc _) (some ⟨w5.heap.size, 0, none⟩) 1 1 [ctr] rfl (one_u64 w5 ctr HS.out.2.2.2.2) (by decide) (by decide) (by have := H5.out.2.2.lt; simp; omega) ?_; intro v6 w6 o6 g6))
  have H6 : Hid (w6.ownsRow (w.heap.size + 1 + 1) 28 1 v6 (4 + 8 + 1) (w64s (fixW ++ wds key 8 ++ [ctr])) ∧ Below w.heap.size w w6 ∧ Blk w6 (w.heap.size + 1) 42 (u8s nonce)) := by
    have A6 : Below w.heap.size w (w5.alloc (.cells #[.int .u64 ctr] 28)) := H5.out.2.1.alloc H5.out.2.1.size _
    have oA := H5.out.1.alloc (.cells #[.int .u64 ctr] 28)
    have B5 := A6.grown g6 A6.size (fun j hj => Nat.le_trans (by omega) (oA.lt j hj).1)
    refine ⟨o6, B5, ?_⟩
    have q5 := H5.out.2.2.lt
    have B6 : Below (w.heap.size + 1 + 1) w5 w6 := ((Below.refl (w.heap.size + 1 + 1) w5).alloc (by omega) _).grown g6 (by simp; omega) (fun j hj => (oA.lt j hj).1)
    exact H5.out.2.2.later B6 (by omega)
  clear o6 g6 H5
  have hw3 := words_any (some ⟨w.heap.size + 1, 0, none⟩) 3 12 nonce (by decide) w6 (by have := seen_blk H6.out.2.2 HS.out.2.2.2.1 (by rw [HS.out.2.1]; decide); rwa [HS.out.2.1] at this) (by decide)
  refine hw3.mono ?_
  rintro e w7 ⟨v7, rfl, hv7, l7⟩
  obtain ⟨a7, n7, c7, rfl, s7⟩ := hv7
  obtain rfl : 3 = n7 := by rw [← s7.len, wds_length]
  have H7 : Hid (w7.ownsRow (w.heap.size + 1 + 1) 28 1 v6 (4 + 8 + 1) (w64s (fixW ++ wds key 8 ++ [ctr])) ∧ Below w.heap.size w w7 ∧ SeenU w7 a7 3 (wds nonce 3) ∧ w.heap.size + 1 + 1 ≤ w7.heap.size) := ⟨ownsRow_below H6.out.1 l7, below_chain H6.out.2.1 l7 H6.out.2.1.size, s7, by have := H6.out.2.2.lt; have := l7.size; omega⟩
  clear hw3 s7 l7 H6
  go_wp2_with (at_builtin; refine wpList_append_seenU rfl _ _ rfl (w.heap.size + 1 + 1) _ (4 + 8 + 1) (fixW ++ wds key 8 ++ [ctr]) rfl H7.out.1 a7 3 c7 (wds nonce 3) rfl H7.out.2.2.1 (by decide) (by decide) H7.out.2.2.2 ?_; intro v8 w8 o8 g8)
  have H8 : Hid (w8.ownsRow w.heap.size 28 1 v8 16 (w64s (begW key ctr nonce)) ∧ Below w.heap.size w w8) := by
    refine ⟨?_, H7.out.2.1.grown g8 H7.out.2.1.size (fun j hj => Nat.le_trans (by omega) (H7.out.1.lt j hj).1)⟩
    have e : fixW ++ wds key 8 ++ [ctr] ++ wds nonce 3 = begW key ctr nonce := by simp [begW]
    rw [e] at o8
    exact ownsRow_base o8 (by omega)
  clear o8 g8
  go_ret
  exact ⟨_, rfl, H8.out⟩
def placesL : List Int := [0, 4, 8, 12, 1, 5, 9, 13, 2, 6, 10, 14, 3, 7, 11, 15, 0, 5, 10, 15, 1, 6, 11, 12, 2, 7, 8, 13, 3, 4, 9, 14]
theorem places_run (W : World) : (Instr.buildSlice 139 32 #[(0, .int .i64 0), (1, .int .i64 4), (2, .int .i64 8), (3, .int .i64 12), (4, .int .i64 1), (5, .int .i64 5), (6, .int .i64 9), (7, .int .i64 13), (8, .int .i64 2), (9, .int .i64 6), (10, .int .i64 10), (11, .int .i64 14), (12, .int .i64 3), (13, .int .i64 7), (14, .int .i64 11), (15, .int .i64 15), (16, .int .i64 0), (17, .int .i64 5), (18, .int .i64 10), (19, .int .i64 15), (20, .int .i64 1), (21, .int .i64 6), (22, .int .i64 11), (23, .int .i64 12), (24, .int .i64 2), (25, .int .i64 7), (26, .int .i64 8), (27, .int .i64 13), (28, .int .i64 3), (29, .int .i64 4), (30, .int .i64 9), (31, .int .i64 14)]).run Try.prog W = .ok (.slice (some ⟨W.heap.size, 0, none⟩) 32 32) (W.alloc (.cells (i64s placesL).toArray 3)) := by kernel_rfl
set_option maxHeartbeats 1000000 in
set_option maxRecDepth 20000 in
theorem rplaces_any (w : World) : Calls Try.prog 84 #[] w fun e w' => ∃ g, e = .returned (.slice (some ⟨g, 0, none⟩) 32 32) ∧ RowN w' g 32 placesL ∧ w.heap.size ≤ g ∧ Below w.heap.size w w' := by
  go_enter Try.func84, Try.ntmps84
  go_wp2_with (refine wpList_buildSlice rfl 139 32 _ rfl _ rfl _ _ (places_run _) ?_)
  go_ret
  refine ⟨w.heap.size, rfl, ?_, Nat.le_refl _, (Below.refl _ _).alloc (Nat.le_refl _) _⟩
  have h : RowN (w.alloc (.cells (i64s placesL).toArray 3)) w.heap.size 32 placesL := ⟨[], by rw [List.append_nil]; exact heap_alloc_new w _, rfl⟩
  exact h
end Go.Proofs.Ytcimiajkbgabiaa

namespace Go.Proofs.Ytcimiajkbgabiaa
open Go.RowKit
set_option linter.unusedVariables false
set_option linter.unusedSimpArgs false

theorem infoU32 : (Try.prog.info? 29).map (fun i => (i.zero, i.size)) = some (some (.int .u32 0), 1) := by kernel_rfl
set_option maxRecDepth 20000 in
theorem idx_St (zs : List Int) (hl : zs.length = 16) (k : Nat) (hk : k < 16) (w : World) : (Instr.index 125 (.agg (u32s zs).toArray) (.int .i64 k)).run Try.prog w = .ok (.int .u32 (zs.getD k 0)) w := by
  have hsz : ∀ w, (sizeOf 29).run Try.prog w = .ok 1 w := fun w => by
    have h := infoU32
    cases hq : Try.prog.info? 29 with
    | none => simp [hq] at h
    | some i => simp [hq] at h; simp [sizeOf, typeInfo, hq, h.2]
  have px : (Go.part 29 (u32s zs).toArray (k * 1)).run Try.prog w = .ok (.int .u32 (zs.getD k 0)) w := by
    simp [Go.part, isAgg, run_underlying Try.underlying29, u32s, List.getD, List.getElem?_eq_getElem (show k < zs.length by omega)]
  rw [Nat.mul_one] at px
  simp [Instr.index, run_underlying Try.underlying125, asIntOf, hsz, hk, px]
set_option maxRecDepth 20000 in
set_option maxHeartbeats 1000000 in
theorem plus_any (st os : List Int) (hs : st.length = 16) (ho : os.length = 16) (w : World) :
    Calls Try.prog 76 #[.agg (u32s st).toArray, .agg (u32s os).toArray] w fun e w' => e = .returned (.agg (u32s (addW st os)).toArray) ∧ Below w.heap.size w w' := by
  have HS : Hid (st.length = 16 ∧ os.length = 16) := ⟨hs, ho⟩
  have HA : Hid ((addW st os).length = 16) := addW_length _ _ 16 hs ho
  clear hs ho
  go_enter Try.func76, Try.ntmps76
  go_wp2_with (first | (refine wpList_box_new rfl 125 _ rfl (u32s st) rfl ?_; intro w1 b1 s1 l1) | (refine wpList_box_new rfl 125 _ rfl (u32s os) rfl ?_; intro w2 b2 s2 l2) | (refine wpList_alloc_new rfl 125 rfl 16 _ zeroSt ?_; intro w3 b3 s3 l3) | (refine wpList_load_blk rfl 125 _ rfl _ rfl (u32s os) _ (by first | exact b2.later l3 (by omega) | (have := b2.later l3 (by omega); rwa [s1] at this)) Try.underlying125 rfl (by rw [u32s_length, HS.out.2]; exact sizeSt) ?_))
  have HB : Hid (Blk w3 w.heap.size 125 (u32s st) ∧ Blk w3 (w.heap.size + 2) 125 (u32s (List.replicate 16 0)) ∧ Below w.heap.size w w3) :=
    ⟨(b1.later l2 (by omega)).later l3 (by omega), by rwa [s2, s1] at b3, below_chain (below_chain l1 l2 (by omega)) l3 (by omega)⟩
  have sz : w3.heap.size = w.heap.size + 3 := by omega
  clear b1 s1 l1 b2 s2 l2 b3 s3 l3
  go_loopw [8] (fun i wr => ∃ k : Nat, k ≤ 16 ∧ i = .int .i64 k ∧ Blk wr w.heap.size 125 (u32s ((addW st os).take k ++ st.drop k)) ∧ Kept (fun b => b = w.heap.size) w3 wr) (fun i _ => 16 - (intOf i).toNat)
  case atStart => exact ⟨0, by omega, rfl, by simpa using HB.out.1, Kept.refl _ _⟩
  case round =>
    obtain ⟨k, hk, rfl, hb, hkp⟩ := hrel
    by_cases hlt : k < 16
    · have f1 := idx_St os HS.out.2 k hlt
      have hln := half_length (addW st os) st 16 k HA.out HS.out.1 (by omega)
      have cs := u32s_cell hb k (by omega)
      rw [half_at _ _ 16 k HA.out HS.out.1 hlt] at cs
      have fs := hb.frozen k
      have HY : Hid ((addW st os).getD k 0 = (st.getD k 0 + os.getD k 0) % 4294967296) := addW_at _ _ 16 k HS.out.1 HS.out.2 hlt
      obtain ⟨x, hx⟩ : ∃ x, st.getD k 0 = x := ⟨_, rfl⟩
      obtain ⟨y, hy⟩ : ∃ y, os.getD k 0 = y := ⟨_, rfl⟩
      rw [hx] at cs HY
      rw [hy] at f1 HY
      have i1 : (k : Int) < 16 := by omega
      have X0 : Hid (Blk wr w.heap.size 125 (u32s ((addW st os).take k ++ st.drop k))) := hb
      clear hb hx hy hln
      go_wp2_with fail
      have R1 := X0.out.set k (.int .u32 ((addW st os).getD k 0))
      rw [u32s_set, half_set _ _ 16 k HA.out HS.out.1 hlt, HY.out] at R1
      exact ⟨⟨k + 1, by omega, by go_num, R1, hkp.setCell rfl _⟩, by simp [intOf]; omega⟩
    · obtain rfl : k = 16 := by omega
      rw [show ((16 : Nat) : Int) = 16 from rfl]
      rw [List.take_of_length_le (by have := HA.out; omega), List.drop_eq_nil_of_le (by have := HS.out.1; omega), List.append_nil] at hb
      have X3 : Hid (Blk wr w.heap.size 125 (u32s (addW st os))) := hb
      have X4 : Hid (Blk wr (w.heap.size + 2) 125 (u32s (List.replicate 16 0))) := HB.out.2.1.kept hkp (by omega)
      have X5 : Hid (Below w.heap.size w wr) := below_kept HB.out.2.2 hkp (by omega) (fun j hj => by omega)
      have X6 : Hid ((u32s (addW st os)).length = 16) := by show _ = _; rw [u32s_length]; exact HA.out
      clear hb hkp
      go_wp2_with (first | (refine wpList_load_blk rfl 125 _ rfl _ rfl (u32s (addW st os)) _ X3.out Try.underlying125 rfl (by rw [X6.out]; exact sizeSt) ?_) | (refine wpList_store_blk rfl 125 125 _ _ rfl _ rfl _ (u32s (addW st os)) rfl X4.out (by rw [X6.out, u32s_length, List.length_replicate]) (by rw [X6.out]; exact sizeSt) (u32s_one _) ?_; intro w5 b5 s5 k5))
      exact ret_blk rfl (w.heap.size + 2) (u32s (addW st os)) _ rfl b5 Try.underlying125 rfl (by rw [X6.out]; exact sizeSt) rfl ⟨rfl, below_kept X5.out k5 X5.out.size (fun j hj => by omega)⟩
end Go.Proofs.Ytcimiajkbgabiaa

namespace Go.Proofs.Ytcimiajkbgabiaa
open Go.RowKit
set_option linter.unusedVariables false
set_option linter.unusedSimpArgs false

set_option maxRecDepth 20000 in
set_option maxHeartbeats 1000000 in
theorem bytesOf_any (st : List Int) (hs : st.length = 16) (hw : ∀ z ∈ st, 0 ≤ z ∧ z < 4294967296) (w : World) :
    Calls Try.prog 75 #[.agg (u32s st).toArray] w fun e w' => e = .returned (.agg (u8s (wB st 16)).toArray) ∧ Below w.heap.size w w' := by
  have HS : Hid (st.length = 16) := hs
  have HW : Hid (∀ k, k < 16 → 0 ≤ st.getD k 0 ∧ st.getD k 0 < 4294967296) := fun k hk => by
    have e : st.getD k 0 = st[k] := by simp [List.getD, show k < st.length by omega]
    rw [e]; exact hw _ (List.getElem_mem _)
  clear hs hw
  go_enter Try.func75, Try.ntmps75
  go_wp2_with (first | (refine wpList_box_new rfl 125 _ rfl (u32s st) rfl ?_; intro w1 b1 s1 l1) | ((with_reducible show wpList _ _ _ _ _ w1); refine wpList_alloc_new rfl 103 rfl 64 _ zero64b ?_; intro w2 b2 s2 l2) | (refine wpList_alloc_new rfl 103 rfl 64 _ zero64b ?_; intro w3 b3 s3 l3) | (refine wpList_load_blk rfl 125 _ rfl _ rfl (u32s st) _ ((b1.later l2 (by omega)).later l3 (by omega)) Try.underlying125 rfl (by rw [u32s_length, HS.out]; exact sizeSt) ?_))
  have HB : Hid (Blk w3 (w.heap.size + 1) 103 (u8s (List.replicate 64 0)) ∧ Blk w3 (w.heap.size + 2) 103 (u8s (List.replicate 64 0)) ∧ Below w.heap.size w w3) :=
    ⟨by have := b2.later l3 (by omega); rwa [s1] at this, by rwa [s2, s1] at b3, below_chain (below_chain l1 l2 (by omega)) l3 (by omega)⟩
  have sz : w3.heap.size = w.heap.size + 3 := by omega
  clear b1 s1 l1 b2 s2 l2 b3 s3 l3
  go_loopw [7] (fun i wr => ∃ k : Nat, k ≤ 16 ∧ i = .int .i64 k ∧ Blk wr (w.heap.size + 2) 103 (u8s (wB st k ++ List.replicate (64 - 4 * k) 0)) ∧ Kept (fun b => b = w.heap.size + 2) w3 wr) (fun i _ => 16 - (intOf i).toNat)
  case atStart => exact ⟨0, by omega, rfl, HB.out.2.1, Kept.refl _ _⟩
  case round =>
    obtain ⟨k, hk, rfl, hb, hkp⟩ := hrel
    by_cases hlt : k < 16
    · have f1 := idx_St st HS.out k hlt
      have hx := HW.out k hlt
      have hL : (wB st k).length = 4 * k := wB_length st k (by have := HS.out; omega)
      have hN : wB st (k + 1) = wB st k ++ leB 4 (st.getD k 0) := wB_succ st k (by have := HS.out; omega)
      obtain ⟨x, hxx⟩ : ∃ x, st.getD k 0 = x := ⟨_, rfl⟩
      rw [hxx] at f1 hx hN
      have X0 : Hid (Blk wr (w.heap.size + 2) 103 (u8s (wB st k) ++ (u8s (List.replicate 4 0) ++ u8s (List.replicate (64 - 4 * (k + 1)) 0)))) := by
        show Blk _ _ _ _
        rw [show 64 - 4 * k = 4 + (64 - 4 * (k + 1)) by omega, ← List.replicate_append_replicate] at hb
        simpa [u8s] using hb
      have X1 : Hid ((wB st k).length = 4 * k ∧ wB st (k + 1) = wB st k ++ leB 4 x) := ⟨hL, hN⟩
      have i1 : (k : Int) < 16 := by omega
      have i2 : (64 - 4 * (k : Int)).toNat = 64 - 4 * k := by omega
      have HK : Hid (Kept (fun b => b = w.heap.size + 2) w3 wr) := hkp
      clear hb hxx hL hN hkp
      go_wp2_with fail
      obtain ⟨J, hJ⟩ : ∃ J : Nat, J = 4 * k := ⟨_, rfl⟩
      have v6 : IntKind.i64.wrap ((k : Int) * 4) = (J : Int) := by rw [hJ]; simp only [IntKind.wrap, IntKind.bits, IntKind.signed]; simp; omega
      have j1 : (J : Int) ≤ 64 := by omega
      have j2 : J ≤ 60 := by omega
      have HJ : Hid (J = 4 * k) := hJ
      clear hJ
      obtain ⟨wd, hwd⟩ : ∃ x, wr.drew = x := ⟨_, rfl⟩
      have Y0 : Hid (Blk wd (w.heap.size + 2) 103 (u8s (wB st k) ++ (u8s (List.replicate 4 0) ++ u8s (List.replicate (64 - 4 * (k + 1)) 0))) ∧ Kept (fun b => b = w.heap.size + 2) w3 wd) := by rw [← hwd]; exact ⟨X0.out.drew, HK.out.drew⟩
      clear X0 HK
      refine wp_region_noPanic (wp_region_any (by kernel_rfl) ?_)
      change wpAny _ _ _ _ _ _ _ wr.drew
      rw [hwd]
      clear hwd
      refine take_op 0 (some 11) (.int .i64 k) rfl rfl (by kernel_rfl) (by kernel_rfl) (by kernel_rfl) (fun _ _ _ h => h) (by rfl) (fun _ => by rfl) ?_
      simp only [Act.put, List.setIfInBounds_toArray, List.set_cons_zero, List.set_cons_succ]
      refine take_op 1 (some 12) (.int .i64 J) rfl rfl (by kernel_rfl) (by kernel_rfl) (by kernel_rfl) (fun _ _ _ h => h) (by rfl) (fun _ => by go_simp) ?_
      simp only [Act.put, List.setIfInBounds_toArray, List.set_cons_zero, List.set_cons_succ]
      refine take_op 2 (some 13) (.slice (some ⟨w.heap.size + 1 + 1, J, none⟩) (64 - J) (64 - J)) rfl rfl (by kernel_rfl) (by kernel_rfl) (by kernel_rfl) (fun _ _ _ h => h) (by rfl) (fun _ => by go_simp; omega) ?_
      simp only [Act.put, List.setIfInBounds_toArray, List.set_cons_zero, List.set_cons_succ]
      refine take_op 3 (some 14) (.int .u32 x) rfl rfl (by kernel_rfl) (by kernel_rfl) (by kernel_rfl) (fun _ _ _ h => h) (by rfl) (fun _ => by rfl) ?_
      simp only [Act.put, List.setIfInBounds_toArray, List.set_cons_zero, List.set_cons_succ]
      refine wpAny_ready (rs := [4]) (by kernel_rfl) (by simp) (AllReady.cons rfl (fun K hK => ?_) AllReady.nil)
      go_simp
      go_wp2_with (go_at_call 35; refine (put_32 none 0 0 [] x _ (Seen.empty _ _) (fun _ => rfl) (by omega) hx).mono ?_; rintro e w4 ⟨v, rfl, ho, l4⟩; obtain ⟨vo, vc, rfl, sv, hv⟩ := own_seen (zs := leB 4 x) (leB_length _ _) (leB_bytes _ _) (by decide) (by simpa using ho))
      have q2 := l4.size
      have Y1 : Hid (Blk w4 (w.heap.size + 2) 103 (u8s (wB st k) ++ (u8s (List.replicate 4 0) ++ u8s (List.replicate (64 - 4 * (k + 1)) 0))) ∧ Kept (fun b => b = w.heap.size + 2) w3 w4) :=
        ⟨Y0.out.1.later l4 Y0.out.1.lt, Y0.out.2.trans (Kept.new _ l4)⟩
      refine wpAny_ready (rs := [5]) (by kernel_rfl) (by simp) (AllReady.cons rfl (fun K hK => ?_) AllReady.nil)
      refine step_copy_seen rfl (.tmp 13) (.tmp 15) rfl (w.heap.size + 1 + 1) J (64 - J) (64 - J) (some ⟨w.heap.size + 1 + 1, J, none⟩) vo 4 vc rfl rfl (leB 4 x) sv 103 (u8s (wB st k)) (u8s (List.replicate 4 0)) (u8s (List.replicate (64 - 4 * (k + 1)) 0)) Y1.out.1 (by rw [u8s_length, X1.out.1, HJ.out]) 4 (Nat.min_eq_left (by omega)) (by rw [u8s_length, List.length_replicate]) (fun _ => rfl) (some 16) rfl ?_
      intro w6 b6 s6 k6
      refine hK _ _ ?_
      clear hK K
      have Y2 : Hid (Blk w6 (w.heap.size + 2) 103 (u8s (wB st (k + 1) ++ List.replicate (64 - 4 * (k + 1)) 0)) ∧ Kept (fun b => b = w.heap.size + 2) w3 w6) := by
        refine ⟨?_, Y1.out.2.trans k6⟩
        rw [List.take_of_length_le (by rw [leB_length]; exact Nat.le_refl _)] at b6
        rw [X1.out.2]
        simpa [u8s] using b6
      clear b6 s6 k6 sv hv ho l4
      refine wpAny_done (by kernel_rfl) (NoPanic.normal ?_) _
      simp only [Act.put, List.setIfInBounds_toArray, List.set_cons_zero, List.set_cons_succ]
      go_wp2_with fail
      exact ⟨⟨k + 1, by omega, by go_num, Y2.out⟩, by simp [intOf]; omega⟩
    · obtain rfl : k = 16 := by omega
      rw [show ((16 : Nat) : Int) = 16 from rfl]
      rw [show 64 - 4 * 16 = 0 from rfl, List.replicate_zero, List.append_nil] at hb
      have X3 : Hid (Blk wr (w.heap.size + 2) 103 (u8s (wB st 16))) := hb
      have X4 : Hid (Blk wr (w.heap.size + 1) 103 (u8s (List.replicate 64 0))) := HB.out.1.kept hkp (by omega)
      have X5 : Hid (Below w.heap.size w wr) := below_kept HB.out.2.2 hkp (by omega) (fun j hj => by omega)
      have X6 : Hid ((u8s (wB st 16)).length = 64) := by show _ = _; rw [u8s_length, wB_length st 16 (by have := HS.out; omega)]
      clear hb hkp
      rw [show w.heap.size + 1 + 1 = w.heap.size + 2 from rfl]
      go_wp2_with (first | (refine wpList_load_blk rfl 103 _ rfl _ rfl (u8s (wB st 16)) _ X3.out Try.underlying103 rfl (by rw [X6.out]; exact size64b) ?_) | (refine wpList_store_blk rfl 103 103 _ _ rfl _ rfl _ (u8s (wB st 16)) rfl X4.out (by rw [X6.out, u8s_length, List.length_replicate]) (by rw [X6.out]; exact size64b) (u8s_one _) ?_; intro w5 b5 s5 k5))
      exact ret_blk rfl (w.heap.size + 1) (u8s (wB st 16)) _ rfl b5 Try.underlying103 rfl (by rw [X6.out]; exact size64b) rfl ⟨rfl, below_kept X5.out k5 X5.out.size (fun j hj => by omega)⟩
end Go.Proofs.Ytcimiajkbgabiaa
