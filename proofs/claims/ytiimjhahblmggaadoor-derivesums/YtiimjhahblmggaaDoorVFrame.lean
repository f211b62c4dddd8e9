/- Layer derive: a key's frame; a hash that begins with it; both hashes of a key. -/
import Derived.Test.YtiimjhahblmggaaDoorVPlain
import Derived.Test.YtiimjhahblmggaaDoorDCopy
namespace Go.Proofs.YtiimjhahblmggaaDoor
open Go.RowKit
set_option linter.unusedVariables false
set_option linter.unusedSimpArgs false

/-- Bytes copied into a block that is known whole, out of a slice that is seen, nil or not. -/
theorem run_copy_seen (w : World) (ty : TypeId) (g off dLen dCap : Nat) (dp so : Option Addr) (n c : Nat) (src : List Int) (hx : Seen w so n src) (t : TypeId) (xs ys zs : List Value) (hb : Blk w g t (xs ++ (ys ++ zs))) (hoff : xs.length = off) (k : Nat) (hk : Nat.min n dLen = k) (hy : ys.length = k)
    (hdp : 0 < k → dp = some ⟨g, off, none⟩) : ∃ w', (Builtin.copy_ #[22, 22] ty #[.slice dp dLen dCap, .slice so n c]).run Tryd.prog w = .ok (goInt k) w' ∧ Blk w' g t (xs ++ (u8s (src.take k) ++ zs)) ∧ w'.heap.size = w.heap.size ∧ Kept (fun b => b = g) w w' := by
  have hkn : k ≤ n := by rw [← hk]; exact Nat.min_le_left _ _
  have hl : (u8s (src.take k)).length = k := by rw [u8s_length, List.length_take, hx.len]; omega
  rcases Nat.eq_zero_or_pos k with h0 | h0
  · subst h0
    obtain rfl : ys = [] := List.eq_nil_of_length_eq_zero hy
    exact ⟨w, run_copy_none w 22 22 ty 5 dp so dLen dCap n c Tryd.underlying22 sizeByte hk, by simpa [u8s] using hb, rfl, Kept.refl _ _⟩
  · obtain rfl := hdp h0
    obtain ⟨b, o, rfl, hlt, hcs⟩ := hx.cells (by omega)
    have hsrc : ∀ j v, (u8s (src.take k))[j]? = some v → w.cell? ((⟨b, o, none⟩ : Addr).add j) = some v := by
      intro j v hv
      have hj : j < k := by have := (List.getElem?_eq_some_iff.1 hv).1; omega
      have h2 : j < src.length := by rw [hx.len]; omega
      rw [add_mid, hcs j (by omega), ← hv]
      simp [u8s, List.getElem?_take, List.getD, h2, hj]
    have hrun := run_copy_row (P := Tryd.prog) w 22 22 ty 5 g off dLen dCap ⟨b, o, none⟩ n c (xs ++ (ys ++ zs)).toArray t (u8s (src.take k)) Tryd.underlying22 sizeByte hb (by rw [hl, hk]) hsrc (by simp; omega) (u8s_one _)
    have e : ((xs ++ (ys ++ zs)).toArray.toList.take off ++ u8s (src.take k) ++ (xs ++ (ys ++ zs)).toArray.toList.drop (off + (u8s (src.take k)).length)) = xs ++ (u8s (src.take k) ++ zs) := by
      subst hoff
      simp [hl, hy, List.drop_append, List.take_append]
    rw [e] at hrun
    refine ⟨_, by rw [hrun, hl], setRow_heap w g _ _ t _ hb, by simp [World.setRow], ⟨rfl, rfl, rfl, by simp [World.setRow], fun k _ hk => setRow_other w g k _ hk⟩⟩
theorem wpList_copy_seen {ops : Array Oper} {rest : List Oper} {o : Oper} {a : Act} {Q : Exit → Act → World → Prop} {w : World} (hgd : o.guard = none) (d s : Operand) (ho : o.op = .call { callee := .builtin .copy, args := #[d, s], argTypes := #[22, 22] })
    (g off dLen dCap : Nat) (dp so : Option Addr) (n c : Nat) (hd : a.eval d = .slice dp dLen dCap) (hs : a.eval s = .slice so n c) (src : List Int) (hx : Seen w so n src) (t : TypeId) (xs ys zs : List Value) (hb : Blk w g t (xs ++ (ys ++ zs))) (hoff : xs.length = off) (k : Nat) (hk : Nat.min n dLen = k) (hy : ys.length = k) (hdp : 0 < k → dp = some ⟨g, off, none⟩)
    (h : ∀ w', Blk w' g t (xs ++ (u8s (src.take k) ++ zs)) → w'.heap.size = w.heap.size → Kept (fun b => b = g) w w' → wpList Tryd.prog ops Q rest (a.put o.dst (goInt k)) w') : wpList Tryd.prog ops Q (o :: rest) a w := by
  refine wpList_plain hgd fun K hK => ?_
  obtain ⟨w', hrun, h1, h2, h3⟩ := run_copy_seen w o.type g off dLen dCap dp so n c src hx t xs ys zs hb hoff k hk hy hdp
  unfold Oper.wp
  simp [execOp, ho, resolve, invoke, builtin, hd, hs, hrun, Result.andThen]
  exact hK _ _ (h w' h1 h2 h3)
theorem step_copy_seen {ops : Array Oper} {o : Oper} {a : Act} {w : World} {K : Act → World → Prop} {Q : Exit → Act → World → Prop} {E : Prop} (hgd : o.guard = none) (d s : Operand) (ho : o.op = .call { callee := .builtin .copy, args := #[d, s], argTypes := #[22, 22] })
    (g off dLen dCap : Nat) (dp so : Option Addr) (n c : Nat) (hd : a.eval d = .slice dp dLen dCap) (hs : a.eval s = .slice so n c) (src : List Int) (hx : Seen w so n src) (t : TypeId) (xs ys zs : List Value) (hb : Blk w g t (xs ++ (ys ++ zs))) (hoff : xs.length = off) (k : Nat) (hk : Nat.min n dLen = k) (hy : ys.length = k) (hdp : 0 < k → dp = some ⟨g, off, none⟩)
    (dst : Option Tmp) (hdst : o.dst = dst) (h : ∀ w', Blk w' g t (xs ++ (u8s (src.take k) ++ zs)) → w'.heap.size = w.heap.size → Kept (fun b => b = g) w w' → K (a.put dst (goInt k)) w') :
    if Region.wanted o (yielded ops a.tmps) = true then Oper.wp Tryd.prog o a w K Q else E := by
  subst hdst
  have hw : Region.wanted o (yielded ops a.tmps) = true := by simp [Region.wanted, hgd]
  rw [if_pos hw]
  obtain ⟨w', hrun, h1, h2, h3⟩ := run_copy_seen w o.type g off dLen dCap dp so n c src hx t xs ys zs hb hoff k hk hy hdp
  unfold Oper.wp
  simp [execOp, ho, resolve, invoke, builtin, hd, hs, hrun, Result.andThen]
  exact h w' h1 h2 h3
theorem zeroA64b : (Tryd.prog.info? 82).map (fun i => (i.zero, i.size)) = some (some (.agg (u8s (zer 64)).toArray), 64) := by kernel_rfl
theorem sizeA64b : (Tryd.prog.info? 82).map (·.size) = some 64 := by kernel_rfl
theorem seen_blk {w : World} {g : Nat} {t : TypeId} {zs : List Int} (h : Blk w g t (u8s zs)) (hb : Bytes zs) (ht : zs.length ≤ 140737488355328) : Seen w (some ⟨g, 0, none⟩) zs.length zs :=
  ⟨rfl, ht, hb, fun _ => ⟨g, 0, rfl, h.lt, fun i hi => by rw [Nat.zero_add]; exact u8s_cell h i hi⟩⟩
set_option maxRecDepth 20000 in
set_option maxHeartbeats 1000000 in
theorem frame_any (ao : Option Addr) (n c : Nat) (zs : List Int) (w : World) (hx : Seen w ao n zs) (hc : n ≤ c) (hK : KTab w) :
    Calls Tryd.prog 44 #[.slice ao n c] w fun e w' => e = .returned (.agg (u8s (frm zs)).toArray) ∧ Below w.heap.size w w' := by
  have HX : Hid (Seen w ao n zs ∧ KTab w) := ⟨hx, hK⟩
  have HL : Hid (zs.length = n) := hx.len
  have ht := hx.top
  clear hx hK
  go_enter Tryd.func44, Tryd.ntmps44
  by_cases hn : 64 < n
  · have i1 : (64 : Int) < (n : Int) := by omega
    have HF : Hid (frm zs = sha zs ++ zer 32) := by show frm zs = _; unfold frm keyS; rw [if_pos (by rw [HL.out]; exact hn), sha_length]
    go_wp2_with (first | ((with_reducible show wpList _ _ _ _ _ w); refine wpList_alloc_new rfl 82 rfl 64 _ zeroA64b ?_; intro w1 b1 s1 l1; have Z1 : Hid (w1.heap.size = w.heap.size + 1) := s1; clear s1) | (go_at_call 54; refine (dsum_any _ 1 1 [zs] _ (seenP1 w1 ao n c zs (HX.out.1.later l1 (Nat.le_refl _)) hc) (by decide) (by rw [show ([zs] : List (List Int)).flatten = zs by simp, HL.out]; omega) (HX.out.2.below (l1.alloc (by have := Z1.out; omega) _) HX.out.2.lt)).mono ?_; rintro e w2 ⟨rfl, l2⟩; rw [show ([zs] : List (List Int)).flatten = zs by simp]; have Z2 : Hid (w.heap.size + 1 < w2.heap.size) := (by have q := l2.size; have := Z1.out; simp at q; show _ < _; omega)) | (refine wpList_alloc_new rfl 28 rfl 32 _ zeroAH ?_; intro w3 b3 s3 l3; have Z3 : Hid (w3.heap.size = w2.heap.size + 1) := s3; clear s3) | (refine wpList_store_blk rfl 28 28 _ _ rfl _ rfl _ (u8s (sha zs)) rfl b3 (by rw [u8s_length, sha_length, u8s_length, zer_length]) (by rw [u8s_length, sha_length]; exact sizeAH) (u8s_one _) ?_; intro w4 b4 s4 k4; have Z4 : Hid (w4.heap.size = w3.heap.size) := s4; clear s4) | (refine wpList_alloc_new rfl 82 rfl 64 _ zeroA64b ?_; intro w5 b5 s5 l5; have Z5 : Hid (w5.heap.size = w4.heap.size + 1) := s5; clear s5; have S5 : Hid (Seen w5 (some ⟨w2.heap.size, 0, none⟩) 32 (sha zs)) := (by have q := seen_blk (b4.later l5 (by have := Z4.out; have := Z3.out; omega)) (sha_bytes zs) (by rw [sha_length]; decide); rw [sha_length] at q; exact q)) | (refine wpList_copy_seen rfl _ _ rfl w4.heap.size 0 64 64 _ _ 32 32 rfl rfl (sha zs) S5.out 82 [] (u8s (zer 32)) (u8s (zer 32)) b5 rfl 32 (by decide) (by rw [u8s_length, zer_length]) (fun _ => rfl) ?_; intro w6 b6 s6 k6; have B6 : Hid (Blk w6 w4.heap.size 82 (u8s (frm zs))) := (by show Blk w6 _ _ _; rw [HF.out]; rw [List.take_of_length_le (by rw [sha_length]; decide)] at b6; simpa [u8s] using b6); have G6 : Hid (Blk w6 w.heap.size 82 (u8s (zer 64)) ∧ Below w.heap.size w w6) := (by have := Z1.out; have := Z2.out; have := Z3.out; have := Z4.out; have := Z5.out; have lb := below_chain l1 ((Below.refl w1.heap.size w1).alloc (Nat.le_refl _) (.cells #[.slice ao n c] 22)) (by omega); have lc := below_chain lb l2 (by simp; omega); have ld := below_chain lc l3 (by omega); have le := below_kept ld k4 (by omega) (fun j hj => by omega); have lf := below_chain le l5 (by omega); have bb := (((b1.later ((Below.refl w1.heap.size w1).alloc (Nat.le_refl _) (.cells #[.slice ao n c] 22)) (by omega)).later l2 (by simp; omega)).later l3 (by omega)).kept k4 (by omega); exact ⟨(bb.later l5 (by omega)).kept k6 (by omega), below_kept lf k6 (by omega) (fun j hj => by omega)⟩)) | (refine wpList_load_blk rfl 82 _ rfl _ rfl (u8s (frm zs)) _ B6.out Tryd.underlying82 rfl (by rw [u8s_length, frm_length]; exact sizeA64b) ?_) | (refine wpList_store_blk rfl 82 82 _ _ rfl _ rfl _ (u8s (frm zs)) rfl G6.out.1 (by rw [u8s_length, frm_length, u8s_length, zer_length]) (by rw [u8s_length, frm_length]; exact sizeA64b) (u8s_one _) ?_; intro w7 b7 s7 k7))
    exact ret_blk rfl w.heap.size (u8s (frm zs)) _ rfl b7 Tryd.underlying82 rfl (by rw [u8s_length, frm_length]; exact sizeA64b) rfl ⟨rfl, below_kept G6.out.2 k7 G6.out.2.size (fun j hj => by omega)⟩
  · have i1 : ¬ (64 : Int) < (n : Int) := by omega
    have HB5 : Hid (∀ {W : World} {g : Nat}, Blk W g 82 (u8s (zer 64)) → Blk W g 82 ([] ++ (u8s (zer n) ++ u8s (zer (64 - n))))) := fun {W g} h => by rw [show (64 : Nat) = n + (64 - n) by omega, zer_add] at h; simpa [u8s] using h
    have HF : Hid (frm zs = zs ++ zer (64 - n)) := by show frm zs = _; unfold frm keyS; rw [if_neg (by rw [HL.out]; exact hn), HL.out]
    go_wp2_with (first | ((with_reducible show wpList _ _ _ _ _ w); refine wpList_alloc_new rfl 82 rfl 64 _ zeroA64b ?_; intro w1 b1 s1 l1; have Z1 : Hid (w1.heap.size = w.heap.size + 1) := s1; clear s1) | (refine wpList_alloc_new rfl 82 rfl 64 _ zeroA64b ?_; intro w5 b5 s5 l5; have Z5 : Hid (w5.heap.size = w1.heap.size + 1) := s5; clear s5) | (refine wpList_copy_seen rfl _ _ rfl w1.heap.size 0 64 64 _ _ n c rfl rfl zs ((HX.out.1.later l1 (Nat.le_refl _)).later l5 (Nat.le_refl _)) 82 [] (u8s (zer n)) (u8s (zer (64 - n))) (HB5.out b5) rfl n (Nat.min_eq_left (by omega)) (by rw [u8s_length, zer_length]) (fun _ => rfl) ?_; intro w6 b6 s6 k6; have B6 : Hid (Blk w6 w1.heap.size 82 (u8s (frm zs))) := (by show Blk w6 _ _ _; rw [HF.out]; rw [List.take_of_length_le (by rw [HL.out]; exact Nat.le_refl _)] at b6; simpa [u8s] using b6); have G6 : Hid (Blk w6 w.heap.size 82 (u8s (zer 64)) ∧ Below w.heap.size w w6) := (by have := Z1.out; have := Z5.out; have lf := below_chain l1 l5 (by omega); exact ⟨(b1.later l5 (by omega)).kept k6 (by omega), below_kept lf k6 (by omega) (fun j hj => by omega)⟩)) | (refine wpList_load_blk rfl 82 _ rfl _ rfl (u8s (frm zs)) _ B6.out Tryd.underlying82 rfl (by rw [u8s_length, frm_length]; exact sizeA64b) ?_) | (refine wpList_store_blk rfl 82 82 _ _ rfl _ rfl _ (u8s (frm zs)) rfl G6.out.1 (by rw [u8s_length, frm_length, u8s_length, zer_length]) (by rw [u8s_length, frm_length]; exact sizeA64b) (u8s_one _) ?_; intro w7 b7 s7 k7))
    exact ret_blk rfl w.heap.size (u8s (frm zs)) _ rfl b7 Tryd.underlying82 rfl (by rw [u8s_length, frm_length]; exact sizeA64b) rfl ⟨rfl, below_kept G6.out.2 k7 G6.out.2.size (fun j hj => by omega)⟩
end Go.Proofs.YtiimjhahblmggaaDoor
