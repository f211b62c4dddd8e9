/- Bytes copied into a block that is known whole. -/
import Derived.Test.YtabdjoljdefjdaaSSlice
import Derived.Laws.CopyOwn
namespace Go.Proofs.Ytabdjoljdefjdaa
open Go.RowKit
set_option linter.unusedVariables false
set_option linter.unusedSimpArgs false

/-- Bytes copied into a block that is known whole, out of a slice that is seen, nil or not. -/
theorem run_copy_seen (w : World) (ty : TypeId) (g off dLen dCap : Nat) (dp so : Option Addr) (n c : Nat) (src : List Int) (hx : Seen w so n src) (t : TypeId) (xs ys zs : List Value) (hb : Blk w g t (xs ++ (ys ++ zs))) (hoff : xs.length = off) (k : Nat) (hk : Nat.min n dLen = k) (hy : ys.length = k)
    (hdp : 0 < k → dp = some ⟨g, off, none⟩) : ∃ w', (Builtin.copy_ #[27, 27] ty #[.slice dp dLen dCap, .slice so n c]).run Try.prog w = .ok (goInt k) w' ∧ Blk w' g t (xs ++ (u8s (src.take k) ++ zs)) ∧ w'.heap.size = w.heap.size ∧ Kept (fun b => b = g) w w' := by
  have hkn : k ≤ n := by rw [← hk]; exact Nat.min_le_left _ _
  have hl : (u8s (src.take k)).length = k := by rw [u8s_length, List.length_take, hx.len]; omega
  rcases Nat.eq_zero_or_pos k with h0 | h0
  · subst h0
    obtain rfl : ys = [] := List.eq_nil_of_length_eq_zero hy
    exact ⟨w, run_copy_none w 27 27 ty 5 dp so dLen dCap n c Try.underlying27 sizeByte hk, by simpa [u8s] using hb, rfl, Kept.refl _ _⟩
  · obtain rfl := hdp h0
    obtain ⟨b, o, rfl, hlt, hcs⟩ := hx.cells (by omega)
    have hsrc : ∀ j v, (u8s (src.take k))[j]? = some v → w.cell? ((⟨b, o, none⟩ : Addr).add j) = some v := by
      intro j v hv
      have hj : j < k := by have := (List.getElem?_eq_some_iff.1 hv).1; omega
      have h2 : j < src.length := by rw [hx.len]; omega
      rw [add_mid, hcs j (by omega), ← hv]
      simp [u8s, List.getElem?_take, List.getD, h2, hj]
    have hrun := run_copy_row (P := Try.prog) w 27 27 ty 5 g off dLen dCap ⟨b, o, none⟩ n c (xs ++ (ys ++ zs)).toArray t (u8s (src.take k)) Try.underlying27 sizeByte hb (by rw [hl, hk]) hsrc (by simp; omega) (u8s_one _)
    have e : ((xs ++ (ys ++ zs)).toArray.toList.take off ++ u8s (src.take k) ++ (xs ++ (ys ++ zs)).toArray.toList.drop (off + (u8s (src.take k)).length)) = xs ++ (u8s (src.take k) ++ zs) := by
      subst hoff
      simp [hl, hy, List.drop_append, List.take_append]
    rw [e] at hrun
    refine ⟨_, by rw [hrun, hl], setRow_heap w g _ _ t _ hb, by simp [World.setRow], ⟨rfl, rfl, rfl, by simp [World.setRow], fun k _ hk => setRow_other w g k _ hk⟩⟩
theorem wpList_copy_seen {ops : Array Oper} {rest : List Oper} {o : Oper} {a : Act} {Q : Exit → Act → World → Prop} {w : World} (hgd : o.guard = none) (d s : Operand) (ho : o.op = .call { callee := .builtin .copy, args := #[d, s], argTypes := #[27, 27] })
    (g off dLen dCap : Nat) (dp so : Option Addr) (n c : Nat) (hd : a.eval d = .slice dp dLen dCap) (hs : a.eval s = .slice so n c) (src : List Int) (hx : Seen w so n src) (t : TypeId) (xs ys zs : List Value) (hb : Blk w g t (xs ++ (ys ++ zs))) (hoff : xs.length = off) (k : Nat) (hk : Nat.min n dLen = k) (hy : ys.length = k) (hdp : 0 < k → dp = some ⟨g, off, none⟩)
    (h : ∀ w', Blk w' g t (xs ++ (u8s (src.take k) ++ zs)) → w'.heap.size = w.heap.size → Kept (fun b => b = g) w w' → wpList Try.prog ops Q rest (a.put o.dst (goInt k)) w') : wpList Try.prog ops Q (o :: rest) a w := by
  refine wpList_plain hgd fun K hK => ?_
  obtain ⟨w', hrun, h1, h2, h3⟩ := run_copy_seen w o.type g off dLen dCap dp so n c src hx t xs ys zs hb hoff k hk hy hdp
  unfold Oper.wp
  simp [execOp, ho, resolve, invoke, builtin, hd, hs, hrun, Result.andThen]
  exact hK _ _ (h w' h1 h2 h3)
theorem step_copy_seen {ops : Array Oper} {o : Oper} {a : Act} {w : World} {K : Act → World → Prop} {Q : Exit → Act → World → Prop} {E : Prop} (hgd : o.guard = none) (d s : Operand) (ho : o.op = .call { callee := .builtin .copy, args := #[d, s], argTypes := #[27, 27] })
    (g off dLen dCap : Nat) (dp so : Option Addr) (n c : Nat) (hd : a.eval d = .slice dp dLen dCap) (hs : a.eval s = .slice so n c) (src : List Int) (hx : Seen w so n src) (t : TypeId) (xs ys zs : List Value) (hb : Blk w g t (xs ++ (ys ++ zs))) (hoff : xs.length = off) (k : Nat) (hk : Nat.min n dLen = k) (hy : ys.length = k) (hdp : 0 < k → dp = some ⟨g, off, none⟩)
    (dst : Option Tmp) (hdst : o.dst = dst) (h : ∀ w', Blk w' g t (xs ++ (u8s (src.take k) ++ zs)) → w'.heap.size = w.heap.size → Kept (fun b => b = g) w w' → K (a.put dst (goInt k)) w') :
    if Region.wanted o (yielded ops a.tmps) = true then Oper.wp Try.prog o a w K Q else E := by
  subst hdst
  have hw : Region.wanted o (yielded ops a.tmps) = true := by simp [Region.wanted, hgd]
  rw [if_pos hw]
  obtain ⟨w', hrun, h1, h2, h3⟩ := run_copy_seen w o.type g off dLen dCap dp so n c src hx t xs ys zs hb hoff k hk hy hdp
  unfold Oper.wp
  simp [execOp, ho, resolve, invoke, builtin, hd, hs, hrun, Result.andThen]
  exact h w' h1 h2 h3
theorem seen_blk {w : World} {g : Nat} {t : TypeId} {zs : List Int} (h : Blk w g t (u8s zs)) (hb : Bytes zs) (ht : zs.length ≤ 140737488355328) : Seen w (some ⟨g, 0, none⟩) zs.length zs :=
  ⟨rfl, ht, hb, fun _ => ⟨g, 0, rfl, h.lt, fun i hi => by rw [Nat.zero_add]; exact u8s_cell h i hi⟩⟩
end Go.Proofs.Ytabdjoljdefjdaa
