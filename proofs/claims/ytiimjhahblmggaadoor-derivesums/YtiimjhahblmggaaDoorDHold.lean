/- Layer digest: what a hash holds, and its digest: plain mathematics. -/
import Derived.Test.YtiimjhahblmggaaDoorDSum
import Derived.Laws.CopyOwn
namespace Go.Proofs.YtiimjhahblmggaaDoor
open Go.RowKit
set_option linter.unusedVariables false
set_option linter.unusedSimpArgs false

/-- The words behind the first n blocks of bytes. -/
def comp (m : List Int) : Nat → List Int
  | 0 => iv
  | n + 1 => mixF (comp m n) ((m.drop (64 * n)).take 64)
theorem comp_length (m : List Int) (n : Nat) : (comp m n).length = 8 := by
  induction n with
  | zero => rfl
  | succ n ih => exact mixF_length _ _ ih
theorem comp_app (m zs : List Int) (n : Nat) (h : 64 * n ≤ m.length) : comp (m ++ zs) n = comp m n := by
  induction n with
  | zero => rfl
  | succ n ih =>
    rw [comp, comp, ih (by omega), List.drop_append_of_le_length (by omega), List.take_append_of_le_length (by rw [List.length_drop]; omega)]
/-- The open block of a hash that holds m. -/
def openB (m : List Int) : List Int := m.drop (64 * (m.length / 64)) ++ zer (64 - m.length % 64)
theorem openB_length (m : List Int) : (openB m).length = 64 := by simp [openB, zer_length]; omega
structure Holds (w : World) (g : Nat) (m : List Int) : Prop where
  hash : HashAt w g (comp m (m.length / 64)) (openB m) m.length
theorem Holds.kept {S : Nat → Prop} {w w' : World} {g : Nat} {m : List Int} (h : Holds w g m) (hk : Kept S w w') (hS : ¬ S g) : Holds w' g m := ⟨h.hash.kept hk hS⟩
theorem Holds.later {w w' : World} {g : Nat} {m : List Int} (h : Holds w g m) {B : Nat} (hb : Below B w w') (hB : g < B) : Holds w' g m := ⟨h.hash.later hb hB⟩
theorem Holds.lt {w : World} {g : Nat} {m : List Int} (h : Holds w g m) : g < w.heap.size := h.hash.lt
/-- The digest of bytes. -/
def sha (m : List Int) : List Int := bytesF (padF (comp m (m.length / 64)) (openB m) m.length (m.length % 64)) 32
theorem sha_length (m : List Int) : (sha m).length = 32 := bytesF_length _ _
theorem zer_add (a b : Nat) : zer (a + b) = zer a ++ zer b := by rw [zer, zer, zer, List.replicate_append_replicate]

/-- A piece that leaves the block open. -/
theorem open_part (m p : List Int) (h : m.length % 64 + p.length < 64) : comp (m ++ p) ((m ++ p).length / 64) = comp m (m.length / 64) ∧ openB (m ++ p) = m.drop (64 * (m.length / 64)) ++ (p ++ zer (64 - m.length % 64 - p.length)) := by
  have e : (m ++ p).length / 64 = m.length / 64 := by rw [List.length_append]; omega
  refine ⟨?_, ?_⟩
  · rw [e, comp_app _ _ _ (by omega)]
  · rw [openB, e, List.drop_append_of_le_length (by omega), List.append_assoc]
    congr 3
    rw [List.length_append]; omega
/-- A piece that fills it. -/
theorem open_full (m p : List Int) (h : m.length % 64 + p.length = 64) : comp (m ++ p) ((m ++ p).length / 64) = mixF (comp m (m.length / 64)) (m.drop (64 * (m.length / 64)) ++ p) ∧ openB (m ++ p) = zer 64 := by
  have e : (m ++ p).length / 64 = m.length / 64 + 1 := by rw [List.length_append]; omega
  have e2 : (m ++ p).length % 64 = 0 := by rw [List.length_append]; omega
  refine ⟨?_, ?_⟩
  · rw [e, comp, comp_app _ _ _ (by omega), List.drop_append_of_le_length (by omega), List.take_of_length_le (by simp; omega)]
  · rw [openB, e, e2, List.drop_eq_nil_of_le (by rw [List.length_append]; omega), List.nil_append]
theorem open_split (m : List Int) (t : Nat) (h : m.length % 64 + t ≤ 64) : openB m = m.drop (64 * (m.length / 64)) ++ (zer t ++ zer (64 - m.length % 64 - t)) := by
  rw [openB, ← zer_add]; congr 2; omega
theorem rest_length (m : List Int) : (m.drop (64 * (m.length / 64))).length = m.length % 64 := by simp; omega

theorem sizeByte : (Tryd.prog.info? 5).map (·.size) = some 1 := by kernel_rfl
/-- A piece copied into a block that is known whole, as a step of a region that draws. -/
theorem step_copy_blk {ops : Array Oper} {o : Oper} {a : Act} {w : World} {K : Act → World → Prop} {Q : Exit → Act → World → Prop} {E : Prop} (hgd : o.guard = none) (d s : Operand)
    (ho : o.op = .call { callee := .builtin .copy, args := #[d, s], argTypes := #[22, 22] }) (g off dLen dCap : Nat) (ad : Addr) (sLen sCap : Nat) (hd : a.eval d = .slice (some ⟨g, off, none⟩) dLen dCap) (hs : a.eval s = .slice (some ad) sLen sCap)
    (t : TypeId) (xs ys zs us : List Value) (hb : Blk w g t (xs ++ (ys ++ zs))) (hoff : xs.length = off) (hl : us.length = ys.length) (hn : us.length = Nat.min sLen dLen) (hsrc : ∀ j v, us[j]? = some v → w.cell? (ad.add j) = some v) (h1 : ∀ v ∈ us, v.oneCell' = true)
    (dst : Option Tmp) (hdst : o.dst = dst) (h : ∀ w', Blk w' g t (xs ++ (us ++ zs)) → Kept (fun k => k = g) w w' → K (a.put dst (goInt us.length)) w') :
    if Region.wanted o (yielded ops a.tmps) = true then Oper.wp Tryd.prog o a w K Q else E := by
  subst hdst
  have hw : Region.wanted o (yielded ops a.tmps) = true := by simp [Region.wanted, hgd]
  rw [if_pos hw]
  have hrun := run_copy_row (P := Tryd.prog) w 22 22 o.type 5 g off dLen dCap ad sLen sCap (xs ++ (ys ++ zs)).toArray t us Tryd.underlying22 sizeByte hb hn hsrc (by simp; omega) h1
  have e : ((xs ++ (ys ++ zs)).toArray.toList.take off ++ us ++ (xs ++ (ys ++ zs)).toArray.toList.drop (off + us.length)) = xs ++ (us ++ zs) := by
    subst hoff
    simp [hl, List.drop_append, List.take_append]
  rw [e] at hrun
  unfold Oper.wp
  simp [execOp, ho, resolve, invoke, builtin, hd, hs, hrun, Result.andThen]
  exact h _ (setRow_heap w g _ _ t _ hb) ⟨rfl, rfl, rfl, by simp [World.setRow], fun k _ hk => setRow_other w g k _ hk⟩
end Go.Proofs.YtiimjhahblmggaaDoor
