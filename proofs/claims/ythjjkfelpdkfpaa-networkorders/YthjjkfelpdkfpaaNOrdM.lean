/- Layer network: Things in order: mathematics of NetworkOrders. -/
import Derived.Test.YthjjkfelpdkfpaaNSortT
namespace Go.Proofs.Ythjjkfelpdkfpaa
set_option linter.unusedVariables false
theorem bytesLess_dec : ∀ (x y : List UInt8), Op.bytesLess x y = decide (x < y)
  | [], [] => by simp [Op.bytesLess]
  | _ :: _, [] => by simp [Op.bytesLess]
  | [], _ :: _ => by simp [Op.bytesLess]
  | a :: x, b :: y => by
    rw [Op.bytesLess, bytesLess_dec x y]
    simp only [List.cons_lt_cons_iff]
    by_cases h1 : a < b <;> by_cases h2 : a = b <;> by_cases h3 : x < y <;> simp [h1, h2, h3]
theorem bytesLess_asym (x y : List UInt8) (h : Op.bytesLess x y = true) : Op.bytesLess y x = false := by
  rw [bytesLess_dec, decide_eq_true_eq] at h
  rw [bytesLess_dec, decide_eq_false_iff_not]
  exact List.lt_asymm h
theorem bytesLess_tr (x y z : List UInt8) (h1 : Op.bytesLess x y = false) (h2 : Op.bytesLess y z = false) : Op.bytesLess x z = false := by
  rw [bytesLess_dec, decide_eq_false_iff_not] at h1 h2
  rw [bytesLess_dec, decide_eq_false_iff_not]
  exact List.not_lt.2 (List.le_trans (List.not_lt.1 h2) (List.not_lt.1 h1))
theorem thB_odr : Odr thB := ⟨fun a b h => bytesLess_asym _ _ h, fun a b c h1 h2 => bytesLess_tr _ _ _ h1 h2⟩
/-- The Things of the first n keys. -/
def thL (ks : List ByteArray) (n : Nat) : List Thg := (List.range n).map fun i => ((ks.getD i default, (i : Int)) : Thg)
theorem thL_length (ks : List ByteArray) (n : Nat) : (thL ks n).length = n := by simp [thL]
theorem thL_snoc (ks : List ByteArray) (n : Nat) : thL ks (n + 1) = thL ks n ++ [(ks.getD n default, (n : Int))] := by simp [thL, List.range_succ]
theorem ord_place (ks : List ByteArray) (L : Nat) (hL : L ≤ 16) (i : Nat) (hi : i < 2 ^ L) : ∃ p, p < 2 ^ L ∧ (gfold thB (thL ks (2 ^ L)) (gatesL L)).getD i default = (ks.getD p default, (p : Int)) := by
  have hp := gates_perm thB L hL (thL ks (2 ^ L)) (thL_length _ _)
  have hl : (gfold thB (thL ks (2 ^ L)) (gatesL L)).length = 2 ^ L := by rw [gfold_length, thL_length]
  have hm : (gfold thB (thL ks (2 ^ L)) (gatesL L)).getD i default ∈ thL ks (2 ^ L) := by
    refine hp.mem_iff.1 ?_
    rw [List.getD_eq_getElem?_getD, List.getElem?_eq_getElem (by omega)]
    exact List.getElem_mem _
  simp only [thL, List.mem_map, List.mem_range] at hm
  obtain ⟨p, h1, h2⟩ := hm
  exact ⟨p, h1, h2.symm⟩
theorem ord_nodup (ks : List ByteArray) (L : Nat) (hL : L ≤ 16) (i j : Nat) (hij : i < j) (hj : j < 2 ^ L) : ((gfold thB (thL ks (2 ^ L)) (gatesL L)).getD i default).2 ≠ ((gfold thB (thL ks (2 ^ L)) (gatesL L)).getD j default).2 := by
  have hp := (gates_perm thB L hL (thL ks (2 ^ L)) (thL_length _ _)).map Prod.snd
  have hl : (gfold thB (thL ks (2 ^ L)) (gatesL L)).length = 2 ^ L := by rw [gfold_length, thL_length]
  have hn : ((thL ks (2 ^ L)).map Prod.snd).Nodup := by
    have e : (thL ks (2 ^ L)).map Prod.snd = (List.range (2 ^ L)).map (fun i : Nat => (i : Int)) := by simp [thL, Function.comp_def]
    rw [e]
    exact List.Pairwise.map _ (fun a b h => by intro e; exact h (by omega)) List.nodup_range
  have hn2 := hp.nodup_iff.2 hn
  obtain ⟨out, ho⟩ : ∃ out, gfold thB (thL ks (2 ^ L)) (gatesL L) = out := ⟨_, rfl⟩
  rw [ho] at hn2 hl ⊢
  have h1 := List.pairwise_iff_getElem.1 hn2 i j (by simp; omega) (by simp; omega) hij
  have e1 : ∀ k, (hk : k < out.length) → out.getD k default = out[k] := fun k hk => by simp [List.getD_eq_getElem?_getD, hk]
  rw [e1 i (by omega), e1 j (by omega)]
  simpa using h1
theorem ord_rise (ks : List ByteArray) (L : Nat) (hL : L ≤ 16) (i j : Nat) (hij : i ≤ j) (hj : j < 2 ^ L) : thB ((gfold thB (thL ks (2 ^ L)) (gatesL L)).getD j default) ((gfold thB (thL ks (2 ^ L)) (gatesL L)).getD i default) = false :=
  gates_sort thB_odr L hL _ (thL_length _ _) i j hij hj
end Go.Proofs.Ythjjkfelpdkfpaa
