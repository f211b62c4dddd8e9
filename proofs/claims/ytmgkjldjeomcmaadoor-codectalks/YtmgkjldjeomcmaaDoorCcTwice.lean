/- Layer codec: the statements' twice. -/
import Derived.Test.YtmgkjldjeomcmaaDoorRSpare
import Derived.Test.YtmgkjldjeomcmaaDoorRApart
import Derived.Test.YtmgkjldjeomcmaaDoorROut
import Derived.Test.YtmgkjldjeomcmaaDoorREqb
namespace Go.Proofs.YtmgkjldjeomcmaaDoor
open Go.RowKit
set_option linter.unusedVariables false
set_option linter.unusedSimpArgs false

/-- The two rows, as a lot; a slice's room may end at its length. -/
theorem lot2g {W : World} {o1 o2 : Option Addr} {n c1 c2 d1 d2 a b e : Nat} {L1 L2 : List Int} (h1 : Out W a b o1 n c1 L1) (h2 : Out W b e o2 n c2 L2) (e1 : d1 = c1 ∨ d1 = n) (e2 : d2 = c2 ∨ d2 = n) (hab : a ≤ b) (hde : b ≤ e) (he : e ≤ W.heap.size) :
    Lot (W.alloc (.cells #[.slice o1 n d1, .slice o2 n d2] 24)) W.heap.size 2 (fun j => [o1, o2].getD j none) (fun j => [n, n].getD j 0) (fun j => [d1, d2].getD j 0) (fun j => [c1, c2].getD j 0) (fun j => [L1, L2].getD j []) ∧
    ∀ y, LotS 2 (fun j => [o1, o2].getD j none) y → a ≤ y ∧ y < e := by
  have l := (Below.refl W.heap.size W).alloc (Nat.le_refl _) (.cells #[.slice o1 n d1, .slice o2 n d2] 24)
  have hp : ∀ j g, j < 2 → [o1, o2].getD j none = some ⟨g, 0, none⟩ → [a, b].getD j 0 ≤ g ∧ g < [b, e].getD j 0 := by
    intro j g hj e1
    rcases (by omega : j = 0 ∨ j = 1) with rfl | rfl
    · exact h1.place g 0 e1
    · exact h2.place g 0 e1
  have hr : ∀ j g, j < 2 → [o1, o2].getD j none = some ⟨g, 0, none⟩ → a ≤ g ∧ g < e := by
    intro j g hj e1
    have := hp j g hj e1
    rcases (by omega : j = 0 ∨ j = 1) with rfl | rfl <;> simp at this <;> omega
  refine ⟨⟨World.block_lt_of_cell? _ _ (cell_two W _ _ _ 0 (by decide)), fun j hj => ?_, fun j hj => ?_, fun j hj => ?_, fun j j' g hj hj' e1 e2 => ?_, fun j g hj e1 => ?_⟩, fun y ⟨j, hj, e1⟩ => hr j y hj e1⟩
  · rw [cell_two _ _ _ _ j hj]
    rcases (by omega : j = 0 ∨ j = 1) with rfl | rfl <;> rfl
  · rcases (by omega : j = 0 ∨ j = 1) with rfl | rfl
    · exact (h1.later l).own
    · exact (h2.later l).own
  · rcases (by omega : j = 0 ∨ j = 1) with rfl | rfl
    · exact e1
    · exact e2
  · have p1 := hp j g hj e1
    have p2 := hp j' g hj' e2
    rcases (by omega : j = 0 ∨ j = 1) with rfl | rfl <;> rcases (by omega : j' = 0 ∨ j' = 1) with rfl | rfl <;> first | rfl | (simp at p1 p2; omega)
  · have := hr j g hj e1
    omega
set_option maxRecDepth 20000 in
set_option maxHeartbeats 4000000 in
theorem twice_any (ao bo wo so : Option Addr) (n ca cb da db cw k sc g p q r : Nat) (L zs : List Int) (W : World) (h1 : Out W p q ao n ca L) (h2 : Out W q r bo n cb L) (e1 : da = ca ∨ da = n) (e2 : db = cb ∨ db = n) (hpq : p ≤ q) (hqr : q ≤ r) (hr : r ≤ W.heap.size) (hw : Seen W wo n L)
    (hg : Blk W g 5 (u8s (spared zs))) (hgp : g < p) (hs : Seen W so k zs) (hsp : 0 < k → ∀ b o, so = some ⟨b, o, none⟩ → b < p) (hn : n ≤ 1000) (hk : k ≤ 140737488351232) :
    Calls Tryd.prog 22 #[.slice ao n da, .slice bo n db, .slice wo n cw, .slice (some ⟨g, 0, none⟩) k (k + 80), .slice so k sc] W fun e w' => e = .returned (.bool true) ∧ Kept (fun y => p ≤ y ∧ y < r) W w' := by
  have HE : Hid (∀ W vo uo (c1 c2 : Nat), Seen W vo n L → Seen W uo n L → Calls Tryd.prog 12 #[.slice vo n c1, .slice uo n c2] W fun e w' => e = .returned (.bool true) ∧ Below W.heap.size W w') := fun W vo uo c1 c2 h1 h2 => (reqb_any vo uo n n c1 c2 L L W h1 h2).mono fun e w' h => by
    obtain ⟨rfl, k, rfl⟩ := h
    exact ⟨by rw [decide_eq_true rfl], below_dn (Below.refl _ _) k⟩
  have HK : Hid (∀ W, Blk W g 5 (u8s (spared zs)) → Seen W so k zs → Calls Tryd.prog 43 #[.slice (some ⟨g, 0, none⟩) k (k + 80), .slice so k sc] W fun e w' => e = .returned (.bool true) ∧ Below W.heap.size W w') := fun W h1 h2 => (kept_big g so k sc zs W h1 h2 hk).mono fun e w' h => by
    obtain ⟨rfl, k, rfl⟩ := h
    exact ⟨rfl, below_dn (Below.refl _ _) k⟩
  have HX : Hid (Out W p q ao n ca L ∧ Out W q r bo n cb L ∧ Seen W wo n L ∧ Blk W g 5 (u8s (spared zs)) ∧ Seen W so k zs) := ⟨h1, h2, hw, hg, hs⟩
  have HS : Hid (0 < k → ∀ b o, so = some ⟨b, o, none⟩ → b < p) := hsp
  have hbs := fun w => obs2 ao bo n n da db w
  have HEE : Hid ((da = ca ∨ da = n) ∧ (db = cb ∨ db = n)) := ⟨e1, e2⟩
  clear h1 h2 hw hg hs hsp e1 e2
  go_enter Tryd.func22, Tryd.ntmps22
  go_wp2_with fail
  refine (HE.out _ _ _ _ _ HX.out.1.seen HX.out.2.2.1).mono ?_
  rintro e W1 ⟨rfl, l1⟩
  have B1 : Hid (Below W.heap.size W W1) := l1
  clear l1
  go_wp2_with fail
  refine (HE.out _ _ _ _ _ (HX.out.2.1.later B1.out).seen (HX.out.2.2.1.later B1.out (Nat.le_refl _))).mono ?_
  rintro e W2 ⟨rfl, l2⟩
  have B2 : Hid (Below W.heap.size W W2) := below_chain B1.out l2 B1.out.size
  clear l2 B1
  go_wp2_with fail
  refine (HK.out _ (HX.out.2.2.2.1.later B2.out HX.out.2.2.2.1.lt) (HX.out.2.2.2.2.later B2.out (Nat.le_refl _))).mono ?_
  rintro e W3 ⟨rfl, l3⟩
  have B3 : Hid (Below W.heap.size W W3) := below_chain B2.out l3 B2.out.size
  clear l3 B2
  go_wp2_with fail
  obtain ⟨LT1, LT2⟩ := lot2g (HX.out.1.later B3.out) (HX.out.2.1.later B3.out) HEE.out.1 HEE.out.2 hpq hqr (by have := B3.out.size; omega)
  refine (rapart_any W3.heap.size 2 2 _ _ _ _ _ _ LT1 (by decide) (fun j hj => by rcases (by omega : j = 0 ∨ j = 1) with rfl | rfl <;> simp <;> omega)).mono ?_
  rintro e W4 ⟨rfl, k4⟩
  have K4 : Hid (Kept (fun y => p ≤ y ∧ y < r) W W4) := (Kept.new _ (below_chain B3.out ((Below.refl W3.heap.size W3).alloc (Nat.le_refl _) _) B3.out.size)).trans (k4.mono LT2)
  clear k4 LT1 LT2 B3 hbs
  go_wp2_with fail
  refine (HK.out _ (HX.out.2.2.2.1.kept K4.out (by show ¬ (p ≤ g ∧ g < r); omega)) (HX.out.2.2.2.2.kept K4.out (fun b o h0 e h => by have := HS.out h0 b o e; have h' : p ≤ b ∧ b < r := h; omega))).mono ?_
  rintro e W5 ⟨rfl, l5⟩
  have K5 : Hid (Kept (fun y => p ≤ y ∧ y < r) W W5) := K4.out.trans (Kept.new _ l5)
  clear l5 K4
  go_wp2_with fail
  go_ret
  exact ⟨rfl, K5.out⟩
end Go.Proofs.YtmgkjldjeomcmaaDoor
