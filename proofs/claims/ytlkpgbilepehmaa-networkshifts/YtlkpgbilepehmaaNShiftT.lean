/- Layer network: Shift of Things. -/
import Derived.Test.YtlkpgbilepehmaaNWays
import Derived.Test.YtlkpgbilepehmaaNHopV
import Derived.Test.YtlkpgbilepehmaaNSort
import Derived.Test.YtlkpgbilepehmaaNFlatC
namespace Go.Proofs.Ytlkpgbilepehmaa
open Go.RowKit Go.Shelf
set_option linter.unusedVariables false
set_option linter.unusedSimpArgs false
attribute [local go_sem] Oper.semAt_some

/-- A hop, as the program does it. -/
def hopG (live : Nat → Bool) (P : Nat → Nat) (x : Int × Int) : Nat → Nat := if (bits .and .i64 ((wayO live (P x.1.toNat) : Nat) : Int) (x.1 - x.2) != 0) = true then swP P x.1.toNat x.2.toNat else P
def foldP (live : Nat → Bool) (gs : List (Int × Int)) : Nat → Nat := gs.foldl (hopG live) id
theorem foldP_snoc (live : Nat → Bool) (gs : List (Int × Int)) (x : Int × Int) : foldP live (gs ++ [x]) = hopG live (foldP live gs) x := by simp [foldP]
def TwoH (W : World) (B : Nat) (x : Int × Int) : Prop := W.heap[B]? = some (.cells #[.int .i64 x.1, .int .i64 x.2] 38 (0, 0))
theorem TwoH.lt {W : World} {B : Nat} {x : Int × Int} (h : TwoH W B x) : B < W.heap.size := (Array.getElem?_eq_some_iff.1 h).1
theorem TwoH.fst {W : World} {B : Nat} {x : Int × Int} (h : TwoH W B x) : W.cell? ⟨B, 0, none⟩ = some (.int .i64 x.1) := by simp [World.cell?, show W.heap[B]? = _ from h]
theorem TwoH.snd {W : World} {B : Nat} {x : Int × Int} (h : TwoH W B x) : W.cell? ⟨B, 1, none⟩ = some (.int .i64 x.2) := by simp [World.cell?, show W.heap[B]? = _ from h]
theorem twoH_own (B : Nat) (x : Int × Int) : Own (fun (_ : Unit) W => TwoH W B x) := fun s X Y row hs hg hrow =>
  (hg.block B (TwoH.lt hs) (fun e' => by obtain ⟨o, ho, hc⟩ := hrow B e'.symm; rw [show X.heap[B]? = _ from hs] at ho; cases ho; cases hc)).trans hs
theorem rowT_ownF {β : Type} {B g c : Nat} (f : β → List Thg) : OwnFrom B (fun s W => RowT W g c (f s)) := fun s X Y row hs hg hr =>
  hs.block (hg.block g hs.lt (fun e => by obtain ⟨_, o, h1, h2⟩ := hr g e.symm; obtain ⟨rest, _, h3⟩ := hs; rw [h3] at h1; cases h1; cases h2))
theorem hops_clG (n : Nat) (hn : n ≤ 65536) : List.map (clG n) (hopsL n) = hopsL n := by
  have hk : ∀ e, ∀ x ∈ hopsK n e, clG n x = x := by
    intro e
    induction e with
    | zero => intro x hx; simp [hopsK] at hx
    | succ e ih =>
      intro x hx
      rw [hopsK] at hx
      rcases List.mem_append.1 hx with h | h
      · exact ih x h
      · simp only [hopsD, List.mem_map, List.mem_range] at h
        obtain ⟨j, hj, rfl⟩ := h
        have hp : 0 < 2 ^ e := Nat.pow_pos (by decide)
        exact clG_id n (2 ^ e + j) j (by omega) (by omega) (by omega)
  exact (List.map_congr_left (hk 17)).trans (List.map_id _)
theorem keepsG {B g : Nat} {V V' : World} (h : V.grownBy V' (some g)) (hg : g < B) : KeepsFrom B V V' := (Above.grown h hg).keeps (Nat.le_refl _)
end Go.Proofs.Ytlkpgbilepehmaa
