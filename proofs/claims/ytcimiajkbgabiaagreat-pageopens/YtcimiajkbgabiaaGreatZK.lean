/- Joined texts: PLot PSheetIn. -/
import Derived.Test.YtcimiajkbgabiaaGreatZJ
import Derived.Test.YtcimiajkbgabiaaGreatZF
import Derived.ProofKit
import Derived.OpenShut
import Derived.ShutString
import Derived.ChangeOld
import Derived.SizedLaws
namespace Go.Proofs.YtcimiajkbgabiaaGreat
open Go.RowKit
set_option linter.unusedVariables false
set_option linter.unusedSimpArgs false

/-- What Seal answers: a page, or a refusal. -/
def Qg (key : List Int) (r c p q : Int) (m : Nat) (zs : List Int) (K : Nat) (E : Int) (R : List Int) : Prop := (m ≤ 4096 ∧ K = m + 28 ∧ E = 0 ∧ R = pageL key r c p q zs) ∨ (4096 < m ∧ K = 0 ∧ E = 3 ∧ R = [])
theorem qg_ex (key : List Int) (r c p q : Int) (m : Nat) : ∃ K E, K ≤ 4124 ∧ ∀ zs, ∃ R, Qg key r c p q m zs K E R := by
  by_cases h : m ≤ 4096
  · exact ⟨m + 28, 0, by omega, fun zs => ⟨_, .inl ⟨h, rfl, rfl, rfl⟩⟩⟩
  · exact ⟨0, 3, by omega, fun zs => ⟨_, .inr ⟨by omega, rfl, rfl, rfl⟩⟩⟩
theorem out_nil (W : World) (a b : Nat) : Out W a b none 0 0 [] := ⟨World.ownsRow_nil _ _ _ _, Seen.empty _ _, fun b o e => (by cases e), fun _ => rfl⟩
theorem ps_out (key : List Int) (r c p q : Int) (bo : Option Addr) (m d : Nat) (zs : List Int) (K : Nat) (E : Int) (R : List Int) (hQ : Qg key r c p q m zs K E R) (hk : key.length = 32) (hkb : Bytes key) (hr : Word r) (hc : U32 c) (hp : U32 p) (hq : U32 q) (w : World) (hy : Seen w bo m zs) (hd : m ≤ d) :
    Calls Tryz.prog 7 #[.agg (u8s key).toArray, .agg (placeC r c p q).toArray, .slice bo m d] w fun e w' => ∃ vo cap, e = .returned (.tuple #[.slice vo K cap, .int .i64 E]) ∧ Out w' w.heap.size w'.heap.size vo K cap R ∧ Below w.heap.size w w' := by
  rcases hQ with ⟨h1, hK, hE, hR⟩ | ⟨hb, hK, hE, hR⟩
  · subst hK hE hR
    refine (pseal_any key r c p q bo m d zs hk hkb hr hc hp hq h1 w hy hd).mono ?_
    rintro e w1 ⟨v, rfl, o1, l1⟩
    obtain ⟨vo, cap, rfl, u⟩ := out_of (by rw [pageL_length, hy.len]) (pageL_bytes _ _ _ _ _ hy.bytes) (by omega) o1
    exact ⟨vo, cap, rfl, u, l1⟩
  · subst hK hE hR
    refine (pseal_bad key r c p q bo m d hy.top hb w).mono ?_
    rintro e w1 ⟨rfl, l1⟩
    exact ⟨none, 0, rfl, out_nil _ _ _, l1⟩
theorem rps_out (key : List Int) (r c p q : Int) (bo : Option Addr) (m d : Nat) (zs : List Int) (K : Nat) (E : Int) (R : List Int) (hQ : Qg key r c p q m zs K E R) (hk : key.length = 32) (hkb : Bytes key) (hr : Word r) (hc : U32 c) (hp : U32 p) (hq : U32 q) (w : World) (hy : Seen w bo m zs) (hd : m ≤ d) :
    Calls Tryz.prog 5 #[.agg (u8s key).toArray, .agg (placeC r c p q).toArray, .slice bo m d] w fun e w' => ∃ vo cap, e = .returned (.tuple #[.slice vo K cap, .int .i64 E]) ∧ Seen w' vo K R ∧ Below w.heap.size w w' := by
  rcases hQ with ⟨h1, hK, hE, hR⟩ | ⟨hb, hK, hE, hR⟩
  · subst hK hE hR
    refine (rpseal_any key r c p q bo m d zs hk hkb hr hc hp hq h1 w hy hd).mono ?_
    rintro e w1 ⟨v, rfl, o1, l1⟩
    obtain ⟨vo, cap, rfl, u, _⟩ := pown_sl (by rw [pageL_length, hy.len]) (pageL_bytes _ _ _ _ _ hy.bytes) (by omega) o1
    exact ⟨vo, cap, rfl, u, l1⟩
  · subst hK hE hR
    refine (rpseal_bad key r c p q bo m d hy.top hb w).mono ?_
    rintro e w1 ⟨rfl, l1⟩
    exact ⟨none, 0, rfl, Seen.empty _ _, l1⟩
/-- What Open answers: a text, or a refusal. -/
def Qh (key : List Int) (r c p q : Int) (m : Nat) (zs : List Int) (K : Nat) (E : Int) (R : List Int) : Prop := (pOpens key r c p q zs = true ∧ K = m - 28 ∧ E = 0 ∧ R = pText key r c zs) ∨ (pOpens key r c p q zs = false ∧ K = 0 ∧ E = 120 ∧ R = [])
theorem qh_ex (key : List Int) (r c p q : Int) (m : Nat) (zs : List Int) (hl : zs.length = m) : ∃ K E R, K ≤ 4096 ∧ Qh key r c p q m zs K E R := by
  cases h : pOpens key r c p q zs with
  | true => exact ⟨m - 28, 0, _, by have := (pOpens_len h).2.1; omega, .inl ⟨h, rfl, rfl, rfl⟩⟩
  | false => exact ⟨0, 120, _, by omega, .inr ⟨h, rfl, rfl, rfl⟩⟩
theorem ptext_len {key : List Int} {r c p q : Int} {zs : List Int} (hb : Bytes zs) (hr : Word r) (hc : U32 c) (h : pOpens key r c p q zs = true) : (pText key r c zs).length = zs.length - 28 ∧ Bytes (pText key r c zs) := by
  have h1 := page_text hb hr hc h
  have h2 := pageL_length key r c p q (pText key r c zs)
  rw [h1] at h2
  exact ⟨by omega, textL_bytes _ _ (bytes_drop hb _)⟩
theorem po_out (key : List Int) (r c p q : Int) (bo : Option Addr) (m d : Nat) (zs : List Int) (K : Nat) (E : Int) (R : List Int) (hQ : Qh key r c p q m zs K E R) (hk : key.length = 32) (hkb : Bytes key) (hr : Word r) (hc : U32 c) (hp : U32 p) (hq : U32 q) (w : World) (hy : Seen w bo m zs) (hd : m ≤ d) :
    Calls Tryz.prog 15 #[.agg (u8s key).toArray, .agg (placeC r c p q).toArray, .slice bo m d] w fun e w' => ∃ vo cap, e = .returned (.tuple #[.slice vo K cap, .int .i64 E]) ∧ Out w' w.heap.size w'.heap.size vo K cap R ∧ Below w.heap.size w w' := by
  rcases hQ with ⟨h1, hK, hE, hR⟩ | ⟨hb, hK, hE, hR⟩
  · subst hK hE hR
    have hl := ptext_len hy.bytes hr hc h1
    refine (popen_good key r c p q bo m d zs hk hkb hr hc hp hq w hy hd h1).mono ?_
    rintro e w1 ⟨v, rfl, o1, l1⟩
    obtain ⟨vo, cap, rfl, u⟩ := out_of (by rw [hl.1, hy.len]) hl.2 (by have := hy.top; omega) o1
    exact ⟨vo, cap, rfl, u, l1⟩
  · subst hK hE hR
    refine (popen_bad key r c p q bo m d zs hk hkb hr hc hp hq w hy hd hb).mono ?_
    rintro e w1 ⟨rfl, l1⟩
    exact ⟨none, 0, rfl, out_nil _ _ _, l1⟩
theorem rpo_out (key : List Int) (r c p q : Int) (bo : Option Addr) (m d : Nat) (zs : List Int) (K : Nat) (E : Int) (R : List Int) (hQ : Qh key r c p q m zs K E R) (hk : key.length = 32) (hkb : Bytes key) (hr : Word r) (hc : U32 c) (hp : U32 p) (hq : U32 q) (w : World) (hy : Seen w bo m zs) (hd : m ≤ d) :
    Calls Tryz.prog 13 #[.agg (u8s key).toArray, .agg (placeC r c p q).toArray, .slice bo m d] w fun e w' => ∃ vo cap, e = .returned (.tuple #[.slice vo K cap, .int .i64 E]) ∧ Seen w' vo K R ∧ Below w.heap.size w w' := by
  rcases hQ with ⟨h1, hK, hE, hR⟩ | ⟨hb, hK, hE, hR⟩
  · subst hK hE hR
    have hl := ptext_len hy.bytes hr hc h1
    refine (rpopen_good key r c p q bo m d zs hk hkb hr hc hp hq w hy hd h1).mono ?_
    rintro e w1 ⟨v, rfl, o1, l1⟩
    obtain ⟨vo, cap, rfl, u, _⟩ := pown_sl (by rw [hl.1, hy.len]) hl.2 (by have := hy.top; omega) o1
    exact ⟨vo, cap, rfl, u, l1⟩
  · subst hK hE hR
    refine (rpopen_bad key r c p q bo m d zs hk hkb hr hc hp hq w hy hd hb).mono ?_
    rintro e w1 ⟨rfl, l1⟩
    exact ⟨none, 0, rfl, Seen.empty _ _, l1⟩
/-- What Head answers. -/
def Qt (m : Nat) (zs : List Int) (A C E : Int) : Prop := (28 ≤ m ∧ A = tellR zs ∧ C = tellC zs ∧ E = 0) ∨ (m < 28 ∧ A = 0 ∧ C = 0 ∧ E = 20)
theorem qt_ex (m : Nat) (zs : List Int) : ∃ A C E, Qt m zs A C E := by
  by_cases h : 28 ≤ m
  · exact ⟨_, _, _, .inl ⟨h, rfl, rfl, rfl⟩⟩
  · exact ⟨_, _, _, .inr ⟨by omega, rfl, rfl, rfl⟩⟩
theorem ph_out (bo : Option Addr) (m d : Nat) (zs : List Int) (A C E : Int) (hQ : Qt m zs A C E) (w : World) (hy : Seen w bo m zs) (hd : m ≤ d) :
    Calls Tryz.prog 16 #[.slice bo m d] w fun e w' => e = .returned (.tuple #[.int .u64 A, .int .u32 C, .int .i64 E]) ∧ Below w.heap.size w w' := by
  rcases hQ with ⟨h1, hA, hC, hE⟩ | ⟨hb, hA, hC, hE⟩
  · subst hA hC hE
    exact phead_any bo m d zs w hy h1 hd
  · subst hA hC hE
    refine (phead_bad bo m d hb w).mono ?_
    rintro e w1 ⟨rfl, rfl⟩
    exact ⟨rfl, Below.refl _ _⟩
theorem rph_out (bo : Option Addr) (m d : Nat) (zs : List Int) (A C E : Int) (hQ : Qt m zs A C E) (w : World) (hy : Seen w bo m zs) (hd : m ≤ d) :
    Calls Tryz.prog 14 #[.slice bo m d] w fun e w' => e = .returned (.tuple #[.int .u64 A, .int .u32 C, .int .i64 E]) ∧ Below w.heap.size w w' := by
  rcases hQ with ⟨h1, hA, hC, hE⟩ | ⟨hb, hA, hC, hE⟩
  · subst hA hC hE
    exact rphead_any bo m d zs w hy h1 hd
  · subst hA hC hE
    refine (rphead_bad bo m d hb w).mono ?_
    rintro e w1 ⟨rfl, rfl⟩
    exact ⟨rfl, Below.refl _ _⟩
/-- A list that was lent, and nothing old was touched. -/
structure Sp (w1 W : World) (gT : Nat) (xs : List Int) : Prop where
  tx : Blk W gT 5 (u8s (spared xs))
  bel : Below w1.heap.size w1 W
theorem Sp.later {w1 W W' : World} {gT : Nat} {xs : List Int} (h : Sp w1 W gT xs) (l : Below W.heap.size W W') : Sp w1 W' gT xs := ⟨h.tx.later l h.tx.lt, below_chain h.bel l h.bel.size⟩
theorem Sp.dn {w1 W : World} {gT : Nat} {xs : List Int} (h : Sp w1 W gT xs) (q : Nat) : Sp w1 (W.drewN q) gT xs := h.later (below_dn (Below.refl _ _) q)
theorem Sp.seen {w1 W : World} {gT m : Nat} {xs : List Int} (h : Sp w1 W gT xs) (hl : xs.length = m) (hb : Bytes xs) (hm : m ≤ 140737488351232) : Seen W (some ⟨gT, 0, none⟩) m xs := by
  have q := spared_big h.tx hb (by omega)
  rwa [hl] at q
theorem Sp.out {w1 W : World} {gT m : Nat} {xs : List Int} (h : Sp w1 W gT xs) (hl : xs.length = m) (hb : Bytes xs) (hm : m ≤ 140737488351232) : Out W gT (gT + 1) (some ⟨gT, 0, none⟩) m (m + 80) xs :=
  ⟨⟨by rw [List.length_map, hl, Nat.mul_one], .inr ⟨gT, m + 80, _, rfl, Nat.zero_le _, h.tx, by omega, by unfold maxLen; omega, by simp [u8s, spared_length, hl], by
    rw [Nat.mul_one, spared, u8s, List.map_append]
    exact List.take_left' (by rw [List.length_map]; exact hl)⟩⟩, h.seen hl hb hm, fun b o e => (by cases e; exact ⟨Nat.le_refl _, Nat.lt_succ_self _⟩), fun e => (by cases e)⟩
theorem bsq4 (s1 s2 s3 s4 : Option Addr) (n1 n2 n3 n4 c1 c2 c3 c4 : Nat) (w : World) : (Instr.buildSlice 37 4 #[(0, .slice s1 n1 c1), (1, .slice s2 n2 c2), (2, .slice s3 n3 c3), (3, .slice s4 n4 c4)]).run Tryz.prog w = .ok (.slice (some ⟨w.heap.size, 0, none⟩) 4 4) (w.alloc (.cells #[.slice s1 n1 c1, .slice s2 n2 c2, .slice s3 n3 c3, .slice s4 n4 c4] 28)) := by kernel_rfl
theorem cell_four (w : World) (x y z u : Value) (t : TypeId) (j : Nat) (hj : j < 4) : (w.alloc (.cells #[x, y, z, u] t)).cell? ⟨w.heap.size, j, none⟩ = some ([x, y, z, u].getD j undef) := by
  have h : (w.alloc (.cells #[x, y, z, u] t)).heap[w.heap.size]? = some (.cells [x, y, z, u].toArray t (0, 0)) := heap_alloc_new w _
  rw [cell_of_row _ _ j _ t (0, 0) h]
  rcases (by omega : j = 0 ∨ j = 1 ∨ j = 2 ∨ j = 3) with rfl | rfl | rfl | rfl <;> rfl
/-- Four rows, as a lot. -/
theorem lot4 {W : World} {o1 o2 o3 o4 : Option Addr} {n1 n2 n3 n4 c1 c2 c3 c4 a1 b1 a2 b2 a3 b3 a4 b4 : Nat} {L1 L2 L3 L4 : List Int} (h1 : Out W a1 b1 o1 n1 c1 L1) (h2 : Out W a2 b2 o2 n2 c2 L2) (h3 : Out W a3 b3 o3 n3 c3 L3) (h4 : Out W a4 b4 o4 n4 c4 L4)
    (d12 : b1 ≤ a2) (d23 : b2 ≤ a3) (d41 : b4 ≤ a1) (i1 : a1 ≤ b1) (i2 : a2 ≤ b2) (i3 : a3 ≤ b3) (i4 : a4 ≤ b4) (he : b3 ≤ W.heap.size) :
    Lot (W.alloc (.cells #[.slice o1 n1 c1, .slice o2 n2 c2, .slice o3 n3 c3, .slice o4 n4 c4] 28)) W.heap.size 4 (fun j => [o1, o2, o3, o4].getD j none) (fun j => [n1, n2, n3, n4].getD j 0) (fun j => [c1, c2, c3, c4].getD j 0) (fun j => [c1, c2, c3, c4].getD j 0) (fun j => [L1, L2, L3, L4].getD j []) ∧
    ∀ y, LotS 4 (fun j => [o1, o2, o3, o4].getD j none) y → a4 ≤ y ∧ y < b3 := by
  have l := (Below.refl W.heap.size W).alloc (Nat.le_refl _) (.cells #[.slice o1 n1 c1, .slice o2 n2 c2, .slice o3 n3 c3, .slice o4 n4 c4] 28)
  have hp : ∀ j g, j < 4 → [o1, o2, o3, o4].getD j none = some ⟨g, 0, none⟩ → [a1, a2, a3, a4].getD j 0 ≤ g ∧ g < [b1, b2, b3, b4].getD j 0 := by
    intro j g hj e1
    rcases (by omega : j = 0 ∨ j = 1 ∨ j = 2 ∨ j = 3) with rfl | rfl | rfl | rfl
    · exact h1.place g 0 e1
    · exact h2.place g 0 e1
    · exact h3.place g 0 e1
    · exact h4.place g 0 e1
  refine ⟨⟨World.block_lt_of_cell? _ _ (cell_four W _ _ _ _ _ 0 (by decide)), fun j hj => ?_, fun j hj => ?_, fun j hj => .inl rfl, fun j j' g hj hj' e1 e2 => ?_, fun j g hj e1 => ?_⟩, fun y ⟨j, hj, e1⟩ => ?_⟩
  · rw [cell_four _ _ _ _ _ _ j hj]
    rcases (by omega : j = 0 ∨ j = 1 ∨ j = 2 ∨ j = 3) with rfl | rfl | rfl | rfl <;> rfl
  · rcases (by omega : j = 0 ∨ j = 1 ∨ j = 2 ∨ j = 3) with rfl | rfl | rfl | rfl
    · exact (h1.later l).own
    · exact (h2.later l).own
    · exact (h3.later l).own
    · exact (h4.later l).own
  · have p1 := hp j g hj e1
    have p2 := hp j' g hj' e2
    rcases (by omega : j = 0 ∨ j = 1 ∨ j = 2 ∨ j = 3) with rfl | rfl | rfl | rfl <;> rcases (by omega : j' = 0 ∨ j' = 1 ∨ j' = 2 ∨ j' = 3) with rfl | rfl | rfl | rfl <;> first | rfl | (simp at p1 p2; omega)
  · have := hp j g hj e1
    rcases (by omega : j = 0 ∨ j = 1 ∨ j = 2 ∨ j = 3) with rfl | rfl | rfl | rfl <;> simp at this <;> omega
  · have := hp j y hj e1
    rcases (by omega : j = 0 ∨ j = 1 ∨ j = 2 ∨ j = 3) with rfl | rfl | rfl | rfl <;> simp at this <;> omega
end Go.Proofs.YtcimiajkbgabiaaGreat

namespace Go.Proofs.YtcimiajkbgabiaaGreat
open Go.ChangeShapes Go.WideShapes Go.ChangeAt Go.RowKit
set_option linter.unusedVariables false
set_option linter.unusedSimpArgs false

theorem pOwn : ownKnob Tryz.prog.godebug = none := by kernel_rfl
theorem pLaidOut : laidOutB Tryz.prog = true := by kernel_rfl
theorem pBytesOf : Tryz.prog.bytesOf 5 = 1 := by kernel_rfl
theorem pCellsByte : Tryz.prog.cellsOf 5 = 1 := by kernel_rfl
theorem pCellsKey : Tryz.prog.cellsOf 23 = 32 := by kernel_rfl
theorem pCellsPlace : Tryz.prog.cellsOf 27 = 4 := by kernel_rfl
theorem pCellsSheet : Tryz.prog.cellsOf 30 = 37 := by kernel_rfl
theorem pCellsU : Tryz.prog.cellsOf 24 = 1 := by kernel_rfl
theorem pCellsV : Tryz.prog.cellsOf 25 = 1 := by kernel_rfl
theorem pCellsL : Tryz.prog.cellsOf 28 = 1 := by kernel_rfl
def pUnByte : Value → Int
  | .int _ z => z
  | _ => 0
/-- An array of bytes, opened. -/
theorem pBytes_arr {H : Type} {enc : TypeId × Value → H} {W : World} {base : Nat} {sp : Nat → Bool} {held : Bool} {fuel n : Nat} {t : TypeId} {cs : List Value} {x : DataW H × List MemPlace} (ht : Tryz.prog.underlying t = some (.array n 5)) (hn : Tryz.prog.cellsOf t = n)
    (h : DataW.trod enc Tryz.prog W base sp held fuel t cs = some x) : ∃ zs : List Int, cs = u8s zs ∧ zs.length = n ∧ Bytes zs := by
  obtain ⟨xs, m, _, _, hlen, hxl, hf⟩ := DataW.trod_array ht h
  have hc : cs.length = n := hlen.trans hn
  have key : ∀ i, (hi : i < cs.length) → ∃ z, cs[i] = .int .u8 z ∧ 0 ≤ z ∧ z < 256 := by
    intro i hi
    have h1 := hf i (by omega)
    rw [pCellsByte, Nat.mul_one, List.getElem?_eq_getElem (by omega)] at h1
    obtain ⟨z, hz, _, hw⟩ := DataW.trod_int Tryz.underlying5 h1
    refine ⟨z, ?_, byte_of_wf hw⟩
    rw [List.drop_eq_getElem_cons hi, List.take_succ_cons, List.take_zero] at hz
    exact (List.cons.inj hz).1
  refine ⟨cs.map pUnByte, ?_, by simpa using hc, ?_⟩
  · apply List.ext_getElem
    · simp [u8s]
    · intro i h1 h2
      obtain ⟨z, hz, _⟩ := key i h1
      simp [u8s, hz, pUnByte]
  · intro z hz
    obtain ⟨v, hv, rfl⟩ := List.mem_map.1 hz
    obtain ⟨i, hi, rfl⟩ := List.mem_iff_getElem.1 hv
    obtain ⟨z, hz, hb⟩ := key i hi
    rw [hz]; exact hb
/-- A list in a field. -/
theorem pList_in {H : Type} {enc : TypeId × Value → H} {W : World} {fuel : Nat} {v : Value} {y : DataW H × List MemPlace} (h : DataW.trod enc Tryz.prog W 0 (fun _ => true) true fuel 28 [v] = some y)
    (hs : ∀ elems spare, y.1 = .slice elems spare → (elems.length + spare.length) * Tryz.prog.bytesOf 5 ≤ reachBytes) : ∃ ao n c zs, v = .slice ao n c ∧ Seen W ao n zs ∧ n ≤ c ∧ (ao = none → c = 0) ∧ n ≤ 140737488351232 := by
  rcases open_ints Tryz.underlying28 Tryz.underlying5 (by kernel_rfl) h with ⟨hcs, _⟩ | ⟨x, l, c, zs, hcs, _, hl, hm, hz, hx, hcell, hwz⟩
  · simp at hcs
    subst hcs
    exact ⟨none, 0, 0, [], rfl, Seen.empty _ _, Nat.le_refl _, fun _ => rfl, by decide⟩
  · simp at hcs
    subst hcs
    have hz' : zs.length = c := by simpa using hz
    have h1 := hs _ _ (by rw [hx])
    rw [pBytesOf] at h1
    simp only [lits, List.length_map, List.length_take, List.length_drop, reachBytes] at h1
    exact ⟨some x, l, c, _, rfl, Seen.of_ints (by omega) hl hz' hcell hwz, hl, fun h => (by cases h), by omega⟩
theorem pOne_cell (cs : List Value) (i : Nat) (hi : i < cs.length) : (cs.drop i).take 1 = [cs[i]] := by
  rw [List.drop_eq_getElem_cons hi, List.take_succ_cons, List.take_zero]
theorem pSized_head {H : Type} {t : TypeId} {ts : List TypeId} {d : DataW H} {ds : List (DataW H)} (h : (DataW.weightsEach Tryz.prog (t :: ts) (d :: ds)).all (· ≤ reachBytes) = true) : (DataW.weightsEach Tryz.prog [t] [d]).all (· ≤ reachBytes) = true := by
  simp only [DataW.weightsEach, List.all_append, Bool.and_eq_true, List.append_nil] at h ⊢
  first | exact h.1 | exact ⟨h.1, rfl⟩ | simp_all
theorem pSized_in {H : Type} {y0 y1 y2 : DataW H} (h : (DataW.weightsEach Tryz.prog [30] [.agg [y0, y1, y2]]).all (· ≤ reachBytes) = true) :
    (∀ elems spare, y2 = .slice elems spare → (elems.length + spare.length) * Tryz.prog.bytesOf 5 ≤ reachBytes) := by
  rintro elems spare rfl
  simp only [DataW.weightsEach, DataW.weights, Tryz.underlying30, Tryz.underlying28, List.all_append, Bool.and_eq_true, List.map_cons, List.map_nil, List.all_cons, decide_eq_true_eq] at h
  simp_all
theorem u32_of_wf {x : Int} (h : (Lit.int .u32 x).wf = true) : U32 x := by
  simp [Lit.wf, IntKind.min, IntKind.max, IntKind.signed, IntKind.bits] at h
  exact ⟨by omega, by omega⟩
theorem place_in {H : Type} {enc : TypeId × Value → H} {W : World} {fuel : Nat} {cs : List Value} {x : DataW H × List MemPlace} (hl : cs.length = 4) (h : DataW.trod enc Tryz.prog W 0 (fun _ => true) true fuel 27 cs = some x) :
    ∃ r c p q, cs = placeC r c p q ∧ Word r ∧ U32 c ∧ U32 p ∧ U32 q := by
  match cs, hl with
  | [v0, v1, v2, v3], _ =>
    obtain ⟨xs, n, _, hx, hlen, hxl, hf⟩ := DataW.trod_struct Tryz.underlying27 h
    match xs, hxl with
    | [y0, y1, y2, y3], _ =>
      have f0 : DataW.trod enc Tryz.prog W 0 (fun _ => true) true n 24 [v0] = some y0 := by simpa [pCellsU, pCellsV] using hf 0 _ rfl
      have f1 : DataW.trod enc Tryz.prog W 0 (fun _ => true) true n 25 [v1] = some y1 := by simpa [pCellsU, pCellsV] using hf 1 _ rfl
      have f2 : DataW.trod enc Tryz.prog W 0 (fun _ => true) true n 25 [v2] = some y2 := by simpa [pCellsU, pCellsV] using hf 2 _ rfl
      have f3 : DataW.trod enc Tryz.prog W 0 (fun _ => true) true n 25 [v3] = some y3 := by simpa [pCellsU, pCellsV] using hf 3 _ rfl
      obtain ⟨a0, e0, _, w0⟩ := DataW.trod_int Tryz.underlying24 f0
      obtain ⟨a1, e1, _, w1⟩ := DataW.trod_int Tryz.underlying25 f1
      obtain ⟨a2, e2, _, w2⟩ := DataW.trod_int Tryz.underlying25 f2
      obtain ⟨a3, e3, _, w3⟩ := DataW.trod_int Tryz.underlying25 f3
      simp at e0 e1 e2 e3
      subst e0 e1 e2 e3
      exact ⟨a0, a1, a2, a3, rfl, word_of_wf w0, u32_of_wf w1, u32_of_wf w2, u32_of_wf w3⟩
theorem sheet_in {H : Type} {enc : TypeId × Value → H} {W : World} {fuel : Nat} {cs : List Value} {x : DataW H × List MemPlace} (h : DataW.trod enc Tryz.prog W 0 (fun _ => true) true fuel 30 cs = some x)
    (hsz : (DataW.weightsEach Tryz.prog [30] [x.1]).all (· ≤ reachBytes) = true) : ∃ s : Sh, cs = sheetC s ∧ ShIn W s ∧ s.m ≤ 140737488351232 := by
  obtain ⟨xs, n, _, hx, hlen, hxl, hf⟩ := DataW.trod_struct Tryz.underlying30 h
  rw [pCellsSheet] at hlen
  match xs, hxl with
  | [y0, y1, y2], _ =>
    have f0 : DataW.trod enc Tryz.prog W 0 (fun _ => true) true n 23 (cs.take 32) = some y0 := by simpa [pCellsKey] using hf 0 _ rfl
    have f1 : DataW.trod enc Tryz.prog W 0 (fun _ => true) true n 27 ((cs.drop 32).take 4) = some y1 := by simpa [pCellsKey, pCellsPlace] using hf 1 _ rfl
    have f2 : DataW.trod enc Tryz.prog W 0 (fun _ => true) true n 28 ((cs.drop 36).take 1) = some y2 := by simpa [pCellsKey, pCellsPlace, pCellsL] using hf 2 _ rfl
    obtain ⟨key, e0, l0, b0⟩ := pBytes_arr Tryz.underlying23 pCellsKey f0
    obtain ⟨r, c, p, q, e1, hr, hc, hp, hq⟩ := place_in (by simp; omega) f1
    rw [pOne_cell cs 36 (by omega)] at f2
    have hz : (DataW.weightsEach Tryz.prog [30] [.agg [y0.1, y1.1, y2.1]]).all (· ≤ reachBytes) = true := by
      have e : x.1 = .agg [y0.1, y1.1, y2.1] := by rw [hx]; simp
      rw [← e]; exact hsz
    obtain ⟨bo, m, d, zs, ez, hzs, hd, hn, hm⟩ := pList_in f2 (pSized_in hz)
    refine ⟨⟨key, r, c, p, q, bo, m, d, zs⟩, ?_, ⟨l0, b0, hr, hc, hp, hq, hzs, hd, hn⟩, hm⟩
    rw [sheetC, ← e0, ← e1, ← ez]
    have d1 : cs.drop 36 = [cs[36]] := by
      rw [List.drop_eq_getElem_cons (by omega), List.drop_eq_nil_of_le (by omega)]
    have d2 : cs.drop 32 = (cs.drop 32).take 4 ++ cs.drop 36 := by
      have := (List.take_append_drop 4 (cs.drop 32)).symm
      rwa [List.drop_drop] at this
    rw [← d1, ← d2, List.take_append_drop]
def zeroSh : Sh := ⟨List.replicate 32 0, 0, 0, 0, 0, none, 0, 0, []⟩
end Go.Proofs.YtcimiajkbgabiaaGreat
