/- The walk of SealSeals. -/
import Derived.Test.YtogplebajpdmoaaRLTag
import Derived.Test.YtogplebajpdmoaaRApart
import Derived.Test.YtogplebajpdmoaaStrOnceW
import Derived.Test.YtogplebajpdmoaaBL
import Derived.Test.YtogplebajpdmoaaBU
namespace Go.Proofs.Ytogplebajpdmoaa
open Go.RowKit
set_option linter.unusedVariables false
set_option linter.unusedSimpArgs false

theorem spared_big {w : World} {g : Nat} {zs : List Int} (h : Blk w g 5 (u8s (spared zs))) (hb : Bytes zs) (ht : zs.length ≤ 140737488351232) : Seen w (some ⟨g, 0, none⟩) zs.length zs :=
  ⟨rfl, by omega, hb, fun _ => ⟨g, 0, rfl, h.lt, fun i hi => by rw [Nat.zero_add, u8s_cell h i (by rw [spared_length]; omega), spared_front zs i hi]⟩⟩
set_option maxHeartbeats 1000000 in
set_option maxRecDepth 20000 in
theorem spare_big (ao : Option Addr) (n c : Nat) (zs : List Int) (w : World) (hx : Seen w ao n zs) (hn : n ≤ 140737488351232) :
    Calls Try.prog 17 #[.slice ao n c] w fun e w' => e = .returned (.slice (some ⟨w.heap.size, 0, none⟩) n (n + 80)) ∧ Blk w' w.heap.size 5 (u8s (spared zs)) ∧ w'.heap.size = w.heap.size + 1 ∧ Below w.heap.size w w' := by
  have HL : Hid (zs.length = n) := hx.len
  have HX : Hid (Seen w ao n zs) := hx
  obtain ⟨i0, hi, hz0, hz1, hz2⟩ := info_parts info_byte
  have hmk := run_make (P := Try.prog) w 31 5 i0 (.int .u8 0) Try.underlying31 hi hz0 .i64 .i64 ((n : Int) + 80) ((n : Int) + 80) (by omega) (Int.le_refl _) (by rw [hz2]; omega) (by omega)
  rw [hz1, show (((n : Int) + 80).toNat) = n + 80 by omega, Nat.mul_one, show (Value.int .u8 0).cells = #[.int .u8 0] from rfl, made_zero] at hmk
  obtain ⟨w1, hw1, HB⟩ : ∃ w1, w.alloc (.cells (u8s (List.replicate (n + 80) 0)).toArray 5) = w1 ∧ Hid (Blk w1 w.heap.size 5 (u8s (List.replicate (n + 80) 0)) ∧ Below w.heap.size w w1 ∧ w1.heap.size = w.heap.size + 1) := ⟨_, rfl, ⟨heap_alloc_new w _, (Below.refl _ _).alloc (Nat.le_refl _) _, by simp⟩⟩
  rw [hw1] at hmk
  clear hw1 hx hi hz0 hz1 hz2
  go_enter Try.func17, Try.ntmps17
  go_wp2
  go_loopw [4] (fun i wr => ∃ k : Nat, k ≤ n + 80 ∧ i = .int .i64 k ∧ Blk wr w.heap.size 5 (u8s ((spared zs).take k ++ List.replicate (n + 80 - k) 0)) ∧ Kept (fun b => b = w.heap.size) w1 wr ∧ wr.heap.size = w.heap.size + 1) (fun i _ => n + 80 - (intOf i).toNat)
  case atStart => exact ⟨0, Nat.zero_le _, rfl, HB.out.1, Kept.refl _ _, HB.out.2.2⟩
  case round =>
    obtain ⟨k, hk, rfl, hb, hkp, hws⟩ := hrel
    have hsl := spared_length zs
    have hl := HL.out
    by_cases hlt : k < n + 80
    · have cs := u8s_cell hb k (by simp [hsl]; omega)
      have fs := hb.frozen k
      have i1 : (0 : Int) ≤ (k : Int) := by omega
      have i2 : (k : Int) < (n : Int) + 80 := by omega
      have HT := take_next (spared zs) k (by omega) (n + 80 - (k + 1))
      rw [show n + 80 - (k + 1) + 1 = n + 80 - k by omega] at HT
      have HE : Hid (((spared zs).take k ++ List.replicate (n + 80 - k) 0).set k ((spared zs).getD k 0) = (spared zs).take (k + 1) ++ List.replicate (n + 80 - (k + 1)) 0) := HT
      have X0 : Hid (Blk wr w.heap.size 5 (u8s ((spared zs).take k ++ List.replicate (n + 80 - k) 0)) ∧ Kept (fun b => b = w.heap.size) w1 wr ∧ wr.heap.size = w.heap.size + 1) := ⟨hb, hkp, hws⟩
      by_cases hin : k < n
      · obtain ⟨b, o, rfl, hbl, hc⟩ := HX.out.cells (by omega)
        have c1 : wr.cell? ⟨b, o + k, none⟩ = some (.int .u8 (zs.getD k 0)) := (hkp.cell (p := ⟨b, o + k, none⟩) (by show b < _; have := HB.out.2.2; omega) (by show ¬ b = _; omega)).trans ((HB.out.2.1.cell (p := ⟨b, o + k, none⟩) hbl).trans (hc k hin))
        have HV : Hid ((spared zs).getD k 0 = zs.getD k 0) := spared_front zs k (by omega)
        obtain ⟨Z, hZ⟩ : ∃ Z, zs.getD k 0 = Z := ⟨_, rfl⟩
        rw [hZ] at c1 HV
        have i3 : (k : Int) < (n : Int) := by omega
        clear hb hkp hZ hc HT hsl hl hws
        go_wp2
        have R1 := X0.out.1.set k (.int .u8 Z)
        rw [u8s_set, ← HV.out, HE.out, HV.out] at R1
        exact ⟨⟨k + 1, by omega, by go_num, R1, X0.out.2.1.setCell (S := fun b => b = w.heap.size) rfl _, by have := X0.out.2.2; simpa [World.setCell] using this⟩, by simp [intOf]; omega⟩
      · have HV : Hid ((spared zs).getD k 0 = markB k) := spared_mark zs k (by omega) (by omega)
        have i3 : ¬ (k : Int) < (n : Int) := by omega
        clear hb hkp HT hsl hl hws
        go_wp2
        have R1 := X0.out.1.set k (.int .u8 (markB k))
        rw [u8s_set, ← HV.out, HE.out, HV.out] at R1
        exact ⟨⟨k + 1, by omega, by go_num, R1, X0.out.2.1.setCell (S := fun b => b = w.heap.size) rfl _, by have := X0.out.2.2; simpa [World.setCell] using this⟩, by simp [intOf]; omega⟩
    · obtain rfl : k = n + 80 := by omega
      rw [Nat.sub_self, List.replicate_zero, List.append_nil, List.take_of_length_le (by omega)] at hb
      have X3 : Hid (Blk wr w.heap.size 5 (u8s (spared zs)) ∧ wr.heap.size = w.heap.size + 1 ∧ Below w.heap.size w wr) := ⟨hb, hws, below_kept HB.out.2.1 hkp HB.out.2.1.size (fun j hj => by omega)⟩
      clear hb hkp hws hsl hl
      go_wp2
      go_ret
      exact ⟨rfl, X3.out.1, X3.out.2.1, X3.out.2.2⟩
set_option maxHeartbeats 1000000 in
set_option maxRecDepth 20000 in
theorem kept_big (g : Nat) (bo : Option Addr) (n d : Nat) (zs : List Int) (w : World) (hx : Blk w g 5 (u8s (spared zs))) (hy : Seen w bo n zs) (hn : n ≤ 140737488351232) :
    Calls Try.prog 21 #[.slice (some ⟨g, 0, none⟩) n (n + 80), .slice bo n d] w fun e w' => e = .returned (.bool true) ∧ ∃ q, w' = w.drewN q := by
  have hl := hy.len
  have S1 : Hid (Seen w (some ⟨g, 0, none⟩) n zs) := by
    have := spared_big hx hy.bytes (by omega)
    rwa [hl] at this
  have HY : Hid (Seen w bo n zs ∧ Blk w g 5 (u8s (spared zs)) ∧ zs.length = n) := ⟨hy, hx, hl⟩
  clear hx hy hl
  go_enter Try.func21, Try.ntmps21
  go_wp2_with fail
  refine (eqb_yes _ bo n (n + 80) d zs w S1.out HY.out.1).mono ?_
  rintro e w1 ⟨rfl, q, rfl⟩
  go_wp2
  go_loopw [6] (fun i wr => ∃ k : Nat, n ≤ k ∧ k ≤ n + 80 ∧ i = .int .i64 k ∧ ∃ q, wr = w.drewN q) (fun i _ => n + 80 - (intOf i).toNat)
  case atStart => exact ⟨n, Nat.le_refl _, by omega, rfl, q, rfl⟩
  case round =>
    obtain ⟨k, hk0, hk, rfl, q, rfl⟩ := hrel
    by_cases hlt : k < n + 80
    · have c1 : (w.drewN q).cell? ⟨g, k, none⟩ = some (.int .u8 (markB k)) := by
        have := u8s_cell HY.out.2.1 k (by rw [spared_length, HY.out.2.2]; omega)
        rw [spared_mark zs k (by rw [HY.out.2.2]; exact hk0) (by rw [HY.out.2.2]; exact hlt)] at this
        exact this
      rw [markB] at c1
      have i1 : (0 : Int) ≤ (k : Int) := by omega
      have i2 : (k : Int) < (n : Int) + 80 := by omega
      go_wp2
      exact ⟨⟨k + 1, by omega, by omega, by go_num, q, rfl⟩, by simp [intOf]; omega⟩
    · obtain rfl : k = n + 80 := by omega
      go_wp2
      go_ret
      exact ⟨rfl, q, rfl⟩
theorem spared_set (us : List Int) (k : Nat) (z : Int) (hk : k < us.length) : (spared us).set k z = spared (us.set k z) := by
  rw [spared, spared, List.set_append_left _ _ hk, List.length_set]
/-- What Seal answers: a box, or a refusal. -/
def Qs (key nonce : List Int) (n : Nat) (ms : List Int) (m : Nat) (zs : List Int) (K : Nat) (E : Int) (R : List Int) : Prop := (n ≤ 1048576 ∧ m ≤ 1048576 ∧ K = m + 16 ∧ E = 0 ∧ R = boxL key nonce ms zs) ∨ ((1048576 < n ∨ 1048576 < m) ∧ K = 0 ∧ E = 3 ∧ R = [])
theorem qs_ex (key nonce : List Int) (n : Nat) (ms : List Int) (m : Nat) : ∃ K E, K ≤ 1048592 ∧ ∀ zs, ∃ R, Qs key nonce n ms m zs K E R := by
  by_cases h : n ≤ 1048576 ∧ m ≤ 1048576
  · exact ⟨m + 16, 0, by omega, fun zs => ⟨_, .inl ⟨h.1, h.2, rfl, rfl, rfl⟩⟩⟩
  · exact ⟨0, 3, by omega, fun zs => ⟨_, .inr ⟨by omega, rfl, rfl, rfl⟩⟩⟩
theorem sl_out (key nonce : List Int) (n c m d : Nat) (ao bo : Option Addr) (ms zs : List Int) (K : Nat) (E : Int) (R : List Int) (hq : Qs key nonce n ms m zs K E R) (hk : key.length = 32) (hno : nonce.length = 12) (hkb : Bytes key) (hnb : Bytes nonce) (w : World) (hx : Seen w ao n ms) (hy : Seen w bo m zs) (hc : n ≤ c) (hd : m ≤ d) :
    Calls Try.prog 19 #[.agg (u8s key).toArray, .agg (u8s nonce).toArray, .slice ao n c, .slice bo m d] w fun e w' => ∃ vo cap, e = .returned (.tuple #[.slice vo K cap, .int .i64 E]) ∧ Out w' w.heap.size w'.heap.size vo K cap R ∧ Below w.heap.size w w' := by
  rcases hq with ⟨h1, h2, hK, hE, hR⟩ | ⟨hb, hK, hE, hR⟩
  · subst hK hE hR
    refine (seal_any key nonce n c m d ao bo ms zs hk hno hkb hnb h1 h2 w hx hy hc hd).mono ?_
    rintro e w1 ⟨v, rfl, o1, l1⟩
    obtain ⟨vo, cap, rfl, u⟩ := out_of (by rw [boxL_length, hy.len]) (boxL_bytes _ _ _ hy.bytes) (by omega) o1
    exact ⟨vo, cap, rfl, u, l1⟩
  · subst hK hE hR
    refine (seal_bad key nonce n c m d ao bo hx.top hy.top hb w).mono ?_
    rintro e w1 ⟨rfl, l1⟩
    exact ⟨none, 0, rfl, ⟨World.ownsRow_nil _ _ _ _, Seen.empty _ _, fun b o e => (by cases e), fun _ => rfl⟩, l1⟩
theorem rsl_out (key nonce : List Int) (n c m d : Nat) (ao bo : Option Addr) (ms zs : List Int) (K : Nat) (E : Int) (R : List Int) (hq : Qs key nonce n ms m zs K E R) (hk : key.length = 32) (hno : nonce.length = 12) (hkb : Bytes key) (hnb : Bytes nonce) (w : World) (hx : Seen w ao n ms) (hy : Seen w bo m zs) (hc : n ≤ c) :
    Calls Try.prog 18 #[.agg (u8s key).toArray, .agg (u8s nonce).toArray, .slice ao n c, .slice bo m d] w fun e w' => ∃ vo cap, e = .returned (.tuple #[.slice vo K cap, .int .i64 E]) ∧ Out w' w.heap.size w'.heap.size vo K cap R ∧ Below w.heap.size w w' := by
  rcases hq with ⟨h1, h2, hK, hE, hR⟩ | ⟨hb, hK, hE, hR⟩
  · subst hK hE hR
    refine (rseal_any key nonce n c m d ao bo ms zs hk hno hkb hnb w hx hy hc h1 h2).mono ?_
    rintro e w1 ⟨v, rfl, o1, l1⟩
    obtain ⟨vo, cap, rfl, u⟩ := out_of (by rw [boxL_length, hy.len]) (boxL_bytes _ _ _ hy.bytes) (by omega) o1
    exact ⟨vo, cap, rfl, u, l1⟩
  · subst hK hE hR
    refine (rseal_bad key nonce n c m d ao bo hb w).mono ?_
    rintro e w1 ⟨rfl, l1⟩
    exact ⟨none, 0, rfl, ⟨World.ownsRow_nil _ _ _ _, Seen.empty _ _, fun b o e => (by cases e), fun _ => rfl⟩, l1⟩
/-- What stands: what was spared, and nothing old was touched. -/
structure Sl (w1 W : World) (gM gT : Nat) (ms xs : List Int) : Prop where
  mo : Blk W gM 5 (u8s (spared ms))
  tx : Blk W gT 5 (u8s (spared xs))
  bel : Below w1.heap.size w1 W
theorem Sl.later {w1 W W' : World} {gM gT : Nat} {ms xs : List Int} (h : Sl w1 W gM gT ms xs) (l : Below W.heap.size W W') : Sl w1 W' gM gT ms xs := ⟨h.mo.later l h.mo.lt, h.tx.later l h.tx.lt, below_chain h.bel l h.bel.size⟩
theorem Sl.kept {S : Nat → Prop} {w1 W W' : World} {gM gT : Nat} {ms xs : List Int} (h : Sl w1 W gM gT ms xs) (hk : Kept S W W') (hS : ∀ y, S y → w1.heap.size ≤ y ∧ y ≠ gM ∧ y ≠ gT) : Sl w1 W' gM gT ms xs :=
  ⟨h.mo.kept hk (fun s => (hS gM s).2.1 rfl), h.tx.kept hk (fun s => (hS gT s).2.2 rfl), below_kept h.bel hk h.bel.size (fun j hj s => by have := (hS j s).1; omega)⟩
theorem Sl.dn {w1 W : World} {gM gT : Nat} {ms xs : List Int} (h : Sl w1 W gM gT ms xs) (q : Nat) : Sl w1 (W.drewN q) gM gT ms xs := h.later (below_dn (Below.refl _ _) q)
theorem cell_three (w : World) (x y z : Value) (t : TypeId) (j : Nat) (hj : j < 3) : (w.alloc (.cells #[x, y, z] t)).cell? ⟨w.heap.size, j, none⟩ = some ([x, y, z].getD j undef) := by
  have h : (w.alloc (.cells #[x, y, z] t)).heap[w.heap.size]? = some (.cells [x, y, z].toArray t (0, 0)) := heap_alloc_new w _
  rw [cell_of_row _ _ j _ t (0, 0) h]
  rcases (by omega : j = 0 ∨ j = 1 ∨ j = 2) with rfl | rfl | rfl <;> rfl
/-- The three rows, as a lot. -/
theorem lot3 {W : World} {o1 o2 o3 : Option Addr} {n c1 c2 c3 a1 b1 a2 b2 a3 b3 : Nat} {L1 L2 L3 : List Int} (h1 : Out W a1 b1 o1 n c1 L1) (h2 : Out W a2 b2 o2 n c2 L2) (h3 : Out W a3 b3 o3 n c3 L3) (e1 : b1 ≤ a2) (e2 : b2 ≤ a3) (i1 : a1 ≤ b1) (i2 : a2 ≤ b2) (i3 : a3 ≤ b3) (he : b3 ≤ W.heap.size) :
    Lot (W.alloc (.cells #[.slice o1 n c1, .slice o2 n c2, .slice o3 n c3] 31)) W.heap.size 3 (fun j => [o1, o2, o3].getD j none) (fun j => [n, n, n].getD j 0) (fun j => [c1, c2, c3].getD j 0) (fun j => [c1, c2, c3].getD j 0) (fun j => [L1, L2, L3].getD j []) ∧
    ∀ y, LotS 3 (fun j => [o1, o2, o3].getD j none) y → (a1 ≤ y ∧ y < b1) ∨ (a2 ≤ y ∧ y < b2) ∨ (a3 ≤ y ∧ y < b3) := by
  have l := (Below.refl W.heap.size W).alloc (Nat.le_refl _) (.cells #[.slice o1 n c1, .slice o2 n c2, .slice o3 n c3] 31)
  have hp : ∀ j g, j < 3 → [o1, o2, o3].getD j none = some ⟨g, 0, none⟩ → [a1, a2, a3].getD j 0 ≤ g ∧ g < [b1, b2, b3].getD j 0 := by
    intro j g hj e1
    rcases (by omega : j = 0 ∨ j = 1 ∨ j = 2) with rfl | rfl | rfl
    · exact h1.place g 0 e1
    · exact h2.place g 0 e1
    · exact h3.place g 0 e1
  refine ⟨⟨World.block_lt_of_cell? _ _ (cell_three W _ _ _ _ 0 (by decide)), fun j hj => ?_, fun j hj => ?_, fun j hj => .inl rfl, fun j j' g hj hj' e1 e2 => ?_, fun j g hj e1 => ?_⟩, fun y ⟨j, hj, e1⟩ => ?_⟩
  · rw [cell_three _ _ _ _ _ j hj]
    rcases (by omega : j = 0 ∨ j = 1 ∨ j = 2) with rfl | rfl | rfl <;> rfl
  · rcases (by omega : j = 0 ∨ j = 1 ∨ j = 2) with rfl | rfl | rfl
    · exact (h1.later l).own
    · exact (h2.later l).own
    · exact (h3.later l).own
  · have p1 := hp j g hj e1
    have p2 := hp j' g hj' e2
    rcases (by omega : j = 0 ∨ j = 1 ∨ j = 2) with rfl | rfl | rfl <;> rcases (by omega : j' = 0 ∨ j' = 1 ∨ j' = 2) with rfl | rfl | rfl <;> first | rfl | (simp at p1 p2; omega)
  · have := hp j g hj e1
    rcases (by omega : j = 0 ∨ j = 1 ∨ j = 2) with rfl | rfl | rfl <;> simp at this <;> omega
  · have := hp j y hj e1
    rcases (by omega : j = 0 ∨ j = 1 ∨ j = 2) with rfl | rfl | rfl <;> simp at this <;> omega
set_option maxRecDepth 20000 in
set_option maxHeartbeats 4000000 in
theorem sealSeals.walk (key nonce : List Int) (ao : Option Addr) (n c : Nat) (ms : List Int) (bo : Option Addr) (m d : Nat) (zs : List Int) (w : World) (h : CsIn w key nonce ao n c ms bo m d zs) (hn : n ≤ 140737488351232) (hm : m ≤ 140737488351232) :
    Calls Try.prog 4 #[.agg (caseC key nonce ao n c bo m d).toArray] w fun e w' => e = .returned (.bool true) ∧ Below w.heap.size w w' := by
  have HI : Hid (CsIn w key nonce ao n c ms bo m d zs) := h
  have HL : Hid (ms.length = n ∧ Bytes ms ∧ zs.length = m ∧ Bytes zs) := ⟨h.more.len, h.more.bytes, h.text.len, h.text.bytes⟩
  clear h
  obtain ⟨K, E, hK, hQ⟩ := qs_ex key nonce n ms m
  have HQ : Hid (∀ zs, ∃ R, Qs key nonce n ms m zs K E R) := hQ
  obtain ⟨R1, hq1⟩ := hQ zs
  have HQ1 : Hid (Qs key nonce n ms m zs K E R1) := hq1
  clear hQ hq1
  go_enter Try.func4, Try.ntmps4
  go_wp2_with (first | (refine wpList_box_new rfl 33 _ rfl (caseC key nonce ao n c bo m d) rfl ?_; intro w1 b1 s1 l1; have H1 : Hid (CsAt w1 w.heap.size key nonce ao n c ms bo m d zs ∧ Below w.heap.size w w1) := ⟨⟨b1, HI.out.later l1 (Nat.le_refl _)⟩, l1⟩; have cM := H1.out.1.cM; have cT := H1.out.1.cT; clear b1 s1 l1))
  have CS : Hid (∀ W, Below w1.heap.size w1 W → CsAt W w.heap.size key nonce ao n c ms bo m d zs) := fun W hW => H1.out.1.later hW
  refine (spare_big ao n c ms _ H1.out.1.is.more hn).mono ?_
  rintro e w2 ⟨rfl, b2, s2, l2⟩
  have A2 : Hid (Blk w2 w1.heap.size 5 (u8s (spared ms)) ∧ Below w1.heap.size w1 w2 ∧ w2.heap.size = w1.heap.size + 1) := ⟨b2, l2, s2⟩
  clear b2 l2 s2 cM cT
  have cM := (CS.out _ A2.out.2.1).cM
  have cT := (CS.out _ A2.out.2.1).cT
  go_wp2_with fail
  refine (spare_big bo m d zs _ (CS.out _ A2.out.2.1).is.text hm).mono ?_
  rintro e w3 ⟨rfl, b3, s3, l3⟩
  obtain ⟨gM, hgM⟩ : ∃ g, w1.heap.size = g := ⟨_, rfl⟩
  obtain ⟨gT, hgT⟩ : ∃ g, w2.heap.size = g := ⟨_, rfl⟩
  have A3 : Hid (Sl w1 w3 gM gT ms zs ∧ w1.heap.size = gM ∧ gM < gT ∧ gT < w3.heap.size) := by
    have e := A2.out.2.2
    refine ⟨⟨?_, ?_, below_chain A2.out.2.1 l3 A2.out.2.1.size⟩, hgM, by omega, by omega⟩
    · rw [← hgM]; exact A2.out.1.later l3 A2.out.1.lt
    · rw [← hgT]; exact b3
  try rw [hgM]
  try rw [hgT]
  clear b3 l3 s3 cM cT hgM hgT A2
  have HKK : Hid (key.length = 32 ∧ nonce.length = 12 ∧ Bytes key ∧ Bytes nonce) := ⟨HI.out.k32, HI.out.n12, HI.out.kb, HI.out.nb⟩
  have cM := (CS.out _ A3.out.1.bel).cM
  have cT := (CS.out _ A3.out.1.bel).cT
  go_wp2_with (first | (refine wpList_load_mid rfl 30 _ rfl w.heap.size 0 rfl (u8s key) _ (CS.out _ A3.out.1.bel).key Try.underlying30 rfl (CS.out _ A3.out.1.bel).sk ?_) | (refine wpList_load_mid rfl 25 _ rfl w.heap.size 32 rfl (u8s nonce) _ (CS.out _ A3.out.1.bel).nonce Try.underlying25 rfl (CS.out _ A3.out.1.bel).sn ?_))
  clear cM cT
  refine (rsl_out key nonce n c m d ao bo ms zs K E R1 HQ1.out HKK.out.1 HKK.out.2.1 HKK.out.2.2.1 HKK.out.2.2.2 _ (CS.out _ A3.out.1.bel).is.more (CS.out _ A3.out.1.bel).is.text HI.out.hc).mono ?_
  rintro e w4 ⟨o1, c1, rfl, u1, l4⟩
  have z4 := l4.size
  have A4 : Hid (Sl w1 w4 gM gT ms zs ∧ Out w4 w3.heap.size w4.heap.size o1 K c1 R1) := ⟨A3.out.1.later l4, u1⟩
  clear u1 l4
  have cM := (CS.out _ A4.out.1.bel).cM
  have cT := (CS.out _ A4.out.1.bel).cT
  go_wp2_with (first | (refine wpList_load_mid rfl 30 _ rfl w.heap.size 0 rfl (u8s key) _ (CS.out _ A4.out.1.bel).key Try.underlying30 rfl (CS.out _ A4.out.1.bel).sk ?_) | (refine wpList_load_mid rfl 25 _ rfl w.heap.size 32 rfl (u8s nonce) _ (CS.out _ A4.out.1.bel).nonce Try.underlying25 rfl (CS.out _ A4.out.1.bel).sn ?_))
  clear cM cT
  refine (sl_out key nonce n (n + 80) m (m + 80) (some ⟨gM, 0, none⟩) (some ⟨gT, 0, none⟩) ms zs K E R1 HQ1.out HKK.out.1 HKK.out.2.1 HKK.out.2.2.1 HKK.out.2.2.2 _ (by have q := spared_big A4.out.1.mo HL.out.2.1 (by rw [HL.out.1]; exact hn); rwa [HL.out.1] at q) (by have q := spared_big A4.out.1.tx HL.out.2.2.2 (by rw [HL.out.2.2.1]; exact hm); rwa [HL.out.2.2.1] at q) (by omega) (by omega)).mono ?_
  rintro e w5 ⟨o2, c2, rfl, u2, l5⟩
  have z5 := l5.size
  have A5 : Hid (Sl w1 w5 gM gT ms zs ∧ Out w5 w3.heap.size w4.heap.size o1 K c1 R1 ∧ Out w5 w4.heap.size w5.heap.size o2 K c2 R1) := ⟨A4.out.1.later l5, A4.out.2.later l5, u2⟩
  clear u2 l5 A4
  have cM := (CS.out _ A5.out.1.bel).cM
  have cT := (CS.out _ A5.out.1.bel).cT
  go_wp2_with (first | (refine wpList_load_mid rfl 30 _ rfl w.heap.size 0 rfl (u8s key) _ (CS.out _ A5.out.1.bel).key Try.underlying30 rfl (CS.out _ A5.out.1.bel).sk ?_) | (refine wpList_load_mid rfl 25 _ rfl w.heap.size 32 rfl (u8s nonce) _ (CS.out _ A5.out.1.bel).nonce Try.underlying25 rfl (CS.out _ A5.out.1.bel).sn ?_))
  clear cM cT
  refine (sl_out key nonce n (n + 80) m (m + 80) (some ⟨gM, 0, none⟩) (some ⟨gT, 0, none⟩) ms zs K E R1 HQ1.out HKK.out.1 HKK.out.2.1 HKK.out.2.2.1 HKK.out.2.2.2 _ (by have q := spared_big A5.out.1.mo HL.out.2.1 (by rw [HL.out.1]; exact hn); rwa [HL.out.1] at q) (by have q := spared_big A5.out.1.tx HL.out.2.2.2 (by rw [HL.out.2.2.1]; exact hm); rwa [HL.out.2.2.1] at q) (by omega) (by omega)).mono ?_
  rintro e w6 ⟨o3, c3, rfl, u3, l6⟩
  have z6 := l6.size
  have A6 : Hid (Sl w1 w6 gM gT ms zs ∧ Out w6 w3.heap.size w4.heap.size o1 K c1 R1 ∧ Out w6 w4.heap.size w5.heap.size o2 K c2 R1 ∧ Out w6 w5.heap.size w6.heap.size o3 K c3 R1) := ⟨A5.out.1.later l6, A5.out.2.1.later l6, A5.out.2.2.later l6, u3⟩
  clear u3 l6 A5
  have cM := (CS.out _ A6.out.1.bel).cM
  have cT := (CS.out _ A6.out.1.bel).cT
  go_wp2_with fail
  clear cM cT
  refine (eqb_yes o2 o1 K c2 c1 R1 _ A6.out.2.2.1.seen A6.out.2.1.seen).mono ?_
  rintro e w7 ⟨rfl, q, hq⟩
  have z7 : w6.heap.size ≤ w7.heap.size := by rw [hq]; exact size_dn _ q
  have A7 : Hid (Sl w1 w7 gM gT ms zs ∧ Out w7 w3.heap.size w4.heap.size o1 K c1 R1 ∧ Out w7 w4.heap.size w5.heap.size o2 K c2 R1 ∧ Out w7 w5.heap.size w6.heap.size o3 K c3 R1) := by rw [hq]; exact ⟨A6.out.1.dn q, A6.out.2.1.dn q, A6.out.2.2.1.dn q, A6.out.2.2.2.dn q⟩
  clear hq A6
  have cM := (CS.out _ A7.out.1.bel).cM
  have cT := (CS.out _ A7.out.1.bel).cT
  go_wp2_with fail
  clear cM cT
  refine (eqb_yes o3 o1 K c3 c1 R1 _ A7.out.2.2.2.seen A7.out.2.1.seen).mono ?_
  rintro e w8 ⟨rfl, q, hq⟩
  have z8 : w7.heap.size ≤ w8.heap.size := by rw [hq]; exact size_dn _ q
  have A8 : Hid (Sl w1 w8 gM gT ms zs ∧ Out w8 w3.heap.size w4.heap.size o1 K c1 R1 ∧ Out w8 w4.heap.size w5.heap.size o2 K c2 R1 ∧ Out w8 w5.heap.size w6.heap.size o3 K c3 R1) := by rw [hq]; exact ⟨A7.out.1.dn q, A7.out.2.1.dn q, A7.out.2.2.1.dn q, A7.out.2.2.2.dn q⟩
  clear hq A7
  have cM := (CS.out _ A8.out.1.bel).cM
  have cT := (CS.out _ A8.out.1.bel).cT
  go_wp2_with fail
  clear cM cT
  refine (kept_big gM ao n c ms _ A8.out.1.mo (CS.out _ A8.out.1.bel).is.more hn).mono ?_
  rintro e w9 ⟨rfl, q, hq⟩
  have z9 : w8.heap.size ≤ w9.heap.size := by rw [hq]; exact size_dn _ q
  have A9 : Hid (Sl w1 w9 gM gT ms zs ∧ Out w9 w3.heap.size w4.heap.size o1 K c1 R1 ∧ Out w9 w4.heap.size w5.heap.size o2 K c2 R1 ∧ Out w9 w5.heap.size w6.heap.size o3 K c3 R1) := by rw [hq]; exact ⟨A8.out.1.dn q, A8.out.2.1.dn q, A8.out.2.2.1.dn q, A8.out.2.2.2.dn q⟩
  clear hq A8
  have cM := (CS.out _ A9.out.1.bel).cM
  have cT := (CS.out _ A9.out.1.bel).cT
  go_wp2_with fail
  clear cM cT
  refine (kept_big gT bo m d zs _ A9.out.1.tx (CS.out _ A9.out.1.bel).is.text hm).mono ?_
  rintro e w10 ⟨rfl, q, hq⟩
  have z10 : w9.heap.size ≤ w10.heap.size := by rw [hq]; exact size_dn _ q
  have A10 : Hid (Sl w1 w10 gM gT ms zs ∧ Out w10 w3.heap.size w4.heap.size o1 K c1 R1 ∧ Out w10 w4.heap.size w5.heap.size o2 K c2 R1 ∧ Out w10 w5.heap.size w6.heap.size o3 K c3 R1) := by rw [hq]; exact ⟨A9.out.1.dn q, A9.out.2.1.dn q, A9.out.2.2.1.dn q, A9.out.2.2.2.dn q⟩
  clear hq A9
  have cM := (CS.out _ A10.out.1.bel).cM
  have cT := (CS.out _ A10.out.1.bel).cT
  go_wp2_with fail
  clear cM cT
  refine (copyB_any bo m d zs _ (CS.out _ A10.out.1.bel).is.text).mono ?_
  rintro e w11 ⟨v, rfl, o, l11⟩
  have z11 := l11.size
  have HG4 : Hid (∃ (o4 : Option Addr) (c4 : Nat), v = .slice o4 m c4 ∧ (0 < m → ∃ g4, o4 = some ⟨g4, 0, none⟩ ∧ w10.heap.size ≤ g4 ∧ g4 < w11.heap.size)) := by
    rcases own_len HL.out.2.2.1 o with ⟨e1, e2⟩ | ⟨g4, cap, e1, r1, g1, _⟩
    · exact ⟨none, 0, by rw [e1, e2], fun h => by omega⟩
    · exact ⟨_, cap, e1, fun _ => ⟨g4, rfl, g1, r1.lt⟩⟩
  obtain ⟨o4, c4, rfl, hg4⟩ := HG4.out
  have HG : Hid (0 < m → ∃ g4, o4 = some ⟨g4, 0, none⟩ ∧ w10.heap.size ≤ g4 ∧ g4 < w11.heap.size) := hg4
  have A11 : Hid (Sl w1 w11 gM gT ms zs ∧ Out w11 w3.heap.size w4.heap.size o1 K c1 R1 ∧ Out w11 w4.heap.size w5.heap.size o2 K c2 R1 ∧ Out w11 w5.heap.size w6.heap.size o3 K c3 R1 ∧ w11.ownsRow 0 5 1 (.slice o4 m c4) m (zs.map (Value.int .u8))) := ⟨A10.out.1.later l11, A10.out.2.1.later l11, A10.out.2.2.1.later l11, A10.out.2.2.2.later l11, ownsRow_base o (Nat.zero_le _)⟩
  clear o l11 hg4 HG4 A10
  go_wp2_with fail
  go_loopw [12] (fun i wr => ∃ (k : Nat) (us : List Int), k ≤ m ∧ i = .int .i64 k ∧ us.length = m ∧ Bytes us ∧ Sl w1 wr gM gT ms us ∧ wr.ownsRow 0 5 1 (.slice o4 m c4) m (us.map (Value.int .u8)) ∧ Kept (fun y => y = gT ∨ (w10.heap.size ≤ y ∧ y < w11.heap.size)) w11 wr) (fun i _ => m - (intOf i).toNat)
  case atStart => exact ⟨0, zs, Nat.zero_le _, rfl, HL.out.2.2.1, HL.out.2.2.2, A11.out.1, A11.out.2.2.2.2, Kept.refl _ _⟩
  case round =>
    obtain ⟨k, us, hk, rfl, hul, hub, hsl, hown, hkp⟩ := hrel
    by_cases hlt : k < m
    · obtain ⟨g4, rfl, p1, p2⟩ := HG.out (by omega)
      have hne : g4 ≠ gT := by have := A3.out.2.2.2; omega
      have hne2 : g4 ≠ gM := by have := A3.out.2.2; omega
      have c1 := u8s_cell hsl.tx k (by rw [spared_length]; omega)
      rw [spared_front us k (by omega)] at c1
      have f1 := hsl.tx.frozen k
      have bz := hub.at k (by omega)
      obtain ⟨Z, hZ⟩ : ∃ Z, us.getD k 0 = Z := ⟨_, rfl⟩
      rw [hZ] at c1 bz
      obtain ⟨X, hX⟩ : ∃ X, bits .xor .u8 Z 49 = X := ⟨_, rfl⟩
      have bX : 0 ≤ X ∧ X < 256 := by rw [← hX]; exact xor8_bd _ _ bz (by decide)
      have K1 := (Kept.refl (fun y => y = gT) wr).setCell (p := ⟨gT, k, none⟩) rfl (.int .u8 X)
      have ho1 := own_kept hown K1 (fun j hj e => by have := own_addr hown hj; cases this; exact hne e)
      obtain ⟨c4', f4'⟩ := own_at ho1 k hlt
      rw [hZ] at c4'
      have K2 := (Kept.refl (fun y => y = g4) (wr.setCell ⟨gT, k, none⟩ (.int .u8 X))).setCell (p := ⟨g4, k, none⟩) rfl (.int .u8 X)
      have T1 : Hid (Sl w1 ((wr.setCell ⟨gT, k, none⟩ (.int .u8 X)).setCell ⟨g4, k, none⟩ (.int .u8 X)) gM gT ms (us.set k X)) := by
        have t := hsl.tx.set k (.int .u8 X)
        rw [u8s_set, spared_set us k X (by omega)] at t
        have e := A3.out
        have s1 : Sl w1 (wr.setCell ⟨gT, k, none⟩ (.int .u8 X)) gM gT ms (us.set k X) := ⟨hsl.mo.kept K1 (by omega), t, below_kept hsl.bel K1 hsl.bel.size (fun j hj e' => by omega)⟩
        exact s1.kept K2 (fun y hy => by subst hy; exact ⟨by omega, hne2, hne⟩)
      have T2 : Hid (((wr.setCell ⟨gT, k, none⟩ (.int .u8 X)).setCell ⟨g4, k, none⟩ (.int .u8 X)).ownsRow 0 5 1 (.slice (some ⟨g4, 0, none⟩) m c4) m ((us.set k X).map (Value.int .u8))) := own_set ho1 k hlt X
      have T3 : Hid (Bytes (us.set k X) ∧ (us.set k X).length = m ∧ Kept (fun y => y = gT ∨ (w10.heap.size ≤ y ∧ y < w11.heap.size)) w11 ((wr.setCell ⟨gT, k, none⟩ (.int .u8 X)).setCell ⟨g4, k, none⟩ (.int .u8 X))) := ⟨bytes_set hub k _ bX, by rw [List.length_set]; exact hul, (hkp.setCell (p := ⟨gT, k, none⟩) (.inl rfl) _).setCell (p := ⟨g4, k, none⟩) (.inr ⟨p1, p2⟩) _⟩
      have j1 : (0 : Int) ≤ (k : Int) := by omega
      have j2 : (k : Int) < (m : Int) := by omega
      have j3 : (k : Int) < (m : Int) + 80 := by omega
      clear hZ hsl hub hul hown hkp K1 K2 ho1
      go_wp2_with fail
      go_roundw
      case rel => exact ⟨k + 1, _, by omega, by go_num, T3.out.2.1, T3.out.1, T1.out, T2.out, T3.out.2.2⟩
      case measure => simp [intOf]; omega
    · obtain rfl : m = k := by omega
      have j2 : ¬ (m : Int) < (m : Int) := by omega
      obtain ⟨R2, hq2⟩ := HQ.out us
      have HQ2 : Hid (Qs key nonce n ms m us K E R2) := hq2
      have g3 := A3.out.2.2.2
      obtain ⟨vs, vc, ve, hvs, _⟩ := own_seen hul hub (by omega) hown
      obtain ⟨e1, e2⟩ : o4 = vs ∧ c4 = vc := by simpa using ve
      subst e1 e2
      have AW : Hid (Sl w1 wr gM gT ms us ∧ Out wr w3.heap.size w4.heap.size o1 K c1 R1 ∧ Out wr w4.heap.size w5.heap.size o2 K c2 R1 ∧ Out wr w5.heap.size w6.heap.size o3 K c3 R1 ∧ Seen wr o4 m us ∧ us.length = m ∧ Bytes us) := ⟨hsl, A11.out.2.1.kept hkp (fun y h1 h2 e => by omega), A11.out.2.2.1.kept hkp (fun y h1 h2 e => by omega), A11.out.2.2.2.1.kept hkp (fun y h1 h2 e => by omega), hvs, hul, hub⟩
      have zr := hkp.size
      clear hsl hown hkp hul hub hq2 hvs ve A11
      have cM := (CS.out _ AW.out.1.bel).cM
      have cT := (CS.out _ AW.out.1.bel).cT
      go_wp2_with (first | (refine wpList_load_mid rfl 30 _ rfl w.heap.size 0 rfl (u8s key) _ (CS.out _ AW.out.1.bel).key Try.underlying30 rfl (CS.out _ AW.out.1.bel).sk ?_) | (refine wpList_load_mid rfl 25 _ rfl w.heap.size 32 rfl (u8s nonce) _ (CS.out _ AW.out.1.bel).nonce Try.underlying25 rfl (CS.out _ AW.out.1.bel).sn ?_))
      clear cM cT
      refine (rsl_out key nonce n c m c4 ao o4 ms us K E R2 HQ2.out HKK.out.1 HKK.out.2.1 HKK.out.2.2.1 HKK.out.2.2.2 _ (CS.out _ AW.out.1.bel).is.more AW.out.2.2.2.2.1 HI.out.hc).mono ?_
      rintro e w12 ⟨o5, c5, rfl, u5, l12⟩
      have z12 := l12.size
      have A12 : Hid (Sl w1 w12 gM gT ms us ∧ Out w12 w3.heap.size w4.heap.size o1 K c1 R1 ∧ Out w12 w4.heap.size w5.heap.size o2 K c2 R1 ∧ Out w12 w5.heap.size w6.heap.size o3 K c3 R1 ∧ Seen w12 o4 m us ∧ Out w12 wr.heap.size w12.heap.size o5 K c5 R2) := ⟨AW.out.1.later l12, AW.out.2.1.later l12, AW.out.2.2.1.later l12, AW.out.2.2.2.1.later l12, AW.out.2.2.2.2.1.later l12 (Nat.le_refl _), u5⟩
      clear u5 l12
      have cM := (CS.out _ A12.out.1.bel).cM
      have cT := (CS.out _ A12.out.1.bel).cT
      go_wp2_with (first | (refine wpList_load_mid rfl 30 _ rfl w.heap.size 0 rfl (u8s key) _ (CS.out _ A12.out.1.bel).key Try.underlying30 rfl (CS.out _ A12.out.1.bel).sk ?_) | (refine wpList_load_mid rfl 25 _ rfl w.heap.size 32 rfl (u8s nonce) _ (CS.out _ A12.out.1.bel).nonce Try.underlying25 rfl (CS.out _ A12.out.1.bel).sn ?_))
      clear cM cT
      refine (sl_out key nonce n (n + 80) m (m + 80) (some ⟨gM, 0, none⟩) (some ⟨gT, 0, none⟩) ms us K E R2 HQ2.out HKK.out.1 HKK.out.2.1 HKK.out.2.2.1 HKK.out.2.2.2 _ (by have q := spared_big A12.out.1.mo HL.out.2.1 (by rw [HL.out.1]; exact hn); rwa [HL.out.1] at q) (by have q := spared_big A12.out.1.tx AW.out.2.2.2.2.2.2 (by rw [AW.out.2.2.2.2.2.1]; exact hm); rwa [AW.out.2.2.2.2.2.1] at q) (by omega) (by omega)).mono ?_
      rintro e w13 ⟨o6, c6, rfl, u6, l13⟩
      have z13 := l13.size
      have A13 : Hid (Sl w1 w13 gM gT ms us ∧ Out w13 w3.heap.size w4.heap.size o1 K c1 R1 ∧ Out w13 w4.heap.size w5.heap.size o2 K c2 R1 ∧ Out w13 w5.heap.size w6.heap.size o3 K c3 R1 ∧ Seen w13 o4 m us ∧ Out w13 wr.heap.size w12.heap.size o5 K c5 R2 ∧ Out w13 w12.heap.size w13.heap.size o6 K c6 R2) := ⟨A12.out.1.later l13, A12.out.2.1.later l13, A12.out.2.2.1.later l13, A12.out.2.2.2.1.later l13, A12.out.2.2.2.2.1.later l13 (Nat.le_refl _), A12.out.2.2.2.2.2.later l13, u6⟩
      clear u6 l13 A12
      have cM := (CS.out _ A13.out.1.bel).cM
      have cT := (CS.out _ A13.out.1.bel).cT
      go_wp2_with fail
      clear cM cT
      refine (eqb_yes o6 o5 K c6 c5 R2 _ A13.out.2.2.2.2.2.2.seen A13.out.2.2.2.2.2.1.seen).mono ?_
      rintro e w14 ⟨rfl, q, hq⟩
      have z14 : w13.heap.size ≤ w14.heap.size := by rw [hq]; exact size_dn _ q
      have A14 : Hid (Sl w1 w14 gM gT ms us ∧ Out w14 w3.heap.size w4.heap.size o1 K c1 R1 ∧ Out w14 w4.heap.size w5.heap.size o2 K c2 R1 ∧ Out w14 w5.heap.size w6.heap.size o3 K c3 R1 ∧ Seen w14 o4 m us ∧ Out w14 wr.heap.size w12.heap.size o5 K c5 R2 ∧ Out w14 w12.heap.size w13.heap.size o6 K c6 R2) := by rw [hq]; exact ⟨A13.out.1.dn q, A13.out.2.1.dn q, A13.out.2.2.1.dn q, A13.out.2.2.2.1.dn q, A13.out.2.2.2.2.1.drewN q, A13.out.2.2.2.2.2.1.dn q, A13.out.2.2.2.2.2.2.dn q⟩
      clear hq A13
      have cM := (CS.out _ A14.out.1.bel).cM
      have cT := (CS.out _ A14.out.1.bel).cT
      go_wp2_with fail
      clear cM cT
      refine (eqb_yes o2 o1 K c2 c1 R1 _ A14.out.2.2.1.seen A14.out.2.1.seen).mono ?_
      rintro e w15 ⟨rfl, q, hq⟩
      have z15 : w14.heap.size ≤ w15.heap.size := by rw [hq]; exact size_dn _ q
      have A15 : Hid (Sl w1 w15 gM gT ms us ∧ Out w15 w3.heap.size w4.heap.size o1 K c1 R1 ∧ Out w15 w4.heap.size w5.heap.size o2 K c2 R1 ∧ Out w15 w5.heap.size w6.heap.size o3 K c3 R1 ∧ Seen w15 o4 m us ∧ Out w15 wr.heap.size w12.heap.size o5 K c5 R2 ∧ Out w15 w12.heap.size w13.heap.size o6 K c6 R2) := by rw [hq]; exact ⟨A14.out.1.dn q, A14.out.2.1.dn q, A14.out.2.2.1.dn q, A14.out.2.2.2.1.dn q, A14.out.2.2.2.2.1.drewN q, A14.out.2.2.2.2.2.1.dn q, A14.out.2.2.2.2.2.2.dn q⟩
      clear hq A14
      have cM := (CS.out _ A15.out.1.bel).cM
      have cT := (CS.out _ A15.out.1.bel).cT
      go_wp2_with fail
      clear cM cT
      refine (eqb_yes o3 o1 K c3 c1 R1 _ A15.out.2.2.2.1.seen A15.out.2.1.seen).mono ?_
      rintro e w16 ⟨rfl, q, hq⟩
      have z16 : w15.heap.size ≤ w16.heap.size := by rw [hq]; exact size_dn _ q
      have A16 : Hid (Sl w1 w16 gM gT ms us ∧ Out w16 w3.heap.size w4.heap.size o1 K c1 R1 ∧ Out w16 w4.heap.size w5.heap.size o2 K c2 R1 ∧ Out w16 w5.heap.size w6.heap.size o3 K c3 R1 ∧ Seen w16 o4 m us ∧ Out w16 wr.heap.size w12.heap.size o5 K c5 R2 ∧ Out w16 w12.heap.size w13.heap.size o6 K c6 R2) := by rw [hq]; exact ⟨A15.out.1.dn q, A15.out.2.1.dn q, A15.out.2.2.1.dn q, A15.out.2.2.2.1.dn q, A15.out.2.2.2.2.1.drewN q, A15.out.2.2.2.2.2.1.dn q, A15.out.2.2.2.2.2.2.dn q⟩
      clear hq A15
      go_wp2_with (refine wpList_bs rfl 40 3 _ rfl _ rfl _ _ (bs3 o2 o3 o6 K K K c2 c3 c6 _) ?_)
      have LT := lot3 A16.out.2.2.1 A16.out.2.2.2.1 A16.out.2.2.2.2.2.2 (Nat.le_refl _) (by omega) z5 z6 z13 (by omega)
      refine (rapart_any w16.heap.size 3 3 _ _ _ _ _ _ LT.1 (by decide) (fun j hj => by rcases (by omega : j = 0 ∨ j = 1 ∨ j = 2) with rfl | rfl | rfl <;> simp <;> omega)).mono ?_
      rintro e w17 ⟨rfl, kh⟩
      have A17 : Hid (Sl w1 w17 gM gT ms us ∧ Seen w17 o4 m us) := by
        have l := (Below.refl w16.heap.size w16).alloc (Nat.le_refl _) (.cells #[.slice o2 K c2, .slice o3 K c3, .slice o6 K c6] 31)
        have e := A3.out.2
        have b3 := A3.out.1.bel.size
        refine ⟨(A16.out.1.later l).kept kh (fun y hy => by have := LT.2 y hy; omega), (A16.out.2.2.2.2.1.later l (Nat.le_refl _)).kept kh (fun b o hm0 e4 hS => ?_)⟩
        obtain ⟨g4, e5, p1, p2⟩ := HG.out hm0
        rw [e5] at e4
        cases e4
        have := LT.2 _ hS
        omega
      clear LT kh A16
      go_wp2_with fail
      refine (eqb_yes (some ⟨gT, 0, none⟩) o4 m (m + 80) c4 us _ (by have q := spared_big A17.out.1.tx AW.out.2.2.2.2.2.2 (by rw [AW.out.2.2.2.2.2.1]; exact hm); rwa [AW.out.2.2.2.2.2.1] at q) A17.out.2).mono ?_
      rintro e w18 ⟨rfl, q, hq⟩
      have A18 : Hid (Sl w1 w18 gM gT ms us) := by rw [hq]; exact A17.out.1.dn q
      clear hq A17
      go_wp2_with (go_at_call 16; refine (sworks_any _).mono ?_; rintro e w19 ⟨rfl, l19⟩)
      go_ret
      exact ⟨rfl, below_chain H1.out.2 (A18.out.later l19).bel H1.out.2.size⟩
end Go.Proofs.Ytogplebajpdmoaa
