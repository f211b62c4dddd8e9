/- The walk of SealOpens. -/
import Derived.Test.YtcimiajkbgabiaaYI
import Derived.Test.YtcimiajkbgabiaaYJ
import Derived.Test.YtcimiajkbgabiaaYH
namespace Go.Proofs.Ytcimiajkbgabiaa
open Go.RowKit
set_option linter.unusedVariables false
set_option linter.unusedSimpArgs false

/-- The last operation of a region: one byte is written. -/
theorem last_byte {o : Oper} {a : Act} {w : World} {K : Act → World → Prop} {Q : Exit → Act → World → Prop} (x y : Operand) (ho : o.op = .store 5 x y) (hdst : o.dst = none) (p : Addr) (hx : a.eval x = .pointer (some p)) (z u : Int) (hy : a.eval y = .int .u8 z) (hc : w.cell? p = some (.int .u8 u)) (hf : w.frozen? p = false)
    (h : K a (w.setCell p (.int .u8 z))) : o.wp Try.prog a w K Q := by
  unfold Oper.wp execOp
  simp only [ho, hx, hy]
  go_simp
  exact h
theorem caseC_one (key nonce : List Int) (ao : Option Addr) (n c : Nat) (bo : Option Addr) (m d : Nat) : ∀ v ∈ caseC key nonce ao n c bo m d, v.oneCell' = true := by
  intro v hv
  simp only [caseC, List.mem_append, List.mem_cons, List.not_mem_nil, or_false] at hv
  rcases hv with hv | hv | rfl | rfl
  · exact u8s_one _ _ hv
  · exact u8s_one _ _ hv
  · rfl
  · rfl
theorem sbs4 (s1 s2 s3 s4 : Option Addr) (n1 n2 n3 n4 c1 c2 c3 c4 : Nat) (w : World) : (Instr.buildSlice 50 4 #[(0, .slice s1 n1 c1), (1, .slice s2 n2 c2), (2, .slice s3 n3 c3), (3, .slice s4 n4 c4)]).run Try.prog w = .ok (.slice (some ⟨w.heap.size, 0, none⟩) 4 4) (w.alloc (.cells #[.slice s1 n1 c1, .slice s2 n2 c2, .slice s3 n3 c3, .slice s4 n4 c4] 22)) := by kernel_rfl
theorem scell4 (w : World) (x y z u : Value) (t : TypeId) (j : Nat) (hj : j < 4) : (w.alloc (.cells #[x, y, z, u] t)).cell? ⟨w.heap.size, j, none⟩ = some ([x, y, z, u].getD j undef) := by
  have h : (w.alloc (.cells #[x, y, z, u] t)).heap[w.heap.size]? = some (.cells [x, y, z, u].toArray t (0, 0)) := heap_alloc_new w _
  rw [cell_of_row _ _ j _ t (0, 0) h]
  rcases (by omega : j = 0 ∨ j = 1 ∨ j = 2 ∨ j = 3) with rfl | rfl | rfl | rfl <;> rfl
/-- Four rows, as a lot. -/
theorem slot4 {W : World} {o1 o2 o3 o4 : Option Addr} {n1 n2 n3 n4 c1 c2 c3 c4 a1 b1 a2 b2 a3 b3 a4 b4 : Nat} {L1 L2 L3 L4 : List Int} (h1 : Out W a1 b1 o1 n1 c1 L1) (h2 : Out W a2 b2 o2 n2 c2 L2) (h3 : Out W a3 b3 o3 n3 c3 L3) (h4 : Out W a4 b4 o4 n4 c4 L4)
    (d12 : b1 ≤ a2) (d23 : b2 ≤ a3) (d34 : b3 ≤ a4) (i1 : a1 ≤ b1) (i2 : a2 ≤ b2) (i3 : a3 ≤ b3) (i4 : a4 ≤ b4) (he : b4 ≤ W.heap.size) :
    Lot (W.alloc (.cells #[.slice o1 n1 c1, .slice o2 n2 c2, .slice o3 n3 c3, .slice o4 n4 c4] 22)) W.heap.size 4 (fun j => [o1, o2, o3, o4].getD j none) (fun j => [n1, n2, n3, n4].getD j 0) (fun j => [c1, c2, c3, c4].getD j 0) (fun j => [c1, c2, c3, c4].getD j 0) (fun j => [L1, L2, L3, L4].getD j []) ∧
    ∀ y, LotS 4 (fun j => [o1, o2, o3, o4].getD j none) y → a1 ≤ y ∧ y < b4 := by
  have l := (Below.refl W.heap.size W).alloc (Nat.le_refl _) (.cells #[.slice o1 n1 c1, .slice o2 n2 c2, .slice o3 n3 c3, .slice o4 n4 c4] 22)
  have hp : ∀ j g, j < 4 → [o1, o2, o3, o4].getD j none = some ⟨g, 0, none⟩ → [a1, a2, a3, a4].getD j 0 ≤ g ∧ g < [b1, b2, b3, b4].getD j 0 := by
    intro j g hj e1
    rcases (by omega : j = 0 ∨ j = 1 ∨ j = 2 ∨ j = 3) with rfl | rfl | rfl | rfl
    · exact h1.place g 0 e1
    · exact h2.place g 0 e1
    · exact h3.place g 0 e1
    · exact h4.place g 0 e1
  refine ⟨⟨World.block_lt_of_cell? _ _ (scell4 W _ _ _ _ _ 0 (by decide)), fun j hj => ?_, fun j hj => ?_, fun j hj => .inl rfl, fun j j' g hj hj' e1 e2 => ?_, fun j g hj e1 => ?_⟩, fun y ⟨j, hj, e1⟩ => ?_⟩
  · rw [scell4 _ _ _ _ _ _ j hj]
    rcases (by omega : j = 0 ∨ j = 1 ∨ j = 2 ∨ j = 3) with rfl | rfl | rfl | rfl <;> rfl
  · rcases (by omega : j = 0 ∨ j = 1 ∨ j = 2 ∨ j = 3) with rfl | rfl | rfl | rfl
    · exact (h1.later l).own
    · exact (h2.later l).own
    · exact (h3.later l).own
    · exact (h4.later l).own
  · have p1 := hp j g hj e1
    have p2 := hp j' g hj' e2
    rcases (by omega : j = 0 ∨ j = 1 ∨ j = 2 ∨ j = 3) with rfl | rfl | rfl | rfl <;> rcases (by omega : j' = 0 ∨ j' = 1 ∨ j' = 2 ∨ j' = 3) with rfl | rfl | rfl | rfl <;> first | rfl | (simp at p1 p2; omega)
  · have := hp j g hj e1
    rcases (by omega : j = 0 ∨ j = 1 ∨ j = 2 ∨ j = 3) with rfl | rfl | rfl | rfl <;> simp at this <;> omega
  · have := hp j y hj e1
    rcases (by omega : j = 0 ∨ j = 1 ∨ j = 2 ∨ j = 3) with rfl | rfl | rfl | rfl <;> simp at this <;> omega
theorem seen_own7 {W : World} {B : Nat} {o7 : Option Addr} {m c7 : Nat} {us : List Int} (hl : us.length = m) (hb : Bytes us) (ht : m ≤ 140737488355328) (o : W.ownsRow B 5 1 (.slice o7 m c7) m (us.map (Value.int .u8))) : Seen W o7 m us := by
  obtain ⟨vs, vc, ve, hvs, _⟩ := own_seen hl hb ht o
  obtain ⟨e1, e2⟩ : o7 = vs ∧ c7 = vc := by simpa using ve
  rw [e1]; exact hvs
/-- What stands behind the second case. -/
structure Tn (w1 W : World) (gM gT g17 B : Nat) (key nonce : List Int) (ao : Option Addr) (n c : Nat) (ms : List Int) (o7 : Option Addr) (m c7 : Nat) (us : List Int) : Prop where
  sl : Sl w1 W gM gT ms us
  cs : Blk W g17 44 (caseC key nonce ao n c o7 m c7)
  own : W.ownsRow B 5 1 (.slice o7 m c7) m (us.map (Value.int .u8))
theorem Tn.later {w1 W W' : World} {gM gT g17 B : Nat} {key nonce : List Int} {ao : Option Addr} {n c : Nat} {ms : List Int} {o7 : Option Addr} {m c7 : Nat} {us : List Int} (h : Tn w1 W gM gT g17 B key nonce ao n c ms o7 m c7 us) (l : Below W.heap.size W W') : Tn w1 W' gM gT g17 B key nonce ao n c ms o7 m c7 us := ⟨h.sl.later l, h.cs.later l h.cs.lt, ownsRow_below h.own l⟩
theorem Tn.dn {w1 W : World} {gM gT g17 B : Nat} {key nonce : List Int} {ao : Option Addr} {n c : Nat} {ms : List Int} {o7 : Option Addr} {m c7 : Nat} {us : List Int} (h : Tn w1 W gM gT g17 B key nonce ao n c ms o7 m c7 us) (q : Nat) : Tn w1 (W.drewN q) gM gT g17 B key nonce ao n c ms o7 m c7 us := h.later (below_dn (Below.refl _ _) q)
theorem Tn.kept {S : Nat → Prop} {w1 W W' : World} {gM gT g17 B : Nat} {key nonce : List Int} {ao : Option Addr} {n c : Nat} {ms : List Int} {o7 : Option Addr} {m c7 : Nat} {us : List Int} (h : Tn w1 W gM gT g17 B key nonce ao n c ms o7 m c7 us) (hk : Kept S W W') (hS : ∀ y, S y → w1.heap.size ≤ y ∧ y ≠ gM ∧ y ≠ gT ∧ y ≠ g17 ∧ y < B) : Tn w1 W' gM gT g17 B key nonce ao n c ms o7 m c7 us :=
  ⟨h.sl.kept hk (fun y hy => ⟨(hS y hy).1, (hS y hy).2.1, (hS y hy).2.2.1⟩), h.cs.kept hk (fun e => (hS g17 e).2.2.2.1 rfl), own_kept h.own hk (fun j hj e => by have := (h.own.lt j hj).1; have := (hS j e).2.2.2.2; omega)⟩
set_option maxRecDepth 20000 in
set_option maxHeartbeats 4000000 in
theorem sealOpens.walk (key nonce : List Int) (ao : Option Addr) (n c : Nat) (ms : List Int) (bo : Option Addr) (m d : Nat) (zs : List Int) (w : World) (h : CsIn w key nonce ao n c ms bo m d zs) (hn : n ≤ 140737488351232) (hm : m ≤ 140737488351232) :
    Calls Try.prog 7 #[.agg (caseC key nonce ao n c bo m d).toArray] w fun e w' => e = .returned (.bool true) ∧ Below w.heap.size w w' := by
  have HI : Hid (CsIn w key nonce ao n c ms bo m d zs) := h
  have HL : Hid (ms.length = n ∧ Bytes ms ∧ zs.length = m ∧ Bytes zs) := ⟨h.more.len, h.more.bytes, h.text.len, h.text.bytes⟩
  clear h
  obtain ⟨K, E, R1, hK, hq1⟩ := qo_ex key nonce n ms m zs
  obtain ⟨KP, B, EP, RP, hKP, hp1⟩ := qp_ex key nonce n ms m zs
  have HQ : Hid (Qo key nonce n ms m zs K E R1 ∧ Qp key nonce n ms m zs KP B EP RP) := ⟨hq1, hp1⟩
  have eE : (E != E) = false := by simp
  have eP : (EP != EP) = false := by simp
  clear hq1 hp1
  go_enter Try.func7, Try.ntmps7
  go_wp2_with (first | (refine wpList_box_new rfl 44 _ rfl (caseC key nonce ao n c bo m d) rfl ?_; intro w1 b1 s1 l1; have H1 : Hid (CsAt w1 w.heap.size key nonce ao n c ms bo m d zs ∧ Below w.heap.size w w1) := ⟨⟨b1, HI.out.later l1 (Nat.le_refl _)⟩, l1⟩; have cM := H1.out.1.cM; have cT := H1.out.1.cT; clear b1 s1 l1))
  have CS : Hid (∀ W, Below w1.heap.size w1 W → CsAt W w.heap.size key nonce ao n c ms bo m d zs) := fun W hW => H1.out.1.later hW
  refine (spare_big ao n c ms _ H1.out.1.is.more hn).mono ?_
  rintro e w2 ⟨rfl, b2, s2, l2⟩
  have A2 : Hid (Blk w2 w1.heap.size 5 (u8s (spared ms)) ∧ Below w1.heap.size w1 w2 ∧ w2.heap.size = w1.heap.size + 1) := ⟨b2, l2, s2⟩
  clear b2 l2 s2 cM cT
  have cM := (CS.out _ A2.out.2.1).cM
  have cT := (CS.out _ A2.out.2.1).cT
  go_wp2_with fail
  refine (spare_big bo m d zs _ (CS.out _ A2.out.2.1).is.text hm).mono ?_
  rintro e w3 ⟨rfl, b3, s3, l3⟩
  obtain ⟨gM, hgM⟩ : ∃ g, w1.heap.size = g := ⟨_, rfl⟩
  obtain ⟨gT, hgT⟩ : ∃ g, w2.heap.size = g := ⟨_, rfl⟩
  have A3 : Hid (Sl w1 w3 gM gT ms zs ∧ w1.heap.size = gM ∧ gM < gT ∧ gT < w3.heap.size) := by
    have e := A2.out.2.2
    refine ⟨⟨?_, ?_, below_chain A2.out.2.1 l3 A2.out.2.1.size⟩, hgM, by omega, by omega⟩
    · rw [← hgM]; exact A2.out.1.later l3 A2.out.1.lt
    · rw [← hgT]; exact b3
  try rw [hgM]
  try rw [hgT]
  clear b3 l3 s3 cM cT hgM hgT A2
  have HKK : Hid (key.length = 32 ∧ nonce.length = 12 ∧ Bytes key ∧ Bytes nonce) := ⟨HI.out.k32, HI.out.n12, HI.out.kb, HI.out.nb⟩
  have LC : Hid (∀ bo' m' d', (caseC key nonce ao n c bo' m' d').length = 46) := fun bo' m' d' => caseC_length key nonce HI.out.k32 HI.out.n12 ao n c bo' m' d'
  have cM := (CS.out _ A3.out.1.bel).cM
  have cT := (CS.out _ A3.out.1.bel).cT
  go_wp2_with (first | (refine wpList_load_blk rfl 44 _ rfl w.heap.size rfl (caseC key nonce ao n c bo m d) _ (CS.out _ A3.out.1.bel).blk Try.underlying44 rfl (by rw [LC.out]; exact sizeCase) ?_))
  clear cM cT
  refine (opened_any key nonce ao n c ms bo m d zs (some ⟨gM, 0, none⟩) (some ⟨gT, 0, none⟩) (n + 80) (m + 80) w3 (CS.out _ A3.out.1.bel).is (by have q := spared_big A3.out.1.mo HL.out.2.1 (by rw [HL.out.1]; exact hn); rwa [HL.out.1] at q) (by have q := spared_big A3.out.1.tx HL.out.2.2.2 (by rw [HL.out.2.2.1]; exact hm); rwa [HL.out.2.2.1] at q) (by omega) (by omega)).mono ?_
  rintro e w4 ⟨rfl, l4⟩
  have z4 := l4.size
  have A4 : Hid (Sl w1 w4 gM gT ms zs) := A3.out.1.later l4
  clear l4
  have cM := (CS.out _ A4.out.bel).cM
  have cT := (CS.out _ A4.out.bel).cT
  go_wp2_with fail
  clear cM cT
  refine (kept_big gM ao n c ms w4 A4.out.mo (CS.out _ A4.out.bel).is.more hn).mono ?_
  rintro e w5 ⟨rfl, q, hq⟩
  have z5 : w4.heap.size ≤ w5.heap.size := by rw [hq]; exact size_dn _ q
  have A5 : Hid (Sl w1 w5 gM gT ms zs) := by rw [hq]; exact A4.out.dn q
  clear hq A4
  have cM := (CS.out _ A5.out.bel).cM
  have cT := (CS.out _ A5.out.bel).cT
  go_wp2_with fail
  clear cM cT
  refine (kept_big gT bo m d zs w5 A5.out.tx (CS.out _ A5.out.bel).is.text hm).mono ?_
  rintro e w6 ⟨rfl, q, hq⟩
  have z6 : w5.heap.size ≤ w6.heap.size := by rw [hq]; exact size_dn _ q
  have A6 : Hid (Sl w1 w6 gM gT ms zs) := by rw [hq]; exact A5.out.dn q
  clear hq A5
  have cM := (CS.out _ A6.out.bel).cM
  have cT := (CS.out _ A6.out.bel).cT
  go_wp2_with (first | (refine wpList_load_mid rfl 27 _ rfl w.heap.size 0 rfl (u8s key) _ (CS.out _ A6.out.bel).key Try.underlying27 rfl (CS.out _ A6.out.bel).sk ?_) | (refine wpList_load_mid rfl 42 _ rfl w.heap.size 32 rfl (u8s nonce) _ (CS.out _ A6.out.bel).nonce Try.underlying42 rfl (CS.out _ A6.out.bel).sn ?_))
  clear cM cT
  refine (op_out key nonce n (n + 80) m (m + 80) (some ⟨gM, 0, none⟩) (some ⟨gT, 0, none⟩) ms zs K E R1 HQ.out.1 HKK.out.1 HKK.out.2.1 HKK.out.2.2.1 HKK.out.2.2.2 w6 (by have q := spared_big A6.out.mo HL.out.2.1 (by rw [HL.out.1]; exact hn); rwa [HL.out.1] at q) (by have q := spared_big A6.out.tx HL.out.2.2.2 (by rw [HL.out.2.2.1]; exact hm); rwa [HL.out.2.2.1] at q) (by omega) (by omega)).mono ?_
  rintro e w7 ⟨o1, c1, rfl, u1, l7⟩
  have z7 := l7.size
  have A7 : Hid (Sl w1 w7 gM gT ms zs ∧ Out w7 w6.heap.size w7.heap.size o1 K c1 R1) := ⟨A6.out.later l7, u1⟩
  clear u1 l7 A6
  have cM := (CS.out _ A7.out.1.bel).cM
  have cT := (CS.out _ A7.out.1.bel).cT
  go_wp2_with (first | (refine wpList_load_mid rfl 27 _ rfl w.heap.size 0 rfl (u8s key) _ (CS.out _ A7.out.1.bel).key Try.underlying27 rfl (CS.out _ A7.out.1.bel).sk ?_) | (refine wpList_load_mid rfl 42 _ rfl w.heap.size 32 rfl (u8s nonce) _ (CS.out _ A7.out.1.bel).nonce Try.underlying42 rfl (CS.out _ A7.out.1.bel).sn ?_))
  clear cM cT
  refine (op_out key nonce n (n + 80) m (m + 80) (some ⟨gM, 0, none⟩) (some ⟨gT, 0, none⟩) ms zs K E R1 HQ.out.1 HKK.out.1 HKK.out.2.1 HKK.out.2.2.1 HKK.out.2.2.2 w7 (by have q := spared_big A7.out.1.mo HL.out.2.1 (by rw [HL.out.1]; exact hn); rwa [HL.out.1] at q) (by have q := spared_big A7.out.1.tx HL.out.2.2.2 (by rw [HL.out.2.2.1]; exact hm); rwa [HL.out.2.2.1] at q) (by omega) (by omega)).mono ?_
  rintro e w8 ⟨o2, c2, rfl, u2, l8⟩
  have z8 := l8.size
  have A8 : Hid (Sl w1 w8 gM gT ms zs ∧ Out w8 w6.heap.size w7.heap.size o1 K c1 R1 ∧ Out w8 w7.heap.size w8.heap.size o2 K c2 R1) := ⟨A7.out.1.later l8, A7.out.2.later l8, u2⟩
  clear u2 l8 A7
  have cM := (CS.out _ A8.out.1.bel).cM
  have cT := (CS.out _ A8.out.1.bel).cT
  go_wp2_with (first | (refine wpList_load_mid rfl 27 _ rfl w.heap.size 0 rfl (u8s key) _ (CS.out _ A8.out.1.bel).key Try.underlying27 rfl (CS.out _ A8.out.1.bel).sk ?_) | (refine wpList_load_mid rfl 42 _ rfl w.heap.size 32 rfl (u8s nonce) _ (CS.out _ A8.out.1.bel).nonce Try.underlying42 rfl (CS.out _ A8.out.1.bel).sn ?_))
  clear cM cT
  refine (pk_out key nonce n (n + 80) m (m + 80) (some ⟨gM, 0, none⟩) (some ⟨gT, 0, none⟩) ms zs KP B EP RP HQ.out.2 HKK.out.1 HKK.out.2.1 HKK.out.2.2.1 HKK.out.2.2.2 w8 (by have q := spared_big A8.out.1.mo HL.out.2.1 (by rw [HL.out.1]; exact hn); rwa [HL.out.1] at q) (by have q := spared_big A8.out.1.tx HL.out.2.2.2 (by rw [HL.out.2.2.1]; exact hm); rwa [HL.out.2.2.1] at q) (by omega) (by omega)).mono ?_
  rintro e w9 ⟨o3, c3, rfl, u3, l9⟩
  have z9 := l9.size
  have A9 : Hid (Sl w1 w9 gM gT ms zs ∧ Out w9 w6.heap.size w7.heap.size o1 K c1 R1 ∧ Out w9 w7.heap.size w8.heap.size o2 K c2 R1 ∧ Out w9 w8.heap.size w9.heap.size o3 KP c3 RP) := ⟨A8.out.1.later l9, A8.out.2.1.later l9, A8.out.2.2.later l9, u3⟩
  clear u3 l9 A8
  have cM := (CS.out _ A9.out.1.bel).cM
  have cT := (CS.out _ A9.out.1.bel).cT
  go_wp2_with (first | (refine wpList_load_mid rfl 27 _ rfl w.heap.size 0 rfl (u8s key) _ (CS.out _ A9.out.1.bel).key Try.underlying27 rfl (CS.out _ A9.out.1.bel).sk ?_) | (refine wpList_load_mid rfl 42 _ rfl w.heap.size 32 rfl (u8s nonce) _ (CS.out _ A9.out.1.bel).nonce Try.underlying42 rfl (CS.out _ A9.out.1.bel).sn ?_))
  clear cM cT
  refine (pk_out key nonce n (n + 80) m (m + 80) (some ⟨gM, 0, none⟩) (some ⟨gT, 0, none⟩) ms zs KP B EP RP HQ.out.2 HKK.out.1 HKK.out.2.1 HKK.out.2.2.1 HKK.out.2.2.2 w9 (by have q := spared_big A9.out.1.mo HL.out.2.1 (by rw [HL.out.1]; exact hn); rwa [HL.out.1] at q) (by have q := spared_big A9.out.1.tx HL.out.2.2.2 (by rw [HL.out.2.2.1]; exact hm); rwa [HL.out.2.2.1] at q) (by omega) (by omega)).mono ?_
  rintro e w10 ⟨o4, c4, rfl, u4, l10⟩
  have z10 := l10.size
  have A10 : Hid (Sl w1 w10 gM gT ms zs ∧ Out w10 w6.heap.size w7.heap.size o1 K c1 R1 ∧ Out w10 w7.heap.size w8.heap.size o2 K c2 R1 ∧ Out w10 w8.heap.size w9.heap.size o3 KP c3 RP ∧ Out w10 w9.heap.size w10.heap.size o4 KP c4 RP) := ⟨A9.out.1.later l10, A9.out.2.1.later l10, A9.out.2.2.1.later l10, A9.out.2.2.2.later l10, u4⟩
  clear u4 l10 A9
  have cM := (CS.out _ A10.out.1.bel).cM
  have cT := (CS.out _ A10.out.1.bel).cT
  go_wp2_with fail
  clear cM cT
  refine (eqb_yes o1 o2 K c1 c2 R1 w10 A10.out.2.1.seen A10.out.2.2.1.seen).mono ?_
  rintro e w11 ⟨rfl, q, hq⟩
  have z11 : w10.heap.size ≤ w11.heap.size := by rw [hq]; exact size_dn _ q
  have A11 : Hid (Sl w1 w11 gM gT ms zs ∧ Out w11 w6.heap.size w7.heap.size o1 K c1 R1 ∧ Out w11 w7.heap.size w8.heap.size o2 K c2 R1 ∧ Out w11 w8.heap.size w9.heap.size o3 KP c3 RP ∧ Out w11 w9.heap.size w10.heap.size o4 KP c4 RP) := by rw [hq]; exact ⟨A10.out.1.dn q, A10.out.2.1.dn q, A10.out.2.2.1.dn q, A10.out.2.2.2.1.dn q, A10.out.2.2.2.2.dn q⟩
  clear hq A10
  have cM := (CS.out _ A11.out.1.bel).cM
  have cT := (CS.out _ A11.out.1.bel).cT
  go_wp2_with fail
  clear cM cT
  refine (eqb_yes o3 o4 KP c3 c4 RP w11 A11.out.2.2.2.1.seen A11.out.2.2.2.2.seen).mono ?_
  rintro e w12 ⟨rfl, q, hq⟩
  have z12 : w11.heap.size ≤ w12.heap.size := by rw [hq]; exact size_dn _ q
  have A12 : Hid (Sl w1 w12 gM gT ms zs ∧ Out w12 w6.heap.size w7.heap.size o1 K c1 R1 ∧ Out w12 w7.heap.size w8.heap.size o2 K c2 R1 ∧ Out w12 w8.heap.size w9.heap.size o3 KP c3 RP ∧ Out w12 w9.heap.size w10.heap.size o4 KP c4 RP) := by rw [hq]; exact ⟨A11.out.1.dn q, A11.out.2.1.dn q, A11.out.2.2.1.dn q, A11.out.2.2.2.1.dn q, A11.out.2.2.2.2.dn q⟩
  clear hq A11
  have cM := (CS.out _ A12.out.1.bel).cM
  have cT := (CS.out _ A12.out.1.bel).cT
  go_wp2_with fail
  clear cM cT
  refine (copyB_any o1 K c1 R1 w12 A12.out.2.1.seen).mono ?_
  rintro e w13 ⟨v, rfl, o, l13⟩
  obtain ⟨o5, c5, rfl, s5⟩ := out_of A12.out.2.1.seen.len A12.out.2.1.seen.bytes (by omega) o
  have z13 := l13.size
  have A13 : Hid (Sl w1 w13 gM gT ms zs ∧ Out w13 w6.heap.size w7.heap.size o1 K c1 R1 ∧ Out w13 w7.heap.size w8.heap.size o2 K c2 R1 ∧ Out w13 w8.heap.size w9.heap.size o3 KP c3 RP ∧ Out w13 w9.heap.size w10.heap.size o4 KP c4 RP ∧ Out w13 w12.heap.size w13.heap.size o5 K c5 R1) := ⟨A12.out.1.later l13, A12.out.2.1.later l13, A12.out.2.2.1.later l13, A12.out.2.2.2.1.later l13, A12.out.2.2.2.2.later l13, s5⟩
  clear o l13 s5 A12
  have cM := (CS.out _ A13.out.1.bel).cM
  have cT := (CS.out _ A13.out.1.bel).cT
  go_wp2_with fail
  clear cM cT
  refine (copyB_any o3 KP c3 RP w13 A13.out.2.2.2.1.seen).mono ?_
  rintro e w14 ⟨v, rfl, o, l14⟩
  obtain ⟨o6, c6, rfl, s6⟩ := out_of A13.out.2.2.2.1.seen.len A13.out.2.2.2.1.seen.bytes (by omega) o
  have z14 := l14.size
  have A14 : Hid (Sl w1 w14 gM gT ms zs ∧ Out w14 w6.heap.size w7.heap.size o1 K c1 R1 ∧ Out w14 w7.heap.size w8.heap.size o2 K c2 R1 ∧ Out w14 w8.heap.size w9.heap.size o3 KP c3 RP ∧ Out w14 w9.heap.size w10.heap.size o4 KP c4 RP ∧ Out w14 w12.heap.size w13.heap.size o5 K c5 R1 ∧ Out w14 w13.heap.size w14.heap.size o6 KP c6 RP) := ⟨A13.out.1.later l14, A13.out.2.1.later l14, A13.out.2.2.1.later l14, A13.out.2.2.2.1.later l14, A13.out.2.2.2.2.1.later l14, A13.out.2.2.2.2.2.later l14, s6⟩
  clear o l14 s6 A13
  have cM := (CS.out _ A14.out.1.bel).cM
  have cT := (CS.out _ A14.out.1.bel).cT
  go_wp2_with (first | (refine wpList_load_blk rfl 44 _ rfl w.heap.size rfl (caseC key nonce ao n c bo m d) _ (CS.out _ A14.out.1.bel).blk Try.underlying44 rfl (by rw [LC.out]; exact sizeCase) ?_) | (refine wpList_alloc_new rfl 44 rfl 46 _ zeroCaseV ?_; intro w15 b15 s15 l15) | (refine wpList_store_blk rfl 44 44 _ _ rfl _ rfl _ (caseC key nonce ao n c bo m d) rfl b15 (by rw [LC.out]; rfl) (by rw [LC.out]; exact sizeCase) (caseC_one _ _ _ _ _ _ _ _) ?_; intro w16 b16 s16 k16; have L16 : Below w14.heap.size w14 w16 := below_kept l15 k16 (by omega) (fun j hj => by omega); clear cM cT; have cM := (CS.out _ (A14.out.1.later L16).bel).cM; have cT := (CS.out _ (A14.out.1.later L16).bel).cT))
  obtain ⟨g17, hg17⟩ : ∃ g, w14.heap.size = g := ⟨_, rfl⟩
  have A16 : Hid (Sl w1 w16 gM gT ms zs ∧ (Out w16 w6.heap.size w7.heap.size o1 K c1 R1 ∧ Out w16 w7.heap.size w8.heap.size o2 K c2 R1 ∧ Out w16 w8.heap.size w9.heap.size o3 KP c3 RP ∧ Out w16 w9.heap.size w10.heap.size o4 KP c4 RP ∧ Out w16 w12.heap.size w13.heap.size o5 K c5 R1 ∧ Out w16 w13.heap.size w14.heap.size o6 KP c6 RP) ∧ Blk w16 g17 44 (caseC key nonce ao n c bo m d) ∧ w14.heap.size = g17) := by
    rw [← hg17]
    exact ⟨A14.out.1.later L16, ⟨A14.out.2.1.later L16, A14.out.2.2.1.later L16, A14.out.2.2.2.1.later L16, A14.out.2.2.2.2.1.later L16, A14.out.2.2.2.2.2.1.later L16, A14.out.2.2.2.2.2.2.later L16⟩, b16, rfl⟩
  have z16 := L16.size
  have z17 : g17 < w16.heap.size := by omega
  try rw [hg17]
  clear b15 s15 l15 b16 s16 k16 L16 A14 hg17
  clear cM cT
  refine (copyB_any bo m d zs w16 (CS.out _ A16.out.1.bel).is.text).mono ?_
  rintro e w17 ⟨v, rfl, o, l17⟩
  have z18 := l17.size
  obtain ⟨o7, c7, rfl, hc7, hg7⟩ : ∃ (o7 : Option Addr) (c7 : Nat), v = .slice o7 m c7 ∧ m ≤ c7 ∧ (0 < m → ∃ g7, o7 = some ⟨g7, 0, none⟩ ∧ w16.heap.size ≤ g7 ∧ g7 < w17.heap.size) := by
    rcases own_len HL.out.2.2.1 o with ⟨e1, e2⟩ | ⟨g7, cap, e1, r1, g1, cc, _⟩
    · exact ⟨none, 0, by rw [e1, e2], by omega, fun h => by omega⟩
    · exact ⟨_, cap, e1, cc, fun _ => ⟨g7, rfl, g1, r1.lt⟩⟩
  have HG : Hid ((0 < m → ∃ g7, o7 = some ⟨g7, 0, none⟩ ∧ w16.heap.size ≤ g7 ∧ g7 < w17.heap.size) ∧ m ≤ c7) := ⟨hg7, hc7⟩
  have A17 : Hid (Sl w1 w17 gM gT ms zs ∧ (Out w17 w6.heap.size w7.heap.size o1 K c1 R1 ∧ Out w17 w7.heap.size w8.heap.size o2 K c2 R1 ∧ Out w17 w8.heap.size w9.heap.size o3 KP c3 RP ∧ Out w17 w9.heap.size w10.heap.size o4 KP c4 RP ∧ Out w17 w12.heap.size w13.heap.size o5 K c5 R1 ∧ Out w17 w13.heap.size w14.heap.size o6 KP c6 RP) ∧ Blk w17 g17 44 (caseC key nonce ao n c bo m d) ∧ w17.ownsRow w16.heap.size 5 1 (.slice o7 m c7) m (zs.map (Value.int .u8)) ∧ w14.heap.size = g17) := ⟨A16.out.1.later l17, ⟨A16.out.2.1.1.later l17, A16.out.2.1.2.1.later l17, A16.out.2.1.2.2.1.later l17, A16.out.2.1.2.2.2.1.later l17, A16.out.2.1.2.2.2.2.1.later l17, A16.out.2.1.2.2.2.2.2.later l17⟩, A16.out.2.2.1.later l17 A16.out.2.2.1.lt, o, A16.out.2.2.2⟩
  clear o l17 hg7 hc7 A16
  have f45 := A17.out.2.2.1.frozen 45
  have c45 : w17.cell? ⟨g17, 45, none⟩ = some (.slice bo m d) := by
    have := (CS.out _ A17.out.1.bel).cT
    rw [(CS.out _ A17.out.1.bel).blk.cell] at this
    rw [A17.out.2.2.1.cell]; exact this
  have A18 : Hid (Tn w1 (w17.setCell ⟨g17, 45, none⟩ (.slice o7 m c7)) gM gT g17 w16.heap.size key nonce ao n c ms o7 m c7 zs ∧ (Out (w17.setCell ⟨g17, 45, none⟩ (.slice o7 m c7)) w6.heap.size w7.heap.size o1 K c1 R1 ∧ Out (w17.setCell ⟨g17, 45, none⟩ (.slice o7 m c7)) w7.heap.size w8.heap.size o2 K c2 R1 ∧ Out (w17.setCell ⟨g17, 45, none⟩ (.slice o7 m c7)) w8.heap.size w9.heap.size o3 KP c3 RP ∧ Out (w17.setCell ⟨g17, 45, none⟩ (.slice o7 m c7)) w9.heap.size w10.heap.size o4 KP c4 RP ∧ Out (w17.setCell ⟨g17, 45, none⟩ (.slice o7 m c7)) w12.heap.size w13.heap.size o5 K c5 R1 ∧ Out (w17.setCell ⟨g17, 45, none⟩ (.slice o7 m c7)) w13.heap.size w14.heap.size o6 KP c6 RP) ∧ (w17.setCell ⟨g17, 45, none⟩ (.slice o7 m c7)).heap.size = w17.heap.size) := by
    have K18 := (Kept.refl (fun y => y = g17) w17).setCell (p := ⟨g17, 45, none⟩) rfl (.slice o7 m c7)
    have e3 := A3.out.2
    have gg := A17.out.2.2.2.2
    have cs := A17.out.2.2.1.set 45 (.slice o7 m c7)
    rw [caseC_set key nonce HI.out.k32 HI.out.n12] at cs
    have OO := A17.out.2.1
    exact ⟨⟨A17.out.1.kept K18 (fun y hy => by omega), cs, own_kept A17.out.2.2.2.1 K18 (fun j hj e => by have := (A17.out.2.2.2.1.lt j hj).1; omega)⟩, ⟨OO.1.kept K18 (fun y h1 h2 e => by omega), OO.2.1.kept K18 (fun y h1 h2 e => by omega), OO.2.2.1.kept K18 (fun y h1 h2 e => by omega), OO.2.2.2.1.kept K18 (fun y h1 h2 e => by omega), OO.2.2.2.2.1.kept K18 (fun y h1 h2 e => by omega), OO.2.2.2.2.2.kept K18 (fun y h1 h2 e => by omega)⟩, by simp [World.setCell]⟩
  have G17 : Hid (w14.heap.size = g17) := A17.out.2.2.2.2
  clear A17
  have TT : Hid (∀ W us, us.length = m → Bytes us → Tn w1 W gM gT g17 w16.heap.size key nonce ao n c ms o7 m c7 us → CsIn W key nonce ao n c ms o7 m c7 us) := fun W us h1 h2 h3 => ⟨HI.out.k32, HI.out.n12, HI.out.kb, HI.out.nb, (CS.out _ h3.sl.bel).is.more, seen_own7 h1 h2 (by omega) h3.own, HI.out.hc, HG.out.2⟩
  by_cases hm0 : 0 < m
  · obtain ⟨g7, e7, p1, p2⟩ := HG.out.1 hm0
    subst e7
    have e3 := A3.out.2
    have j0 : (0 : Int) < (m : Int) := by omega
    have j1 : (0 : Int) < (m : Int) + 80 := by omega
    have tx := A18.out.1.sl.tx
    have c0 := u8s_cell tx 0 (by rw [spared_length]; omega)
    rw [spared_front zs 0 (by have := HL.out.2.2.1; omega)] at c0
    have f0 := tx.frozen 0
    have bz := HL.out.2.2.2.at 0 (by have := HL.out.2.2.1; omega)
    obtain ⟨Z, hZ⟩ : ∃ Z, zs.getD 0 0 = Z := ⟨_, rfl⟩
    rw [hZ] at c0 bz
    obtain ⟨X, hX⟩ : ∃ X, bits .xor .u8 Z 1 = X := ⟨_, rfl⟩
    have bX : 0 ≤ X ∧ X < 256 := by rw [← hX]; exact xor8_bd _ _ bz (by decide)
    have A19 : Hid (Sl w1 ((w17.setCell ⟨g17, 45, none⟩ (.slice (some ⟨g7, 0, none⟩) m c7)).setCell ⟨gT, 0, none⟩ (.int .u8 X)) gM gT ms (zs.set 0 X) ∧ Blk ((w17.setCell ⟨g17, 45, none⟩ (.slice (some ⟨g7, 0, none⟩) m c7)).setCell ⟨gT, 0, none⟩ (.int .u8 X)) g17 44 (caseC key nonce ao n c (some ⟨g7, 0, none⟩) m c7) ∧ ((w17.setCell ⟨g17, 45, none⟩ (.slice (some ⟨g7, 0, none⟩) m c7)).setCell ⟨gT, 0, none⟩ (.int .u8 X)).ownsRow w16.heap.size 5 1 (.slice (some ⟨g7, 0, none⟩) m c7) m (zs.map (Value.int .u8)) ∧ (Out ((w17.setCell ⟨g17, 45, none⟩ (.slice (some ⟨g7, 0, none⟩) m c7)).setCell ⟨gT, 0, none⟩ (.int .u8 X)) w6.heap.size w7.heap.size o1 K c1 R1 ∧ Out ((w17.setCell ⟨g17, 45, none⟩ (.slice (some ⟨g7, 0, none⟩) m c7)).setCell ⟨gT, 0, none⟩ (.int .u8 X)) w7.heap.size w8.heap.size o2 K c2 R1 ∧ Out ((w17.setCell ⟨g17, 45, none⟩ (.slice (some ⟨g7, 0, none⟩) m c7)).setCell ⟨gT, 0, none⟩ (.int .u8 X)) w8.heap.size w9.heap.size o3 KP c3 RP ∧ Out ((w17.setCell ⟨g17, 45, none⟩ (.slice (some ⟨g7, 0, none⟩) m c7)).setCell ⟨gT, 0, none⟩ (.int .u8 X)) w9.heap.size w10.heap.size o4 KP c4 RP ∧ Out ((w17.setCell ⟨g17, 45, none⟩ (.slice (some ⟨g7, 0, none⟩) m c7)).setCell ⟨gT, 0, none⟩ (.int .u8 X)) w12.heap.size w13.heap.size o5 K c5 R1 ∧ Out ((w17.setCell ⟨g17, 45, none⟩ (.slice (some ⟨g7, 0, none⟩) m c7)).setCell ⟨gT, 0, none⟩ (.int .u8 X)) w13.heap.size w14.heap.size o6 KP c6 RP) ∧ w16.heap.size ≤ ((w17.setCell ⟨g17, 45, none⟩ (.slice (some ⟨g7, 0, none⟩) m c7)).setCell ⟨gT, 0, none⟩ (.int .u8 X)).heap.size) := by
      have gg := G17.out
      have K19 := (Kept.refl (fun y => y = gT) (w17.setCell ⟨g17, 45, none⟩ (.slice (some ⟨g7, 0, none⟩) m c7))).setCell (p := ⟨gT, 0, none⟩) rfl (.int .u8 X)
      have t := tx.set 0 (.int .u8 X)
      rw [u8s_set, spared_set zs 0 X (by have := HL.out.2.2.1; omega)] at t
      have OO := A18.out.2.1
      refine ⟨⟨A18.out.1.sl.mo.kept K19 (by omega), t, below_kept A18.out.1.sl.bel K19 A18.out.1.sl.bel.size (fun j hj e => by omega)⟩, A18.out.1.cs.kept K19 (by omega), own_kept A18.out.1.own K19 (fun j hj e => by have := (A18.out.1.own.lt j hj).1; omega), ⟨OO.1.kept K19 (fun y h1 h2 e => by omega), OO.2.1.kept K19 (fun y h1 h2 e => by omega), OO.2.2.1.kept K19 (fun y h1 h2 e => by omega), OO.2.2.2.1.kept K19 (fun y h1 h2 e => by omega), OO.2.2.2.2.1.kept K19 (fun y h1 h2 e => by omega), OO.2.2.2.2.2.kept K19 (fun y h1 h2 e => by omega)⟩, ?_⟩
      have s18 := A18.out.2.2
      have : ((w17.setCell ⟨g17, 45, none⟩ (.slice (some ⟨g7, 0, none⟩) m c7)).setCell ⟨gT, 0, none⟩ (.int .u8 X)).heap.size = (w17.setCell ⟨g17, 45, none⟩ (.slice (some ⟨g7, 0, none⟩) m c7)).heap.size := by simp [World.setCell]
      omega
    have ZZ : Hid (zs.getD 0 0 = Z ∧ bits .xor .u8 Z 1 = X) := ⟨hZ, hX⟩
    clear hZ tx A18
    have cM := (CS.out _ A19.out.1.bel).cM
    clear cM
    go_wp2_with fail
    obtain ⟨W19, hW19⟩ : ∃ W, (w17.setCell ⟨g17, 45, none⟩ (.slice (some ⟨g7, 0, none⟩) m c7)).setCell ⟨gT, 0, none⟩ (.int .u8 X) = W := ⟨_, rfl⟩
    rw [hW19] at A19 ⊢
    clear hW19 c0 f0 f45 c45
    refine region_inv [.val (.pointer (some ⟨g17, 45, none⟩)), .val (.slice (some ⟨g7, 0, none⟩) m c7), .val (.pointer (some ⟨g17, 45, none⟩)), .val (.slice (some ⟨g7, 0, none⟩) m c7), .val (.pointer (some ⟨g7, 0, none⟩)), .val (.int .u8 Z), .val (.int .u8 X), .val (.pointer (some ⟨g7, 0, none⟩))] (by kernel_rfl) (by kernel_rfl) (by kernel_rfl) ?_ ?_
    · refine Steps'.cons ?_ (Steps'.cons ?_ (Steps'.cons ?_ (Steps'.cons ?_ (Steps'.cons ?_ (Steps'.cons ?_ (Steps'.cons ?_ (Steps'.cons ?_ (Steps'.one _ _ _ _ _ _ _))))))))
      · intro ax wx hb hs hd
        have h17 : ax.tmps.getD 17 undef = (.pointer (some ⟨g17, 0, none⟩)) := hs 17 (by kernel_rfl)
        refine Does.value (.pointer (some ⟨g17, 45, none⟩)) ?_ rfl
        clear hs hd
        go_simp
      · intro ax wx hb hs hd
        have h123 : ax.tmps.getD 123 undef = (.pointer (some ⟨g17, 45, none⟩)) := hd 0 123 rfl (by kernel_rfl) (by decide)
        have cx : wx.cell? ⟨g17, 45, none⟩ = some (.slice (some ⟨g7, 0, none⟩) m c7) := by
          rw [(A19.out.2.1.later hb A19.out.2.1.lt).cell, caseC, List.getElem?_append_right (by rw [u8s_length, HI.out.k32]; decide), u8s_length, HI.out.k32, List.getElem?_append_right (by rw [u8s_length, HI.out.n12]; decide), u8s_length, HI.out.n12]; rfl
        refine Does.value (.slice (some ⟨g7, 0, none⟩) m c7) ?_ rfl
        clear hs hd
        go_simp
      · intro ax wx hb hs hd
        have h17 : ax.tmps.getD 17 undef = (.pointer (some ⟨g17, 0, none⟩)) := hs 17 (by kernel_rfl)
        refine Does.value (.pointer (some ⟨g17, 45, none⟩)) ?_ rfl
        clear hs hd
        go_simp
      · intro ax wx hb hs hd
        have h125 : ax.tmps.getD 125 undef = (.pointer (some ⟨g17, 45, none⟩)) := hd 2 125 rfl (by kernel_rfl) (by decide)
        have cx : wx.cell? ⟨g17, 45, none⟩ = some (.slice (some ⟨g7, 0, none⟩) m c7) := by
          rw [(A19.out.2.1.later hb A19.out.2.1.lt).cell, caseC, List.getElem?_append_right (by rw [u8s_length, HI.out.k32]; decide), u8s_length, HI.out.k32, List.getElem?_append_right (by rw [u8s_length, HI.out.n12]; decide), u8s_length, HI.out.n12]; rfl
        refine Does.value (.slice (some ⟨g7, 0, none⟩) m c7) ?_ rfl
        clear hs hd
        go_simp
      · intro ax wx hb hs hd
        have h126 : ax.tmps.getD 126 undef = (.slice (some ⟨g7, 0, none⟩) m c7) := hd 3 126 rfl (by kernel_rfl) (by decide)
        refine Does.value (.pointer (some ⟨g7, 0, none⟩)) ?_ rfl
        clear hs hd
        go_simp
      · intro ax wx hb hs hd
        have h127 : ax.tmps.getD 127 undef = (.pointer (some ⟨g7, 0, none⟩)) := hd 4 127 rfl (by kernel_rfl) (by decide)
        have cx := (own_at (ownsRow_below A19.out.2.2.1 hb) 0 hm0).1
        rw [ZZ.out.1] at cx
        refine Does.value (.int .u8 Z) ?_ rfl
        clear hs hd
        go_simp
      · intro ax wx hb hs hd
        have h128 : ax.tmps.getD 128 undef = (.int .u8 Z) := hd 5 128 rfl (by kernel_rfl) (by decide)
        have xx := ZZ.out.2
        refine Does.value (.int .u8 X) ?_ rfl
        clear hs hd
        go_simp
      · intro ax wx hb hs hd
        have h124 : ax.tmps.getD 124 undef = (.slice (some ⟨g7, 0, none⟩) m c7) := hd 1 124 rfl (by kernel_rfl) (by decide)
        refine Does.value (.pointer (some ⟨g7, 0, none⟩)) ?_ rfl
        clear hs hd
        go_simp
    · intro wx hb
      refine @Ends.val _ _ _ _ _ _ _ _ _ (.pointer (some ⟨g17, 45, none⟩)) rfl ?_
      refine @Ends.val _ _ _ _ _ _ _ _ _ (.slice (some ⟨g7, 0, none⟩) m c7) rfl ?_
      refine @Ends.val _ _ _ _ _ _ _ _ _ (.pointer (some ⟨g17, 45, none⟩)) rfl ?_
      refine @Ends.val _ _ _ _ _ _ _ _ _ (.slice (some ⟨g7, 0, none⟩) m c7) rfl ?_
      refine @Ends.val _ _ _ _ _ _ _ _ _ (.pointer (some ⟨g7, 0, none⟩)) rfl ?_
      refine @Ends.val _ _ _ _ _ _ _ _ _ (.int .u8 Z) rfl ?_
      refine @Ends.val _ _ _ _ _ _ _ _ _ (.int .u8 X) rfl ?_
      refine @Ends.val _ _ _ _ _ _ _ _ _ (.pointer (some ⟨g7, 0, none⟩)) rfl ?_
      refine @Ends.one _ _ _ _ _ _ _ ?_
      simp only [Act.put, List.setIfInBounds_toArray, List.set_cons_zero, List.set_cons_succ]
      have OW := ownsRow_below A19.out.2.2.1 hb
      have oa := own_at OW 0 hm0
      refine last_byte (.tmp 130) (.tmp 129) rfl rfl ⟨g7, 0, none⟩ rfl X _ rfl oa.1 oa.2 ?_
      have A20 : Hid (Tn w1 (wx.setCell ⟨g7, 0, none⟩ (.int .u8 X)) gM gT g17 w16.heap.size key nonce ao n c ms (some ⟨g7, 0, none⟩) m c7 (zs.set 0 X) ∧ (Out (wx.setCell ⟨g7, 0, none⟩ (.int .u8 X)) w6.heap.size w7.heap.size o1 K c1 R1 ∧ Out (wx.setCell ⟨g7, 0, none⟩ (.int .u8 X)) w7.heap.size w8.heap.size o2 K c2 R1 ∧ Out (wx.setCell ⟨g7, 0, none⟩ (.int .u8 X)) w8.heap.size w9.heap.size o3 KP c3 RP ∧ Out (wx.setCell ⟨g7, 0, none⟩ (.int .u8 X)) w9.heap.size w10.heap.size o4 KP c4 RP ∧ Out (wx.setCell ⟨g7, 0, none⟩ (.int .u8 X)) w12.heap.size w13.heap.size o5 K c5 R1 ∧ Out (wx.setCell ⟨g7, 0, none⟩ (.int .u8 X)) w13.heap.size w14.heap.size o6 KP c6 RP) ∧ w16.heap.size ≤ (wx.setCell ⟨g7, 0, none⟩ (.int .u8 X)).heap.size) := by
        have gg := G17.out
        have K20 := (Kept.refl (fun y => y = g7) wx).setCell (p := ⟨g7, 0, none⟩) rfl (.int .u8 X)
        have OO := A19.out.2.2.2.1
        refine ⟨⟨(A19.out.1.later hb).kept K20 (fun y hy => by have := A19.out.1.bel.size; omega), (A19.out.2.1.later hb A19.out.2.1.lt).kept K20 (by omega), own_set OW 0 hm0 X⟩, ⟨(OO.1.later hb).kept K20 (fun y h1 h2 e => by omega), (OO.2.1.later hb).kept K20 (fun y h1 h2 e => by omega), (OO.2.2.1.later hb).kept K20 (fun y h1 h2 e => by omega), (OO.2.2.2.1.later hb).kept K20 (fun y h1 h2 e => by omega), (OO.2.2.2.2.1.later hb).kept K20 (fun y h1 h2 e => by omega), (OO.2.2.2.2.2.later hb).kept K20 (fun y h1 h2 e => by omega)⟩, ?_⟩
        have : (wx.setCell ⟨g7, 0, none⟩ (.int .u8 X)).heap.size = wx.heap.size := by simp [World.setCell]
        have := hb.size
        have := A19.out.2.2.2.2
        omega
      have US : Hid ((zs.set 0 X).length = m ∧ Bytes (zs.set 0 X)) := ⟨by rw [List.length_set]; exact HL.out.2.2.1, bytes_set HL.out.2.2.2 0 _ bX⟩
      clear OW oa hb A19
      go_wp2_with (first | (refine wpList_load_blk rfl 44 _ rfl g17 rfl (caseC key nonce ao n c (some ⟨g7, 0, none⟩) m c7) _ A20.out.1.cs Try.underlying44 rfl (by rw [LC.out]; exact sizeCase) ?_))
      refine (opened_any key nonce ao n c ms (some ⟨g7, 0, none⟩) m c7 (zs.set 0 X) (some ⟨gM, 0, none⟩) (some ⟨gT, 0, none⟩) (n + 80) (m + 80) _ (TT.out _ _ US.out.1 US.out.2 A20.out.1) (by have q := spared_big A20.out.1.sl.mo HL.out.2.1 (by rw [HL.out.1]; exact hn); rwa [HL.out.1] at q) (by have q := spared_big A20.out.1.sl.tx US.out.2 (by rw [US.out.1]; exact hm); rwa [US.out.1] at q) (by omega) (by omega)).mono ?_
      rintro e w21 ⟨rfl, l21⟩
      have z21 := l21.size
      have B21 : Hid (Tn w1 w21 gM gT g17 w16.heap.size key nonce ao n c ms (some ⟨g7, 0, none⟩) m c7 (zs.set 0 X) ∧ (Out w21 w6.heap.size w7.heap.size o1 K c1 R1 ∧ Out w21 w7.heap.size w8.heap.size o2 K c2 R1 ∧ Out w21 w8.heap.size w9.heap.size o3 KP c3 RP ∧ Out w21 w9.heap.size w10.heap.size o4 KP c4 RP ∧ Out w21 w12.heap.size w13.heap.size o5 K c5 R1 ∧ Out w21 w13.heap.size w14.heap.size o6 KP c6 RP) ∧ w16.heap.size ≤ w21.heap.size) := ⟨A20.out.1.later l21, ⟨A20.out.2.1.1.later l21, A20.out.2.1.2.1.later l21, A20.out.2.1.2.2.1.later l21, A20.out.2.1.2.2.2.1.later l21, A20.out.2.1.2.2.2.2.1.later l21, A20.out.2.1.2.2.2.2.2.later l21⟩, Nat.le_trans A20.out.2.2 z21⟩
      clear l21 z21
      go_wp2_with fail
      refine (eqb_yes o1 o5 K c1 c5 R1 w21 B21.out.2.1.1.seen B21.out.2.1.2.2.2.2.1.seen).mono ?_
      rintro e w22 ⟨rfl, q, hq⟩
      have B22 : Hid (Tn w1 w22 gM gT g17 w16.heap.size key nonce ao n c ms (some ⟨g7, 0, none⟩) m c7 (zs.set 0 X) ∧ (Out w22 w6.heap.size w7.heap.size o1 K c1 R1 ∧ Out w22 w7.heap.size w8.heap.size o2 K c2 R1 ∧ Out w22 w8.heap.size w9.heap.size o3 KP c3 RP ∧ Out w22 w9.heap.size w10.heap.size o4 KP c4 RP ∧ Out w22 w12.heap.size w13.heap.size o5 K c5 R1 ∧ Out w22 w13.heap.size w14.heap.size o6 KP c6 RP) ∧ w16.heap.size ≤ w22.heap.size) := by rw [hq]; exact ⟨B21.out.1.dn q, ⟨B21.out.2.1.1.dn q, B21.out.2.1.2.1.dn q, B21.out.2.1.2.2.1.dn q, B21.out.2.1.2.2.2.1.dn q, B21.out.2.1.2.2.2.2.1.dn q, B21.out.2.1.2.2.2.2.2.dn q⟩, Nat.le_trans B21.out.2.2 (size_dn _ q)⟩
      clear hq B21
      go_wp2_with fail
      refine (eqb_yes o2 o5 K c2 c5 R1 w22 B22.out.2.1.2.1.seen B22.out.2.1.2.2.2.2.1.seen).mono ?_
      rintro e w23 ⟨rfl, q, hq⟩
      have B23 : Hid (Tn w1 w23 gM gT g17 w16.heap.size key nonce ao n c ms (some ⟨g7, 0, none⟩) m c7 (zs.set 0 X) ∧ (Out w23 w6.heap.size w7.heap.size o1 K c1 R1 ∧ Out w23 w7.heap.size w8.heap.size o2 K c2 R1 ∧ Out w23 w8.heap.size w9.heap.size o3 KP c3 RP ∧ Out w23 w9.heap.size w10.heap.size o4 KP c4 RP ∧ Out w23 w12.heap.size w13.heap.size o5 K c5 R1 ∧ Out w23 w13.heap.size w14.heap.size o6 KP c6 RP) ∧ w16.heap.size ≤ w23.heap.size) := by rw [hq]; exact ⟨B22.out.1.dn q, ⟨B22.out.2.1.1.dn q, B22.out.2.1.2.1.dn q, B22.out.2.1.2.2.1.dn q, B22.out.2.1.2.2.2.1.dn q, B22.out.2.1.2.2.2.2.1.dn q, B22.out.2.1.2.2.2.2.2.dn q⟩, Nat.le_trans B22.out.2.2 (size_dn _ q)⟩
      clear hq B22
      go_wp2_with fail
      refine (eqb_yes o3 o6 KP c3 c6 RP w23 B23.out.2.1.2.2.1.seen B23.out.2.1.2.2.2.2.2.seen).mono ?_
      rintro e w24 ⟨rfl, q, hq⟩
      have B24 : Hid (Tn w1 w24 gM gT g17 w16.heap.size key nonce ao n c ms (some ⟨g7, 0, none⟩) m c7 (zs.set 0 X) ∧ (Out w24 w6.heap.size w7.heap.size o1 K c1 R1 ∧ Out w24 w7.heap.size w8.heap.size o2 K c2 R1 ∧ Out w24 w8.heap.size w9.heap.size o3 KP c3 RP ∧ Out w24 w9.heap.size w10.heap.size o4 KP c4 RP ∧ Out w24 w12.heap.size w13.heap.size o5 K c5 R1 ∧ Out w24 w13.heap.size w14.heap.size o6 KP c6 RP) ∧ w16.heap.size ≤ w24.heap.size) := by rw [hq]; exact ⟨B23.out.1.dn q, ⟨B23.out.2.1.1.dn q, B23.out.2.1.2.1.dn q, B23.out.2.1.2.2.1.dn q, B23.out.2.1.2.2.2.1.dn q, B23.out.2.1.2.2.2.2.1.dn q, B23.out.2.1.2.2.2.2.2.dn q⟩, Nat.le_trans B23.out.2.2 (size_dn _ q)⟩
      clear hq B23
      go_wp2_with fail
      refine (eqb_yes o4 o6 KP c4 c6 RP w24 B24.out.2.1.2.2.2.1.seen B24.out.2.1.2.2.2.2.2.seen).mono ?_
      rintro e w25 ⟨rfl, q, hq⟩
      have B25 : Hid (Tn w1 w25 gM gT g17 w16.heap.size key nonce ao n c ms (some ⟨g7, 0, none⟩) m c7 (zs.set 0 X) ∧ (Out w25 w6.heap.size w7.heap.size o1 K c1 R1 ∧ Out w25 w7.heap.size w8.heap.size o2 K c2 R1 ∧ Out w25 w8.heap.size w9.heap.size o3 KP c3 RP ∧ Out w25 w9.heap.size w10.heap.size o4 KP c4 RP ∧ Out w25 w12.heap.size w13.heap.size o5 K c5 R1 ∧ Out w25 w13.heap.size w14.heap.size o6 KP c6 RP) ∧ w16.heap.size ≤ w25.heap.size) := by rw [hq]; exact ⟨B24.out.1.dn q, ⟨B24.out.2.1.1.dn q, B24.out.2.1.2.1.dn q, B24.out.2.1.2.2.1.dn q, B24.out.2.1.2.2.2.1.dn q, B24.out.2.1.2.2.2.2.1.dn q, B24.out.2.1.2.2.2.2.2.dn q⟩, Nat.le_trans B24.out.2.2 (size_dn _ q)⟩
      clear hq B24
      go_wp2_with (refine wpList_bs rfl 50 4 _ rfl _ rfl _ _ (sbs4 o1 o2 o3 o4 K K KP KP c1 c2 c3 c4 _) ?_)
      have LT := slot4 B25.out.2.1.1 B25.out.2.1.2.1 B25.out.2.1.2.2.1 B25.out.2.1.2.2.2.1 (Nat.le_refl _) (Nat.le_refl _) (Nat.le_refl _) z7 z8 z9 z10 (by have := B25.out.2.2; omega)
      refine (rapart_any w25.heap.size 4 4 _ _ _ _ _ _ LT.1 (by decide) (fun j hj => by rcases (by omega : j = 0 ∨ j = 1 ∨ j = 2 ∨ j = 3) with rfl | rfl | rfl | rfl <;> simp <;> omega)).mono ?_
      rintro e w26 ⟨rfl, kh⟩
      have B26 : Hid (Tn w1 w26 gM gT g17 w16.heap.size key nonce ao n c ms (some ⟨g7, 0, none⟩) m c7 (zs.set 0 X)) := by
        have l := (Below.refl w25.heap.size w25).alloc (Nat.le_refl _) (.cells #[.slice o1 K c1, .slice o2 K c2, .slice o3 KP c3, .slice o4 KP c4] 22)
        have e3 := A3.out.2
        have gg := G17.out
        exact (B25.out.1.later l).kept kh (fun y hy => by have := LT.2 y hy; omega)
      clear LT kh B25
      have c45 : w26.cell? ⟨g17, 45, none⟩ = some (.slice (some ⟨g7, 0, none⟩) m c7) := by
        rw [B26.out.cs.cell, caseC, List.getElem?_append_right (by rw [u8s_length, HI.out.k32]; decide), u8s_length, HI.out.k32, List.getElem?_append_right (by rw [u8s_length, HI.out.n12]; decide), u8s_length, HI.out.n12]; rfl
      go_wp2_with fail
      refine (eqb_yes (some ⟨gT, 0, none⟩) (some ⟨g7, 0, none⟩) m (m + 80) c7 (zs.set 0 X) w26 (by have q := spared_big B26.out.sl.tx US.out.2 (by rw [US.out.1]; exact hm); rwa [US.out.1] at q) (seen_own7 US.out.1 US.out.2 (by omega) B26.out.own)).mono ?_
      rintro e w27 ⟨rfl, q, hq⟩
      have B27 : Hid (Below w1.heap.size w1 w27) := by rw [hq]; exact (B26.out.dn q).sl.bel
      clear hq B26
      go_wp2_with (go_at_call 20; refine (sworks_any _).mono ?_; rintro e w28 ⟨rfl, l28⟩)
      go_ret
      exact ⟨rfl, below_chain (below_chain H1.out.2 B27.out H1.out.2.size) l28 (by have := H1.out.2.size; have := B27.out.size; omega)⟩
  · have j0 : ¬ (0 : Int) < (m : Int) := by omega
    have A20 : Hid (Tn w1 (w17.setCell ⟨g17, 45, none⟩ (.slice o7 m c7)) gM gT g17 w16.heap.size key nonce ao n c ms o7 m c7 zs ∧ (Out (w17.setCell ⟨g17, 45, none⟩ (.slice o7 m c7)) w6.heap.size w7.heap.size o1 K c1 R1 ∧ Out (w17.setCell ⟨g17, 45, none⟩ (.slice o7 m c7)) w7.heap.size w8.heap.size o2 K c2 R1 ∧ Out (w17.setCell ⟨g17, 45, none⟩ (.slice o7 m c7)) w8.heap.size w9.heap.size o3 KP c3 RP ∧ Out (w17.setCell ⟨g17, 45, none⟩ (.slice o7 m c7)) w9.heap.size w10.heap.size o4 KP c4 RP ∧ Out (w17.setCell ⟨g17, 45, none⟩ (.slice o7 m c7)) w12.heap.size w13.heap.size o5 K c5 R1 ∧ Out (w17.setCell ⟨g17, 45, none⟩ (.slice o7 m c7)) w13.heap.size w14.heap.size o6 KP c6 RP) ∧ w16.heap.size ≤ (w17.setCell ⟨g17, 45, none⟩ (.slice o7 m c7)).heap.size) := ⟨A18.out.1, A18.out.2.1, by have := A18.out.2.2; omega⟩
    clear A18
    go_wp2_with (first | (refine wpList_load_blk rfl 44 _ rfl g17 rfl (caseC key nonce ao n c o7 m c7) _ A20.out.1.cs Try.underlying44 rfl (by rw [LC.out]; exact sizeCase) ?_))
    refine (opened_any key nonce ao n c ms o7 m c7 zs (some ⟨gM, 0, none⟩) (some ⟨gT, 0, none⟩) (n + 80) (m + 80) _ (TT.out _ _ HL.out.2.2.1 HL.out.2.2.2 A20.out.1) (by have q := spared_big A20.out.1.sl.mo HL.out.2.1 (by rw [HL.out.1]; exact hn); rwa [HL.out.1] at q) (by have q := spared_big A20.out.1.sl.tx HL.out.2.2.2 (by rw [HL.out.2.2.1]; exact hm); rwa [HL.out.2.2.1] at q) (by omega) (by omega)).mono ?_
    rintro e w21 ⟨rfl, l21⟩
    have z21 := l21.size
    have B21 : Hid (Tn w1 w21 gM gT g17 w16.heap.size key nonce ao n c ms o7 m c7 zs ∧ (Out w21 w6.heap.size w7.heap.size o1 K c1 R1 ∧ Out w21 w7.heap.size w8.heap.size o2 K c2 R1 ∧ Out w21 w8.heap.size w9.heap.size o3 KP c3 RP ∧ Out w21 w9.heap.size w10.heap.size o4 KP c4 RP ∧ Out w21 w12.heap.size w13.heap.size o5 K c5 R1 ∧ Out w21 w13.heap.size w14.heap.size o6 KP c6 RP) ∧ w16.heap.size ≤ w21.heap.size) := ⟨A20.out.1.later l21, ⟨A20.out.2.1.1.later l21, A20.out.2.1.2.1.later l21, A20.out.2.1.2.2.1.later l21, A20.out.2.1.2.2.2.1.later l21, A20.out.2.1.2.2.2.2.1.later l21, A20.out.2.1.2.2.2.2.2.later l21⟩, Nat.le_trans A20.out.2.2 z21⟩
    clear l21 z21
    go_wp2_with fail
    refine (eqb_yes o1 o5 K c1 c5 R1 w21 B21.out.2.1.1.seen B21.out.2.1.2.2.2.2.1.seen).mono ?_
    rintro e w22 ⟨rfl, q, hq⟩
    have B22 : Hid (Tn w1 w22 gM gT g17 w16.heap.size key nonce ao n c ms o7 m c7 zs ∧ (Out w22 w6.heap.size w7.heap.size o1 K c1 R1 ∧ Out w22 w7.heap.size w8.heap.size o2 K c2 R1 ∧ Out w22 w8.heap.size w9.heap.size o3 KP c3 RP ∧ Out w22 w9.heap.size w10.heap.size o4 KP c4 RP ∧ Out w22 w12.heap.size w13.heap.size o5 K c5 R1 ∧ Out w22 w13.heap.size w14.heap.size o6 KP c6 RP) ∧ w16.heap.size ≤ w22.heap.size) := by rw [hq]; exact ⟨B21.out.1.dn q, ⟨B21.out.2.1.1.dn q, B21.out.2.1.2.1.dn q, B21.out.2.1.2.2.1.dn q, B21.out.2.1.2.2.2.1.dn q, B21.out.2.1.2.2.2.2.1.dn q, B21.out.2.1.2.2.2.2.2.dn q⟩, Nat.le_trans B21.out.2.2 (size_dn _ q)⟩
    clear hq B21
    go_wp2_with fail
    refine (eqb_yes o2 o5 K c2 c5 R1 w22 B22.out.2.1.2.1.seen B22.out.2.1.2.2.2.2.1.seen).mono ?_
    rintro e w23 ⟨rfl, q, hq⟩
    have B23 : Hid (Tn w1 w23 gM gT g17 w16.heap.size key nonce ao n c ms o7 m c7 zs ∧ (Out w23 w6.heap.size w7.heap.size o1 K c1 R1 ∧ Out w23 w7.heap.size w8.heap.size o2 K c2 R1 ∧ Out w23 w8.heap.size w9.heap.size o3 KP c3 RP ∧ Out w23 w9.heap.size w10.heap.size o4 KP c4 RP ∧ Out w23 w12.heap.size w13.heap.size o5 K c5 R1 ∧ Out w23 w13.heap.size w14.heap.size o6 KP c6 RP) ∧ w16.heap.size ≤ w23.heap.size) := by rw [hq]; exact ⟨B22.out.1.dn q, ⟨B22.out.2.1.1.dn q, B22.out.2.1.2.1.dn q, B22.out.2.1.2.2.1.dn q, B22.out.2.1.2.2.2.1.dn q, B22.out.2.1.2.2.2.2.1.dn q, B22.out.2.1.2.2.2.2.2.dn q⟩, Nat.le_trans B22.out.2.2 (size_dn _ q)⟩
    clear hq B22
    go_wp2_with fail
    refine (eqb_yes o3 o6 KP c3 c6 RP w23 B23.out.2.1.2.2.1.seen B23.out.2.1.2.2.2.2.2.seen).mono ?_
    rintro e w24 ⟨rfl, q, hq⟩
    have B24 : Hid (Tn w1 w24 gM gT g17 w16.heap.size key nonce ao n c ms o7 m c7 zs ∧ (Out w24 w6.heap.size w7.heap.size o1 K c1 R1 ∧ Out w24 w7.heap.size w8.heap.size o2 K c2 R1 ∧ Out w24 w8.heap.size w9.heap.size o3 KP c3 RP ∧ Out w24 w9.heap.size w10.heap.size o4 KP c4 RP ∧ Out w24 w12.heap.size w13.heap.size o5 K c5 R1 ∧ Out w24 w13.heap.size w14.heap.size o6 KP c6 RP) ∧ w16.heap.size ≤ w24.heap.size) := by rw [hq]; exact ⟨B23.out.1.dn q, ⟨B23.out.2.1.1.dn q, B23.out.2.1.2.1.dn q, B23.out.2.1.2.2.1.dn q, B23.out.2.1.2.2.2.1.dn q, B23.out.2.1.2.2.2.2.1.dn q, B23.out.2.1.2.2.2.2.2.dn q⟩, Nat.le_trans B23.out.2.2 (size_dn _ q)⟩
    clear hq B23
    go_wp2_with fail
    refine (eqb_yes o4 o6 KP c4 c6 RP w24 B24.out.2.1.2.2.2.1.seen B24.out.2.1.2.2.2.2.2.seen).mono ?_
    rintro e w25 ⟨rfl, q, hq⟩
    have B25 : Hid (Tn w1 w25 gM gT g17 w16.heap.size key nonce ao n c ms o7 m c7 zs ∧ (Out w25 w6.heap.size w7.heap.size o1 K c1 R1 ∧ Out w25 w7.heap.size w8.heap.size o2 K c2 R1 ∧ Out w25 w8.heap.size w9.heap.size o3 KP c3 RP ∧ Out w25 w9.heap.size w10.heap.size o4 KP c4 RP ∧ Out w25 w12.heap.size w13.heap.size o5 K c5 R1 ∧ Out w25 w13.heap.size w14.heap.size o6 KP c6 RP) ∧ w16.heap.size ≤ w25.heap.size) := by rw [hq]; exact ⟨B24.out.1.dn q, ⟨B24.out.2.1.1.dn q, B24.out.2.1.2.1.dn q, B24.out.2.1.2.2.1.dn q, B24.out.2.1.2.2.2.1.dn q, B24.out.2.1.2.2.2.2.1.dn q, B24.out.2.1.2.2.2.2.2.dn q⟩, Nat.le_trans B24.out.2.2 (size_dn _ q)⟩
    clear hq B24
    go_wp2_with (refine wpList_bs rfl 50 4 _ rfl _ rfl _ _ (sbs4 o1 o2 o3 o4 K K KP KP c1 c2 c3 c4 _) ?_)
    have LT := slot4 B25.out.2.1.1 B25.out.2.1.2.1 B25.out.2.1.2.2.1 B25.out.2.1.2.2.2.1 (Nat.le_refl _) (Nat.le_refl _) (Nat.le_refl _) z7 z8 z9 z10 (by have := B25.out.2.2; omega)
    refine (rapart_any w25.heap.size 4 4 _ _ _ _ _ _ LT.1 (by decide) (fun j hj => by rcases (by omega : j = 0 ∨ j = 1 ∨ j = 2 ∨ j = 3) with rfl | rfl | rfl | rfl <;> simp <;> omega)).mono ?_
    rintro e w26 ⟨rfl, kh⟩
    have B26 : Hid (Tn w1 w26 gM gT g17 w16.heap.size key nonce ao n c ms o7 m c7 zs) := by
      have l := (Below.refl w25.heap.size w25).alloc (Nat.le_refl _) (.cells #[.slice o1 K c1, .slice o2 K c2, .slice o3 KP c3, .slice o4 KP c4] 22)
      have e3 := A3.out.2
      have gg := G17.out
      exact (B25.out.1.later l).kept kh (fun y hy => by have := LT.2 y hy; omega)
    clear LT kh B25
    have c45 : w26.cell? ⟨g17, 45, none⟩ = some (.slice o7 m c7) := by
      rw [B26.out.cs.cell, caseC, List.getElem?_append_right (by rw [u8s_length, HI.out.k32]; decide), u8s_length, HI.out.k32, List.getElem?_append_right (by rw [u8s_length, HI.out.n12]; decide), u8s_length, HI.out.n12]; rfl
    go_wp2_with fail
    refine (eqb_yes (some ⟨gT, 0, none⟩) o7 m (m + 80) c7 zs w26 (by have q := spared_big B26.out.sl.tx HL.out.2.2.2 (by rw [HL.out.2.2.1]; exact hm); rwa [HL.out.2.2.1] at q) (seen_own7 HL.out.2.2.1 HL.out.2.2.2 (by omega) B26.out.own)).mono ?_
    rintro e w27 ⟨rfl, q, hq⟩
    have B27 : Hid (Below w1.heap.size w1 w27) := by rw [hq]; exact (B26.out.dn q).sl.bel
    clear hq B26
    go_wp2_with (go_at_call 20; refine (sworks_any _).mono ?_; rintro e w28 ⟨rfl, l28⟩)
    go_ret
    exact ⟨rfl, below_chain (below_chain H1.out.2 B27.out H1.out.2.size) l28 (by have := H1.out.2.size; have := B27.out.size; omega)⟩
end Go.Proofs.Ytcimiajkbgabiaa
