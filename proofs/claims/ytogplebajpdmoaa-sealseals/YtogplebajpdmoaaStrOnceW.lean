/- The walk of StreamOnce. -/
import Derived.Test.YtogplebajpdmoaaRSXor
import Derived.Test.YtogplebajpdmoaaBY
import Derived.Test.YtogplebajpdmoaaOApartW
import Derived.Test.YtogplebajpdmoaaBO
namespace Go.Proofs.Ytogplebajpdmoaa
open Go.RowKit
set_option linter.unusedVariables false
set_option linter.unusedSimpArgs false

/-- A row that was handed out, in blocks from lo on, below hi. -/
structure Out (W : World) (lo hi : Nat) (vo : Option Addr) (n cap : Nat) (L : List Int) : Prop where
  own : W.ownsRow 0 5 1 (.slice vo n cap) n (L.map (Value.int .u8))
  seen : Seen W vo n L
  place : ∀ b o, vo = some ⟨b, o, none⟩ → lo ≤ b ∧ b < hi
  nil : vo = none → cap = 0
theorem out_of {W W' : World} {v : Value} {n : Nat} {L : List Int} (hl : L.length = n) (hb : Bytes L) (ht : n ≤ 140737488355328) (h : W'.ownsRow W.heap.size 5 1 v n (L.map (Value.int .u8))) : ∃ vo cap, v = .slice vo n cap ∧ Out W' W.heap.size W'.heap.size vo n cap L := by
  rcases own_len hl h with ⟨rfl, rfl⟩ | ⟨g, cap, rfl, r1, g1, c1, m1⟩
  · exact ⟨none, 0, rfl, ownsRow_base h (Nat.zero_le _), by rw [List.length_eq_zero_iff.1 hl]; exact Seen.empty _ _, fun b o e => (by cases e), fun _ => rfl⟩
  · have s := Seen.of_row (n := n) r1 (by omega) ht hb
    rw [List.take_of_length_le (by omega)] at s
    exact ⟨_, cap, rfl, ownsRow_base h (Nat.zero_le _), s, fun b o e => (by cases e; exact ⟨g1, r1.lt⟩), fun e => (by cases e)⟩
theorem Out.kept {W W' : World} {lo hi n cap : Nat} {vo : Option Addr} {L : List Int} {S : Nat → Prop} (h : Out W lo hi vo n cap L) (hk : Kept S W W') (hS : ∀ y, lo ≤ y → y < hi → ¬ S y) : Out W' lo hi vo n cap L :=
  ⟨own_kept h.own hk (fun k e => by have := own_addr h.own e; have p := h.place k 0 this; exact hS k p.1 p.2), h.seen.kept hk (fun b o _ e => hS b (h.place b o e).1 (h.place b o e).2), h.place, h.nil⟩
theorem Out.later {W W' : World} {lo hi n cap : Nat} {vo : Option Addr} {L : List Int} (h : Out W lo hi vo n cap L) (l : Below W.heap.size W W') : Out W' lo hi vo n cap L := h.kept (Kept.new (fun _ => False) l) (fun _ _ _ => id)
theorem obs2 (s1 s2 : Option Addr) (n1 n2 c1 c2 : Nat) (w : World) : (Instr.buildSlice 40 2 #[(0, .slice s1 n1 c1), (1, .slice s2 n2 c2)]).run Try.prog w = .ok (.slice (some ⟨w.heap.size, 0, none⟩) 2 2) (w.alloc (.cells #[.slice s1 n1 c1, .slice s2 n2 c2] 31)) := by kernel_rfl
theorem wpList_bs {ops : Array Oper} {rest : List Oper} {o : Oper} {a : Act} {Q : Exit → Act → World → Prop} {w : World} (hgd : o.guard = none) (t : TypeId) (m : Nat) (parts : Array (Nat × Operand)) (ho : o.op = .buildSlice t m parts) (ps : Array (Nat × Value))
    (hp : (parts.map fun (i, x) => (i, a.eval x)) = ps) (v : Value) (w' : World) (hrun : (Instr.buildSlice t m ps).run Try.prog w = .ok v w') (h : wpList Try.prog ops Q rest (a.put o.dst v) w') : wpList Try.prog ops Q (o :: rest) a w := by
  refine wpList_plain hgd fun K hK => ?_
  unfold Oper.wp execOp
  simp only [ho, hp, Sem.run_bind, hrun, Sem.run_pure, Result.andThen_ok]
  exact hK _ _ h
theorem cell_two (w : World) (x y : Value) (t : TypeId) (j : Nat) (hj : j < 2) : (w.alloc (.cells #[x, y] t)).cell? ⟨w.heap.size, j, none⟩ = some ([x, y].getD j undef) := by
  have h : (w.alloc (.cells #[x, y] t)).heap[w.heap.size]? = some (.cells [x, y].toArray t (0, 0)) := heap_alloc_new w _
  rw [cell_of_row _ _ j _ t (0, 0) h]
  rcases (by omega : j = 0 ∨ j = 1) with rfl | rfl <;> rfl
/-- The two rows, as a lot. -/
theorem lot2 {W : World} {o1 o2 : Option Addr} {n c1 c2 a b e : Nat} {L1 L2 : List Int} (h1 : Out W a b o1 n c1 L1) (h2 : Out W b e o2 n c2 L2) (hab : a ≤ b) (hde : b ≤ e) (he : e ≤ W.heap.size) :
    Lot (W.alloc (.cells #[.slice o1 n c1, .slice o2 n c2] 31)) W.heap.size 2 (fun j => [o1, o2].getD j none) (fun j => [n, n].getD j 0) (fun j => [c1, c2].getD j 0) (fun j => [c1, c2].getD j 0) (fun j => [L1, L2].getD j []) ∧
    ∀ y, LotS 2 (fun j => [o1, o2].getD j none) y → a ≤ y ∧ y < e := by
  have l := (Below.refl W.heap.size W).alloc (Nat.le_refl _) (.cells #[.slice o1 n c1, .slice o2 n c2] 31)
  have hp : ∀ j g, j < 2 → [o1, o2].getD j none = some ⟨g, 0, none⟩ → [a, b].getD j 0 ≤ g ∧ g < [b, e].getD j 0 := by
    intro j g hj e1
    rcases (by omega : j = 0 ∨ j = 1) with rfl | rfl
    · exact h1.place g 0 e1
    · exact h2.place g 0 e1
  have hr : ∀ j g, j < 2 → [o1, o2].getD j none = some ⟨g, 0, none⟩ → a ≤ g ∧ g < e := by
    intro j g hj e1
    have := hp j g hj e1
    rcases (by omega : j = 0 ∨ j = 1) with rfl | rfl <;> simp at this <;> omega
  refine ⟨⟨World.block_lt_of_cell? _ _ (cell_two W _ _ _ 0 (by decide)), fun j hj => ?_, fun j hj => ?_, fun j hj => .inl rfl, fun j j' g hj hj' e1 e2 => ?_, fun j g hj e1 => ?_⟩, fun y ⟨j, hj, e1⟩ => hr j y hj e1⟩
  · rw [cell_two _ _ _ _ j hj]
    rcases (by omega : j = 0 ∨ j = 1) with rfl | rfl <;> rfl
  · rcases (by omega : j = 0 ∨ j = 1) with rfl | rfl
    · exact (h1.later l).own
    · exact (h2.later l).own
  · have p1 := hp j g hj e1
    have p2 := hp j' g hj' e2
    rcases (by omega : j = 0 ∨ j = 1) with rfl | rfl <;> rcases (by omega : j' = 0 ∨ j' = 1) with rfl | rfl <;> first | rfl | (simp at p1 p2; omega)
  · have := hr j g hj e1
    omega
/-- What a text laid over answers: it, or a refusal. -/
def Qx (key nonce : List Int) (ctr n : Nat) (zs : List Int) (M : Nat) (E : Int) (R : List Int) : Prop := (n + 64 * ctr ≤ 274877906944 ∧ M = n ∧ E = 0 ∧ R = over key nonce (64 * ctr) zs) ∨ (274877906944 < n + 64 * ctr ∧ M = 0 ∧ E = 50 ∧ R = [])
theorem qx_ex (key nonce : List Int) (ctr n : Nat) : ∃ M E, M ≤ n ∧ ∀ zs, ∃ R, Qx key nonce ctr n zs M E R := by
  by_cases h : n + 64 * ctr ≤ 274877906944
  · exact ⟨n, 0, Nat.le_refl _, fun zs => ⟨_, .inl ⟨h, rfl, rfl, rfl⟩⟩⟩
  · exact ⟨0, 50, Nat.zero_le _, fun zs => ⟨_, .inr ⟨by omega, rfl, rfl, rfl⟩⟩⟩
theorem rx_out (g : Nat) (key nonce : List Int) (ctr n c : Nat) (ao : Option Addr) (zs : List Int) (M : Nat) (E : Int) (R : List Int) (hq : Qx key nonce ctr n zs M E R) (w : World) (h : RtAt w g key nonce (64 * ctr)) (hx : Seen w ao n zs) :
    Calls Try.prog 41 #[.pointer (some ⟨g, 0, none⟩), .slice ao n c] w fun e w' => ∃ vo cap, e = .returned (.tuple #[.slice vo M cap, .int .i64 E]) ∧ Out w' w.heap.size w'.heap.size vo M cap R ∧ Kept (fun b => b = g) w w' := by
  rcases hq with ⟨hc, hM, hE, hR⟩ | ⟨hc, hM, hE, hR⟩
  · subst hM hE hR
    refine (rsxor_any g key nonce (64 * ctr) _ c ao zs hc w h hx).mono ?_
    rintro e w1 ⟨v, rfl, o1, st, k1⟩
    obtain ⟨vo, cap, rfl, u⟩ := out_of ((over_length _ _ _ _).trans hx.len) (over_bytes _ _ _ _ hx.bytes) hx.top o1
    exact ⟨vo, cap, rfl, u, k1⟩
  · subst hM hE hR
    refine (rsxor_bad g key nonce (64 * ctr) n c ao hx.top hc w h).mono ?_
    rintro e w1 ⟨rfl, rfl⟩
    exact ⟨none, 0, rfl, ⟨World.ownsRow_nil _ _ _ _, Seen.empty _ _, fun b o e => (by cases e), fun _ => rfl⟩, Kept.refl _ _⟩
theorem xo_out (key nonce : List Int) (ctr n c : Nat) (ao : Option Addr) (zs : List Int) (M : Nat) (E : Int) (R : List Int) (hq : Qx key nonce ctr n zs M E R) (hk : key.length = 32) (hno : nonce.length = 12) (hkb : Bytes key) (hnb : Bytes nonce) (hct : ctr < 4294967296) (w : World) (hx : Seen w ao n zs) :
    Calls Try.prog 42 #[.agg (u8s key).toArray, .agg (u8s nonce).toArray, .int .u32 ctr, .slice ao n c] w fun e w' => ∃ vo cap, e = .returned (.tuple #[.slice vo M cap, .int .i64 E]) ∧ Out w' w.heap.size w'.heap.size vo M cap R ∧ Below w.heap.size w w' := by
  rcases hq with ⟨hc, hM, hE, hR⟩ | ⟨hc, hM, hE, hR⟩
  · subst hM hE hR
    refine (xor_any key nonce ctr _ c ao zs hk hno hkb hnb hct hc w hx).mono ?_
    rintro e w1 ⟨v, rfl, o1, l1⟩
    obtain ⟨vo, cap, rfl, u⟩ := out_of ((over_length _ _ _ _).trans hx.len) (over_bytes _ _ _ _ hx.bytes) hx.top o1
    exact ⟨vo, cap, rfl, u, l1⟩
  · subst hM hE hR
    refine (xor_bad key nonce ctr n c ao hk hno hkb hnb hct hx.top hc w).mono ?_
    rintro e w1 ⟨rfl, l1⟩
    exact ⟨none, 0, rfl, ⟨World.ownsRow_nil _ _ _ _, Seen.empty _ _, fun b o e => (by cases e), fun _ => rfl⟩, l1⟩
/-- What stands: what was lent, and nothing old was touched. -/
structure On (w1 W : World) (g : Nat) (xs : List Int) : Prop where
  row : RowAt W g (xs ++ marks)
  bel : Below w1.heap.size w1 W
theorem On.later {w1 W W' : World} {g : Nat} {xs : List Int} (h : On w1 W g xs) (l : Below W.heap.size W W') : On w1 W' g xs := ⟨h.row.kept (Kept.new (fun _ => False) l) id, below_chain h.bel l h.bel.size⟩
theorem On.kept {S : Nat → Prop} {w1 W W' : World} {g : Nat} {xs : List Int} (h : On w1 W g xs) (hk : Kept S W W') (hS : ∀ y, S y → w1.heap.size ≤ y ∧ y ≠ g) : On w1 W' g xs :=
  ⟨h.row.kept hk (fun s => (hS g s).2 rfl), below_kept h.bel hk h.bel.size (fun j hj s => by have := (hS j s).1; omega)⟩
theorem On.dn {w1 W : World} {g : Nat} {xs : List Int} (h : On w1 W g xs) (q : Nat) : On w1 (W.drewN q) g xs := h.later (below_dn (Below.refl _ _) q)
theorem Out.dn {W : World} {lo hi n cap : Nat} {vo : Option Addr} {L : List Int} (h : Out W lo hi vo n cap L) (q : Nat) : Out (W.drewN q) lo hi vo n cap L := h.later (below_dn (Below.refl _ _) q)
theorem size_dn (W : World) (q : Nat) : W.heap.size ≤ (W.drewN q).heap.size := (below_dn (Below.refl W.heap.size W) q).size
set_option maxRecDepth 20000 in
set_option maxHeartbeats 4000000 in
theorem streamOnce.walk (key nonce : List Int) (ctr : Nat) (ao : Option Addr) (n c : Nat) (zs : List Int) (w : World) (h1 : key.length = 32) (h2 : nonce.length = 12) (h3 : Bytes key) (h4 : Bytes nonce) (hct : ctr < 4294967296)
    (hx : Seen w ao n zs) (hn : n ≤ 140737488351232) (hc : ao = none → c = 0) :
    Calls Try.prog 13 #[.agg (bCells key nonce ctr).toArray, .slice ao n c] w fun e w' => e = .returned (.bool true) ∧ Below w.heap.size w w' := by
  have HK : Hid (key.length = 32 ∧ nonce.length = 12 ∧ Bytes key ∧ Bytes nonce) := ⟨h1, h2, h3, h4⟩
  have uK : Hid ((Try.prog.info? 30).map (·.size) = some (u8s key).length ∧ (Try.prog.info? 25).map (·.size) = some (u8s nonce).length) := ⟨by rw [u8s_length, h1]; exact sizeKey, by rw [u8s_length, h2]; exact sizeNonce⟩
  have HX : Hid (Seen w ao n zs ∧ (ao = none → c = 0)) := ⟨hx, hc⟩
  have HZ : Hid (zs.length = n ∧ Bytes zs ∧ n ≤ 140737488355328) := ⟨hx.len, hx.bytes, hx.top⟩
  clear h1 h2 h3 h4 hx hc
  obtain ⟨M, E, hM, hQ⟩ := qx_ex key nonce ctr n
  have HQ : Hid (∀ zs, ∃ R, Qx key nonce ctr n zs M E R) := hQ
  obtain ⟨R1, hq1⟩ := hQ zs
  have HQ1 : Hid (Qx key nonce ctr n zs M E R1) := hq1
  clear hQ hq1
  go_enter Try.func13, Try.ntmps13
  go_wp2_with (first | (refine wpList_box_new rfl 67 (.tmp 0) rfl (bCells key nonce ctr) rfl ?_; intro w1 b1 s1 l1))
  have B1 : Hid (BgAt w1 w.heap.size key nonce ctr ∧ Below w.heap.size w w1) := ⟨⟨b1, HK.out.1, HK.out.2.1, HK.out.2.2.1, HK.out.2.2.2, hct⟩, l1⟩
  clear b1 s1 l1
  have RS : Hid (∀ W, Below w1.heap.size w1 W → W.rangeAt w.heap.size 0 (u8s key) ∧ W.rangeAt w.heap.size 32 (u8s nonce) ∧ W.cell? ⟨w.heap.size, 44, none⟩ = some (.int .u32 ctr)) := fun W hW => by
    have hs := B1.out.1.later hW B1.out.1.blk.lt
    exact ⟨hs.key, hs.nonce, hs.ctr⟩
  have X2 : Hid (∀ W, Below w1.heap.size w1 W → Seen W ao n zs) := fun W hW => (HX.out.1.later B1.out.2 (Nat.le_refl _)).later hW (Nat.le_refl _)
  refine (lent_any ao n c zs _ (X2.out _ (Below.refl _ _)) HX.out.2 (by omega)).mono ?_
  rintro e w2 ⟨g, cap, rfl, r2, hg2, kc, mc, l2⟩
  have A2 : Hid (On w1 w2 g zs ∧ w1.heap.size ≤ g ∧ n + 90 ≤ cap ∧ cap ≤ maxLen) := ⟨⟨r2, l2⟩, hg2, kc, mc⟩
  clear r2 hg2 kc mc l2
  have cc := (RS.out _ A2.out.1.bel).2.2
  go_wp2_with (first | (refine wpList_load_mid rfl 30 _ rfl w.heap.size 0 rfl (u8s key) _ (RS.out _ A2.out.1.bel).1 Try.underlying30 rfl uK.out.1 ?_) | (refine wpList_load_mid rfl 25 _ rfl w.heap.size 32 rfl (u8s nonce) _ (RS.out _ A2.out.1.bel).2.1 Try.underlying25 rfl uK.out.2 ?_))
  clear cc
  refine (rsnew_any key ctr nonce HK.out.1 HK.out.2.1 HK.out.2.2.1 HK.out.2.2.2 hct _).mono ?_
  rintro e w3 ⟨gs, rfl, hgs, st, l3⟩
  have A3 : Hid (On w1 w3 g zs ∧ RtAt w3 gs key nonce (64 * ctr) ∧ w1.heap.size ≤ gs ∧ gs ≠ g ∧ g < w3.heap.size) := ⟨A2.out.1.later l3, st, Nat.le_trans A2.out.1.bel.size hgs, by have := A2.out.1.row.lt; omega, Nat.lt_of_lt_of_le A2.out.1.row.lt l3.size⟩
  clear hgs st l3
  go_wp2_with fail
  refine (rx_out gs key nonce ctr n c ao zs M E R1 HQ1.out _ A3.out.2.1 (X2.out _ A3.out.1.bel)).mono ?_
  rintro e w4 ⟨o1, c1, rfl, u1, k4⟩
  have A4 : Hid (On w1 w4 g zs ∧ Out w4 w3.heap.size w4.heap.size o1 M c1 R1 ∧ g < w4.heap.size ∧ w1.heap.size ≤ w4.heap.size) := by
    have o4 := A3.out.1.kept k4 (fun y hy => (by subst hy; exact ⟨A3.out.2.2.1, A3.out.2.2.2.1⟩))
    exact ⟨o4, u1, o4.row.lt, o4.bel.size⟩
  clear u1 k4 A3
  have cc := (RS.out _ A4.out.1.bel).2.2
  go_wp2_with (first | (refine wpList_load_mid rfl 30 _ rfl w.heap.size 0 rfl (u8s key) _ (RS.out _ A4.out.1.bel).1 Try.underlying30 rfl uK.out.1 ?_) | (refine wpList_load_mid rfl 25 _ rfl w.heap.size 32 rfl (u8s nonce) _ (RS.out _ A4.out.1.bel).2.1 Try.underlying25 rfl uK.out.2 ?_))
  clear cc
  refine (xo_out key nonce ctr n cap (some ⟨g, 0, none⟩) zs M E R1 HQ1.out HK.out.1 HK.out.2.1 HK.out.2.2.1 HK.out.2.2.2 hct _ (Seen.lent A4.out.1.row HZ.out.1 HZ.out.2.1 HZ.out.2.2)).mono ?_
  rintro e w5 ⟨o2, c2, rfl, u2, l5⟩
  have A5 : Hid (On w1 w5 g zs ∧ Out w5 w3.heap.size w4.heap.size o1 M c1 R1 ∧ Out w5 w4.heap.size w5.heap.size o2 M c2 R1 ∧ w4.heap.size ≤ w5.heap.size) := ⟨A4.out.1.later l5, A4.out.2.1.later l5, u2, l5.size⟩
  clear u2 l5
  have cc := (RS.out _ A5.out.1.bel).2.2
  go_wp2_with (first | (refine wpList_load_mid rfl 30 _ rfl w.heap.size 0 rfl (u8s key) _ (RS.out _ A5.out.1.bel).1 Try.underlying30 rfl uK.out.1 ?_) | (refine wpList_load_mid rfl 25 _ rfl w.heap.size 32 rfl (u8s nonce) _ (RS.out _ A5.out.1.bel).2.1 Try.underlying25 rfl uK.out.2 ?_))
  clear cc
  refine (xo_out key nonce ctr n cap (some ⟨g, 0, none⟩) zs M E R1 HQ1.out HK.out.1 HK.out.2.1 HK.out.2.2.1 HK.out.2.2.2 hct _ (Seen.lent A5.out.1.row HZ.out.1 HZ.out.2.1 HZ.out.2.2)).mono ?_
  rintro e w6 ⟨o3, c3, rfl, u3, l6⟩
  have A6 : Hid (On w1 w6 g zs ∧ Out w6 w3.heap.size w4.heap.size o1 M c1 R1 ∧ Out w6 w4.heap.size w5.heap.size o2 M c2 R1 ∧ Out w6 w5.heap.size w6.heap.size o3 M c3 R1 ∧ w6.heap.size ≤ w6.heap.size) := ⟨A5.out.1.later l6, A5.out.2.1.later l6, A5.out.2.2.1.later l6, u3, Nat.le_refl _⟩
  have S6 : Hid (w5.heap.size ≤ w6.heap.size) := l6.size
  clear u3 l6
  go_wp2_with fail
  refine (same_yes o2 o1 M M c2 c1 R1 _ A6.out.2.2.1.seen A6.out.2.1.seen).mono ?_
  rintro e w7 ⟨rfl, q, hq⟩
  have A7 : Hid (On w1 w7 g zs ∧ Out w7 w3.heap.size w4.heap.size o1 M c1 R1 ∧ Out w7 w4.heap.size w5.heap.size o2 M c2 R1 ∧ Out w7 w5.heap.size w6.heap.size o3 M c3 R1 ∧ w6.heap.size ≤ w7.heap.size) := by rw [hq]; exact ⟨A6.out.1.dn q, A6.out.2.1.dn q, A6.out.2.2.1.dn q, A6.out.2.2.2.1.dn q, Nat.le_trans A6.out.2.2.2.2 (size_dn _ q)⟩
  clear hq
  go_wp2_with fail
  refine (same_yes o3 o1 M M c3 c1 R1 _ A7.out.2.2.2.1.seen A7.out.2.1.seen).mono ?_
  rintro e w8 ⟨rfl, q, hq⟩
  have A8 : Hid (On w1 w8 g zs ∧ Out w8 w3.heap.size w4.heap.size o1 M c1 R1 ∧ Out w8 w4.heap.size w5.heap.size o2 M c2 R1 ∧ Out w8 w5.heap.size w6.heap.size o3 M c3 R1 ∧ w6.heap.size ≤ w8.heap.size) := by rw [hq]; exact ⟨A7.out.1.dn q, A7.out.2.1.dn q, A7.out.2.2.1.dn q, A7.out.2.2.2.1.dn q, Nat.le_trans A7.out.2.2.2.2 (size_dn _ q)⟩
  clear hq
  go_wp2_with fail
  refine (still_yes g n cap ao c zs _ A8.out.1.row A2.out.2.2.1 A2.out.2.2.2 (X2.out _ A8.out.1.bel)).mono ?_
  rintro e w9 ⟨rfl, q, hq⟩
  have A9 : Hid (On w1 w9 g zs ∧ Out w9 w3.heap.size w4.heap.size o1 M c1 R1 ∧ Out w9 w4.heap.size w5.heap.size o2 M c2 R1 ∧ Out w9 w5.heap.size w6.heap.size o3 M c3 R1 ∧ w6.heap.size ≤ w9.heap.size) := by rw [hq]; exact ⟨A8.out.1.dn q, A8.out.2.1.dn q, A8.out.2.2.1.dn q, A8.out.2.2.2.1.dn q, Nat.le_trans A8.out.2.2.2.2 (size_dn _ q)⟩
  clear hq
  go_wp2_with (refine wpList_bs rfl 40 2 _ rfl _ rfl _ _ (obs2 o2 o3 M M c2 c3 _) ?_)
  have LT := lot2 A9.out.2.2.1 A9.out.2.2.2.1 A5.out.2.2.2 S6.out A9.out.2.2.2.2
  refine (apart_any w9.heap.size 2 2 _ _ _ _ _ _ LT.1 (by decide) (fun j hj => by rcases (by omega : j = 0 ∨ j = 1) with rfl | rfl <;> simp <;> omega)).mono ?_
  rintro e w11 ⟨rfl, kh⟩
  have A11 : Hid (On w1 w11 g zs) := by
    have l := (Below.refl w9.heap.size w9).alloc (Nat.le_refl _) (.cells #[.slice o2 M c2, .slice o3 M c3] 31)
    exact (A9.out.1.later l).kept kh (fun y hy => by have := LT.2 y hy; have := A4.out.2.2; omega)
  clear LT kh A5 A6 A7 A8 A9 S6 A4
  go_wp2_with fail
  refine (still_yes g n cap ao c zs _ A11.out.row A2.out.2.2.1 A2.out.2.2.2 (X2.out _ A11.out.bel)).mono ?_
  rintro e w12 ⟨rfl, q, hq⟩
  have A12 : Hid (On w1 w12 g zs) := by rw [hq]; exact A11.out.dn q
  clear hq A11
  have cc := (RS.out _ A12.out.bel).2.2
  go_wp2_with (first | (refine wpList_load_mid rfl 30 _ rfl w.heap.size 0 rfl (u8s key) _ (RS.out _ A12.out.bel).1 Try.underlying30 rfl uK.out.1 ?_) | (refine wpList_load_mid rfl 25 _ rfl w.heap.size 32 rfl (u8s nonce) _ (RS.out _ A12.out.bel).2.1 Try.underlying25 rfl uK.out.2 ?_))
  clear cc
  refine (xo_out key nonce ctr n cap (some ⟨g, 0, none⟩) zs M E R1 HQ1.out HK.out.1 HK.out.2.1 HK.out.2.2.1 HK.out.2.2.2 hct _ (Seen.lent A12.out.row HZ.out.1 HZ.out.2.1 HZ.out.2.2)).mono ?_
  rintro e w13 ⟨o4, c4, rfl, u4, l13⟩
  have A13 : Hid (On w1 w13 g zs) := A12.out.later l13
  clear u4 l13 A12
  go_wp2_with fail
  go_loopw [12] (fun i wr => ∃ (m : Nat) (xs : List Int), m ≤ n ∧ i = .int .i64 m ∧ xs.length = n ∧ Bytes xs ∧ On w1 wr g xs) (fun i _ => n - (intOf i).toNat)
  case atStart => exact ⟨0, zs, Nat.zero_le _, rfl, HZ.out.1, HZ.out.2.1, A13.out⟩
  case round =>
    obtain ⟨m, xs, hm, rfl, hxl, hxb, hon⟩ := hrel
    by_cases hlt : m < n
    · have c1 := hon.row.lentCell (m := m) (by omega)
      have f1 : wr.frozen? ⟨g, m, none⟩ = false := hon.row.frozen m
      have bz := hxb.at m (by omega)
      obtain ⟨Z, hZ⟩ : ∃ Z, xs.getD m 0 = Z := ⟨_, rfl⟩
      rw [hZ] at c1 bz
      obtain ⟨D, hD⟩ : ∃ D, (7 + (m : Int)) % 256 = D := ⟨_, rfl⟩
      obtain ⟨Y, hY⟩ : ∃ Y, (Z + D) % 256 = Y := ⟨_, rfl⟩
      have d2 : IntKind.u8.wrap (7 + (m : Int)) = D := by simp only [IntKind.wrap, IntKind.bits, IntKind.signed]; simp; omega
      have d3 : IntKind.u8.wrap (Z + D) = Y := by simp only [IntKind.wrap, IntKind.bits, IntKind.signed]; simp; omega
      have d4 : (Z + (7 + (m : Int))) % 256 = Y := by omega
      have d5 : IntKind.i64.wrap (7 + (m : Int)) = 7 + (m : Int) := by simp only [IntKind.wrap, IntKind.bits, IntKind.signed]; simp; omega
      have T1 : Hid (On w1 (wr.setCell ⟨g, m, none⟩ (.int .u8 Y)) g (xs.set m Y)) := by
        refine ⟨hon.row.lentSet (m := m) (by omega) Y, ?_⟩
        exact below_kept hon.bel ((Kept.refl (fun y => y = g) wr).setCell (p := ⟨g, m, none⟩) rfl (.int .u8 Y)) hon.bel.size (fun j hj e => by have := A2.out.2.1; omega)
      have T3 : Hid (Bytes (xs.set m Y) ∧ (xs.set m Y).length = n) := ⟨bytes_set hxb m _ (by omega), by rw [List.length_set]; exact hxl⟩
      have j1 : (0 : Int) ≤ (m : Int) := by omega
      have j2 : (m : Int) < (n : Int) := by omega
      clear hZ hon hxb hxl
      go_wp2_with fail
      go_roundw
      case rel => exact ⟨m + 1, _, by omega, by go_num, T3.out.2, T3.out.1, T1.out⟩
      case measure => simp [intOf]; omega
    · obtain rfl : n = m := by omega
      have j2 : ¬ (n : Int) < (n : Int) := by omega
      have AW : Hid (On w1 wr g xs ∧ xs.length = n ∧ Bytes xs) := ⟨hon, hxl, hxb⟩
      clear hon hxl hxb
      obtain ⟨R2, hq2⟩ := HQ.out xs
      have HQ2 : Hid (Qx key nonce ctr n xs M E R2) := hq2
      clear hq2
      go_wp2_with fail
      refine (copied_any (some ⟨g, 0, none⟩) n cap xs _ (Seen.lent AW.out.1.row AW.out.2.1 AW.out.2.2 HZ.out.2.2) (fun h => by cases h)).mono ?_
      rintro e w14 ⟨v, rfl, o, l14⟩
      obtain ⟨o5, c5, rfl, u5⟩ := out_of AW.out.2.1 AW.out.2.2 HZ.out.2.2 o
      have A14 : Hid (On w1 w14 g xs ∧ Out w14 wr.heap.size w14.heap.size o5 n c5 xs) := ⟨AW.out.1.later l14, u5⟩
      clear o l14 u5
      have cc := (RS.out _ A14.out.1.bel).2.2
      go_wp2_with (first | (refine wpList_load_mid rfl 30 _ rfl w.heap.size 0 rfl (u8s key) _ (RS.out _ A14.out.1.bel).1 Try.underlying30 rfl uK.out.1 ?_) | (refine wpList_load_mid rfl 25 _ rfl w.heap.size 32 rfl (u8s nonce) _ (RS.out _ A14.out.1.bel).2.1 Try.underlying25 rfl uK.out.2 ?_))
      clear cc
      refine (rsnew_any key ctr nonce HK.out.1 HK.out.2.1 HK.out.2.2.1 HK.out.2.2.2 hct _).mono ?_
      rintro e w15 ⟨gt, rfl, hgt, st, l15⟩
      have A15 : Hid (On w1 w15 g xs ∧ Out w15 wr.heap.size w14.heap.size o5 n c5 xs ∧ RtAt w15 gt key nonce (64 * ctr) ∧ w1.heap.size ≤ gt ∧ gt ≠ g ∧ w14.heap.size ≤ gt) := ⟨A14.out.1.later l15, A14.out.2.later l15, st, Nat.le_trans A14.out.1.bel.size hgt, by have := A14.out.1.row.lt; omega, hgt⟩
      clear hgt st l15
      go_wp2_with fail
      refine (rx_out gt key nonce ctr n c5 o5 xs M E R2 HQ2.out _ A15.out.2.2.1 A15.out.2.1.seen).mono ?_
      rintro e w16 ⟨o6, c6, rfl, u6, k16⟩
      have A16 : Hid (On w1 w16 g xs ∧ Out w16 wr.heap.size w14.heap.size o5 n c5 xs ∧ Out w16 w15.heap.size w16.heap.size o6 M c6 R2) := by
        have o4 := A15.out.1.kept k16 (fun y hy => (by subst hy; exact ⟨A15.out.2.2.2.1, A15.out.2.2.2.2.1⟩))
        exact ⟨o4, A15.out.2.1.kept k16 (fun y h1 h2 e => by have := A15.out.2.2.2.2.2; omega), u6⟩
      clear u6 k16 A15 A14
      have cc := (RS.out _ A16.out.1.bel).2.2
      go_wp2_with (first | (refine wpList_load_mid rfl 30 _ rfl w.heap.size 0 rfl (u8s key) _ (RS.out _ A16.out.1.bel).1 Try.underlying30 rfl uK.out.1 ?_) | (refine wpList_load_mid rfl 25 _ rfl w.heap.size 32 rfl (u8s nonce) _ (RS.out _ A16.out.1.bel).2.1 Try.underlying25 rfl uK.out.2 ?_))
      clear cc
      refine (xo_out key nonce ctr n cap (some ⟨g, 0, none⟩) xs M E R2 HQ2.out HK.out.1 HK.out.2.1 HK.out.2.2.1 HK.out.2.2.2 hct _ (Seen.lent A16.out.1.row AW.out.2.1 AW.out.2.2 HZ.out.2.2)).mono ?_
      rintro e w17 ⟨o7, c7, rfl, u7, l17⟩
      have A17 : Hid (On w1 w17 g xs ∧ Out w17 wr.heap.size w14.heap.size o5 n c5 xs ∧ Out w17 w15.heap.size w16.heap.size o6 M c6 R2 ∧ Out w17 w16.heap.size w17.heap.size o7 M c7 R2) := ⟨A16.out.1.later l17, A16.out.2.1.later l17, A16.out.2.2.later l17, u7⟩
      clear u7 l17 A16
      go_wp2_with fail
      refine (same_yes o7 o6 M M c7 c6 R2 _ A17.out.2.2.2.seen A17.out.2.2.1.seen).mono ?_
      rintro e w18 ⟨rfl, q, hq⟩
      have A18 : Hid (On w1 w18 g xs ∧ Out w18 wr.heap.size w14.heap.size o5 n c5 xs) := by rw [hq]; exact ⟨A17.out.1.dn q, A17.out.2.1.dn q⟩
      clear hq A17
      go_wp2_with fail
      refine (same_yes (some ⟨g, 0, none⟩) o5 n n cap c5 xs _ (Seen.lent A18.out.1.row AW.out.2.1 AW.out.2.2 HZ.out.2.2) A18.out.2.seen).mono ?_
      rintro e w19 ⟨rfl, q, hq⟩
      have A19 : Hid (On w1 w19 g xs) := by rw [hq]; exact A18.out.1.dn q
      clear hq A18
      go_wp2_with fail
      go_ret
      exact ⟨rfl, below_chain B1.out.2 A19.out.bel B1.out.2.size⟩
end Go.Proofs.Ytogplebajpdmoaa
