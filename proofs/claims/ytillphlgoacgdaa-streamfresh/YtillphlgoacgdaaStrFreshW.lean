/- The walk of StreamFresh. -/
import Derived.Test.YtillphlgoacgdaaSTwice
import Derived.Test.YtillphlgoacgdaaSBg
import Derived.Test.YtillphlgoacgdaaSAwake
import Derived.Test.YtillphlgoacgdaaOApartW
namespace Go.Proofs.Ytillphlgoacgdaa
open Go.RowKit
set_option linter.unusedVariables false
set_option linter.unusedSimpArgs false

/-- The order of the blocks. -/
structure Rank (B g1 g2 g3 g4 g5 O : Nat) : Prop where
  a : B ≤ g1
  b : g1 < g2
  c : g2 < g3
  d : g3 < g4
  e : g4 < g5
  f : g5 < O
/-- What stands: three streams, and what was lent. -/
structure Fr (w2 W : World) (g1 g2 g3 g4 g5 p1 p2 p3 : Nat) (key nonce zs ys : List Int) : Prop where
  s1 : StAt W g1 key nonce p1
  s2 : StAt W g2 key nonce p2
  s3 : StAt W g3 key nonce p3
  r4 : RowAt W g4 (zs ++ marks)
  r5 : RowAt W g5 (ys ++ marks)
  bel : Below w2.heap.size w2 W
theorem Fr.later {w2 W W' : World} {g1 g2 g3 g4 g5 p1 p2 p3 : Nat} {key nonce zs ys : List Int} (h : Fr w2 W g1 g2 g3 g4 g5 p1 p2 p3 key nonce zs ys) (l : Below W.heap.size W W') : Fr w2 W' g1 g2 g3 g4 g5 p1 p2 p3 key nonce zs ys :=
  ⟨h.s1.later l h.s1.blk.lt, h.s2.later l h.s2.blk.lt, h.s3.later l h.s3.blk.lt, h.r4.kept (Kept.new (fun _ => False) l) id, h.r5.kept (Kept.new (fun _ => False) l) id, below_chain h.bel l h.bel.size⟩
theorem Fr.x1 {w2 W W' : World} {g1 g2 g3 g4 g5 p1 p2 p3 O p' : Nat} {key nonce zs ys : List Int} (h : Fr w2 W g1 g2 g3 g4 g5 p1 p2 p3 key nonce zs ys) (R : Rank w2.heap.size g1 g2 g3 g4 g5 O) (hk : Kept (fun b => b = g1) W W') (st : StAt W' g1 key nonce p') : Fr w2 W' g1 g2 g3 g4 g5 p' p2 p3 key nonce zs ys := by
  obtain ⟨a, b, c, d, e, f⟩ := R
  exact ⟨st, h.s2.kept hk (by omega), h.s3.kept hk (by omega), h.r4.kept hk (by omega), h.r5.kept hk (by omega), below_kept h.bel hk h.bel.size (fun j hj => by omega)⟩
theorem Fr.x2 {w2 W W' : World} {g1 g2 g3 g4 g5 p1 p2 p3 O p' : Nat} {key nonce zs ys : List Int} (h : Fr w2 W g1 g2 g3 g4 g5 p1 p2 p3 key nonce zs ys) (R : Rank w2.heap.size g1 g2 g3 g4 g5 O) (hk : Kept (fun b => b = g2) W W') (st : StAt W' g2 key nonce p') : Fr w2 W' g1 g2 g3 g4 g5 p1 p' p3 key nonce zs ys := by
  obtain ⟨a, b, c, d, e, f⟩ := R
  exact ⟨h.s1.kept hk (by omega), st, h.s3.kept hk (by omega), h.r4.kept hk (by omega), h.r5.kept hk (by omega), below_kept h.bel hk h.bel.size (fun j hj => by omega)⟩
theorem Fr.x3 {w2 W W' : World} {g1 g2 g3 g4 g5 p1 p2 p3 O p' : Nat} {key nonce zs ys : List Int} (h : Fr w2 W g1 g2 g3 g4 g5 p1 p2 p3 key nonce zs ys) (R : Rank w2.heap.size g1 g2 g3 g4 g5 O) (hk : Kept (fun b => b = g3) W W') (st : StAt W' g3 key nonce p') : Fr w2 W' g1 g2 g3 g4 g5 p1 p2 p' key nonce zs ys := by
  obtain ⟨a, b, c, d, e, f⟩ := R
  exact ⟨h.s1.kept hk (by omega), h.s2.kept hk (by omega), st, h.r4.kept hk (by omega), h.r5.kept hk (by omega), below_kept h.bel hk h.bel.size (fun j hj => by omega)⟩
theorem Fr.far {w2 W W' : World} {g1 g2 g3 g4 g5 p1 p2 p3 O : Nat} {key nonce zs ys : List Int} {S : Nat → Prop} (h : Fr w2 W g1 g2 g3 g4 g5 p1 p2 p3 key nonce zs ys) (R : Rank w2.heap.size g1 g2 g3 g4 g5 O) (hk : Kept S W W') (hS : ∀ y, S y → O ≤ y) : Fr w2 W' g1 g2 g3 g4 g5 p1 p2 p3 key nonce zs ys := by
  obtain ⟨a, b, c, d, e, f⟩ := R
  have n : ∀ y, y < O → ¬ S y := fun y hy hs => by have := hS y hs; omega
  exact ⟨h.s1.kept hk (n _ (by omega)), h.s2.kept hk (n _ (by omega)), h.s3.kept hk (n _ (by omega)), h.r4.kept hk (n _ (by omega)), h.r5.kept hk (n _ (by omega)), below_kept h.bel hk h.bel.size (fun j hj => n _ (by omega))⟩
/-- A row that was handed out, in blocks from lo on, below hi. -/
structure Out (W : World) (lo hi : Nat) (vo : Option Addr) (n cap : Nat) (L : List Int) : Prop where
  own : W.ownsRow 0 5 1 (.slice vo n cap) n (L.map (Value.int .u8))
  seen : Seen W vo n L
  place : ∀ b o, vo = some ⟨b, o, none⟩ → lo ≤ b ∧ b < hi
  nil : vo = none → cap = 0
theorem out_of {W W' : World} {v : Value} {n : Nat} {L : List Int} (hl : L.length = n) (hb : Bytes L) (ht : n ≤ 140737488355328) (h : W'.ownsRow W.heap.size 5 1 v n (L.map (Value.int .u8))) : ∃ vo cap, v = .slice vo n cap ∧ Out W' W.heap.size W'.heap.size vo n cap L := by
  rcases own_len hl h with ⟨rfl, rfl⟩ | ⟨g, cap, rfl, r1, g1, c1, m1⟩
  · exact ⟨none, 0, rfl, ownsRow_base h (Nat.zero_le _), by rw [List.length_eq_zero_iff.1 hl]; exact Seen.empty _ _, fun b o e => (by cases e), fun _ => rfl⟩
  · have s := Seen.of_row (n := n) r1 (by omega) ht hb
    rw [List.take_of_length_le (by omega)] at s
    exact ⟨_, cap, rfl, ownsRow_base h (Nat.zero_le _), s, fun b o e => (by cases e; exact ⟨g1, r1.lt⟩), fun e => (by cases e)⟩
theorem Out.kept {W W' : World} {lo hi n cap : Nat} {vo : Option Addr} {L : List Int} {S : Nat → Prop} (h : Out W lo hi vo n cap L) (hk : Kept S W W') (hS : ∀ y, lo ≤ y → y < hi → ¬ S y) : Out W' lo hi vo n cap L :=
  ⟨own_kept h.own hk (fun k e => by have := own_addr h.own e; have p := h.place k 0 this; exact hS k p.1 p.2), h.seen.kept hk (fun b o _ e => hS b (h.place b o e).1 (h.place b o e).2), h.place, h.nil⟩
theorem Out.later {W W' : World} {lo hi n cap : Nat} {vo : Option Addr} {L : List Int} (h : Out W lo hi vo n cap L) (l : Below W.heap.size W W') : Out W' lo hi vo n cap L := h.kept (Kept.new (fun _ => False) l) (fun _ _ _ => id)
theorem bs4 (s1 s2 s3 s4 : Option Addr) (n1 n2 n3 n4 c1 c2 c3 c4 : Nat) (w : World) : (Instr.buildSlice 56 4 #[(0, .slice s1 n1 c1), (1, .slice s2 n2 c2), (2, .slice s3 n3 c3), (3, .slice s4 n4 c4)]).run Try.prog w = .ok (.slice (some ⟨w.heap.size, 0, none⟩) 4 4) (w.alloc (.cells #[.slice s1 n1 c1, .slice s2 n2 c2, .slice s3 n3 c3, .slice s4 n4 c4] 44)) := by kernel_rfl
theorem wpList_bs {ops : Array Oper} {rest : List Oper} {o : Oper} {a : Act} {Q : Exit → Act → World → Prop} {w : World} (hgd : o.guard = none) (t : TypeId) (m : Nat) (parts : Array (Nat × Operand)) (ho : o.op = .buildSlice t m parts) (ps : Array (Nat × Value))
    (hp : (parts.map fun (i, x) => (i, a.eval x)) = ps) (v : Value) (w' : World) (hrun : (Instr.buildSlice t m ps).run Try.prog w = .ok v w') (h : wpList Try.prog ops Q rest (a.put o.dst v) w') : wpList Try.prog ops Q (o :: rest) a w := by
  refine wpList_plain hgd fun K hK => ?_
  unfold Oper.wp execOp
  simp only [ho, hp, Sem.run_bind, hrun, Sem.run_pure, Result.andThen_ok]
  exact hK _ _ h
/-- The four rows, as a lot. -/
theorem cell_four (w : World) (x y z u : Value) (t : TypeId) (j : Nat) (hj : j < 4) : (w.alloc (.cells #[x, y, z, u] t)).cell? ⟨w.heap.size, j, none⟩ = some ([x, y, z, u].getD j undef) := by
  have h : (w.alloc (.cells #[x, y, z, u] t)).heap[w.heap.size]? = some (.cells [x, y, z, u].toArray t (0, 0)) := heap_alloc_new w _
  rw [cell_of_row _ _ j _ t (0, 0) h]
  rcases (by omega : j = 0 ∨ j = 1 ∨ j = 2 ∨ j = 3) with rfl | rfl | rfl | rfl <;> rfl
theorem lot4 {W : World} {o1 o2 o3 o4 : Option Addr} {n m c1 c2 c3 c4 a b c d e : Nat} {L1 L2 L3 L4 : List Int} (h1 : Out W a b o1 n c1 L1) (h2 : Out W b c o2 n c2 L2) (h3 : Out W c d o3 m c3 L3) (h4 : Out W d e o4 m c4 L4) (hab : a ≤ b) (hbc : b ≤ c) (hcd : c ≤ d) (hde : d ≤ e) (he : e ≤ W.heap.size) :
    Lot (W.alloc (.cells #[.slice o1 n c1, .slice o2 n c2, .slice o3 m c3, .slice o4 m c4] 44)) W.heap.size 4 (fun j => [o1, o2, o3, o4].getD j none) (fun j => [n, n, m, m].getD j 0) (fun j => [c1, c2, c3, c4].getD j 0) (fun j => [c1, c2, c3, c4].getD j 0) (fun j => [L1, L2, L3, L4].getD j []) ∧
    ∀ y, LotS 4 (fun j => [o1, o2, o3, o4].getD j none) y → a ≤ y ∧ y < e := by
  have l := (Below.refl W.heap.size W).alloc (Nat.le_refl _) (.cells #[.slice o1 n c1, .slice o2 n c2, .slice o3 m c3, .slice o4 m c4] 44)
  have hp : ∀ j g, j < 4 → [o1, o2, o3, o4].getD j none = some ⟨g, 0, none⟩ → [a, b, c, d].getD j 0 ≤ g ∧ g < [b, c, d, e].getD j 0 := by
    intro j g hj e1
    rcases (by omega : j = 0 ∨ j = 1 ∨ j = 2 ∨ j = 3) with rfl | rfl | rfl | rfl
    · exact h1.place g 0 e1
    · exact h2.place g 0 e1
    · exact h3.place g 0 e1
    · exact h4.place g 0 e1
  have hr : ∀ j g, j < 4 → [o1, o2, o3, o4].getD j none = some ⟨g, 0, none⟩ → a ≤ g ∧ g < e := by
    intro j g hj e1
    have := hp j g hj e1
    rcases (by omega : j = 0 ∨ j = 1 ∨ j = 2 ∨ j = 3) with rfl | rfl | rfl | rfl <;> simp at this <;> omega
  refine ⟨⟨World.block_lt_of_cell? _ _ (cell_four W _ _ _ _ _ 0 (by decide)), fun j hj => ?_, fun j hj => ?_, fun j hj => .inl rfl, fun j j' g hj hj' e1 e2 => ?_, fun j g hj e1 => ?_⟩, fun y ⟨j, hj, e1⟩ => hr j y hj e1⟩
  · rw [cell_four _ _ _ _ _ _ j hj]
    rcases (by omega : j = 0 ∨ j = 1 ∨ j = 2 ∨ j = 3) with rfl | rfl | rfl | rfl <;> rfl
  · rcases (by omega : j = 0 ∨ j = 1 ∨ j = 2 ∨ j = 3) with rfl | rfl | rfl | rfl
    · exact (h1.later l).own
    · exact (h2.later l).own
    · exact (h3.later l).own
    · exact (h4.later l).own
  · have p1 := hp j g hj e1
    have p2 := hp j' g hj' e2
    rcases (by omega : j = 0 ∨ j = 1 ∨ j = 2 ∨ j = 3) with rfl | rfl | rfl | rfl <;> rcases (by omega : j' = 0 ∨ j' = 1 ∨ j' = 2 ∨ j' = 3) with rfl | rfl | rfl | rfl <;> first | rfl | (simp at p1 p2; omega)
  · have := hr j g hj e1
    omega
/-- Streams, what was lent, and the four rows. -/
structure Fo (w2 W : World) (g1 g2 g3 g4 g5 p1 p2 p3 : Nat) (key nonce zs ys : List Int) (a b c d e : Nat) (o1 o2 o3 o4 : Option Addr) (n m c1 c2 c3 c4 : Nat) (L1 L3 : List Int) : Prop where
  fr : Fr w2 W g1 g2 g3 g4 g5 p1 p2 p3 key nonce zs ys
  p : Out W a b o1 n c1 L1
  q : Out W b c o2 n c2 L1
  r : Out W c d o3 m c3 L3
  s : Out W d e o4 m c4 L3
  sz : e ≤ W.heap.size
theorem Fo.later {w2 W W' : World} {g1 g2 g3 g4 g5 p1 p2 p3 : Nat} {key nonce zs ys : List Int} {a b c d e : Nat} {o1 o2 o3 o4 : Option Addr} {n m c1 c2 c3 c4 : Nat} {L1 L3 : List Int} (h : Fo w2 W g1 g2 g3 g4 g5 p1 p2 p3 key nonce zs ys a b c d e o1 o2 o3 o4 n m c1 c2 c3 c4 L1 L3) (l : Below W.heap.size W W') : Fo w2 W' g1 g2 g3 g4 g5 p1 p2 p3 key nonce zs ys a b c d e o1 o2 o3 o4 n m c1 c2 c3 c4 L1 L3 :=
  ⟨h.fr.later l, h.p.later l, h.q.later l, h.r.later l, h.s.later l, Nat.le_trans h.sz l.size⟩
set_option maxRecDepth 20000 in
set_option maxHeartbeats 4000000 in
theorem fresh_walk (key nonce : List Int) (ctr : Nat) (ao : Option Addr) (n c : Nat) (zs : List Int) (bo : Option Addr) (m d : Nat) (ys : List Int) (w : World) (h1 : key.length = 32) (h2 : nonce.length = 12) (h3 : Bytes key) (h4 : Bytes nonce) (hct : ctr < 4294967296)
    (hx : Seen w ao n zs) (hn : n ≤ 140737488351232) (hc : ao = none → c = 0) (hy : Seen w bo m ys) (hm : m ≤ 140737488351232) (hd : bo = none → d = 0) :
    Calls Try.prog 8 #[.agg (bCells key nonce ctr).toArray, .slice ao n c, .slice bo m d] w fun e w' => e = .returned (.bool true) ∧ Below w.heap.size w w' := by
  have HK : Hid (key.length = 32 ∧ nonce.length = 12 ∧ Bytes key ∧ Bytes nonce) := ⟨h1, h2, h3, h4⟩
  have uK : Hid ((Try.prog.info? 23).map (·.size) = some (u8s key).length ∧ (Try.prog.info? 25).map (·.size) = some (u8s nonce).length) := ⟨by rw [u8s_length, h1]; exact sizeKey, by rw [u8s_length, h2]; exact sizeNonce⟩
  have HX : Hid (Seen w ao n zs ∧ (ao = none → c = 0) ∧ Seen w bo m ys ∧ (bo = none → d = 0)) := ⟨hx, hc, hy, hd⟩
  clear h1 h2 h3 h4 hx hc hy hd
  have v1 : IntKind.u64.wrap (n : Int) = (n : Int) := by simp only [IntKind.wrap, IntKind.bits, IntKind.signed]; simp; omega
  have v2 : IntKind.u64.wrap (m : Int) = (m : Int) := by simp only [IntKind.wrap, IntKind.bits, IntKind.signed]; simp; omega
  have v3 : IntKind.u64.wrap ((n : Int) + (m : Int)) = (n : Int) + (m : Int) := by simp only [IntKind.wrap, IntKind.bits, IntKind.signed]; simp; omega
  by_cases hle : n + m + 64 * ctr ≤ 274877906944
  rotate_left
  · have i1 : 274877906944 - 64 * (ctr : Int) < (n : Int) + (m : Int) := by omega
    go_enter Try.func8, Try.ntmps8
    go_wp2_with (first | (refine wpList_box_new rfl 28 (.tmp 0) rfl (bCells key nonce ctr) rfl ?_; intro w1 b1 s1 l1) | (go_at_call 22; refine (awake_any _).mono ?_; rintro e w2 ⟨rfl, l2⟩; have B2 : Hid (BgAt w2 w.heap.size key nonce ctr ∧ Below w.heap.size w w2 ∧ w.heap.size < w2.heap.size) := ⟨⟨b1.later l2 (by omega), HK.out.1, HK.out.2.1, HK.out.2.2.1, HK.out.2.2.2, hct⟩, below_chain l1 l2 (by omega), by have := l2.size; omega⟩; have c2 := B2.out.1.ctr; clear b1 s1 l1 l2) | (go_at_call 23; refine (left_any ctr hct _).mono ?_; rintro e w' ⟨rfl, rfl⟩))
    go_ret
    exact ⟨rfl, B2.out.2.1⟩
  have i1 : ¬ 274877906944 - 64 * (ctr : Int) < (n : Int) + (m : Int) := by omega
  go_enter Try.func8, Try.ntmps8
  go_wp2_with (first | (refine wpList_box_new rfl 28 (.tmp 0) rfl (bCells key nonce ctr) rfl ?_; intro w1 b1 s1 l1) | (go_at_call 22; refine (awake_any _).mono ?_; rintro e w2 ⟨rfl, l2⟩; have B2 : Hid (BgAt w2 w.heap.size key nonce ctr ∧ Below w.heap.size w w2 ∧ w.heap.size < w2.heap.size) := ⟨⟨b1.later l2 (by omega), HK.out.1, HK.out.2.1, HK.out.2.2.1, HK.out.2.2.2, hct⟩, below_chain l1 l2 (by omega), by have := l2.size; omega⟩; have c2 := B2.out.1.ctr; clear b1 s1 l1 l2) | (go_at_call 23; refine (left_any ctr hct _).mono ?_; rintro e w' ⟨rfl, rfl⟩))
  have RS : Hid (∀ W, Below w2.heap.size w2 W → W.rangeAt w.heap.size 0 (u8s key) ∧ W.rangeAt w.heap.size 32 (u8s nonce) ∧ W.cell? ⟨w.heap.size, 44, none⟩ = some (.int .u32 ctr)) := fun W hW => by
    have hs := B2.out.1.later hW B2.out.1.blk.lt
    exact ⟨hs.key, hs.nonce, hs.ctr⟩
  have X2 : Hid (∀ W, Below w2.heap.size w2 W → Seen W ao n zs ∧ Seen W bo m ys) := fun W hW => ⟨(HX.out.1.later B2.out.2.1 (Nat.le_refl _)).later hW (Nat.le_refl _), (HX.out.2.2.1.later B2.out.2.1 (Nat.le_refl _)).later hW (Nat.le_refl _)⟩
  clear c2 v1 v2 v3
  refine wp_region_noPanic (till_region 15 (fun W => W.rangeAt (w.heap.size) 0 (u8s key) ∧ W.rangeAt (w.heap.size) 32 (u8s nonce) ∧ W.cell? ⟨w.heap.size, 44, none⟩ = some (.int .u32 ctr)) (by kernel_rfl) ?_)
  change wpTill _ _ _ _ _ _ _ _ w2.drew
  have HS : Hid (w2.drew.rangeAt (w.heap.size) 0 (u8s key) ∧ w2.drew.rangeAt (w.heap.size) 32 (u8s nonce) ∧ w2.drew.cell? ⟨w.heap.size, 44, none⟩ = some (.int .u32 ctr)) := RS.out w2.drew (below_dn (Below.refl _ w2) 1)
  refine tTake 0 (some 39) (.pointer (some ⟨w.heap.size, 0, none⟩)) rfl rfl (by kernel_rfl) (by kernel_rfl) (by kernel_rfl) (by decide) (fun _ _ _ h => h) (by rfl) (fun _ => by go_simp) HS.out ?_
  simp only [Act.put, List.setIfInBounds_toArray, List.set_cons_zero, List.set_cons_succ]
  refine tLoadMid 1 (some 40) (u8s key) rfl rfl (by kernel_rfl) (by kernel_rfl) (by kernel_rfl) (by decide) (by kernel_rfl) (by kernel_rfl) (fun _ _ _ h => h) (by rfl) 23 (.tmp 39) rfl (w.heap.size) 0 rfl _ (fun _ h => h.1) Try.underlying23 rfl uK.out.1 HS.out ?_
  simp only [Act.put, List.setIfInBounds_toArray, List.set_cons_zero, List.set_cons_succ]
  refine tTake 2 (some 41) (.pointer (some ⟨w.heap.size, 32, none⟩)) rfl rfl (by kernel_rfl) (by kernel_rfl) (by kernel_rfl) (by decide) (fun _ _ _ h => h) (by rfl) (fun _ => by go_simp) HS.out ?_
  simp only [Act.put, List.setIfInBounds_toArray, List.set_cons_zero, List.set_cons_succ]
  refine tLoadMid 3 (some 42) (u8s nonce) rfl rfl (by kernel_rfl) (by kernel_rfl) (by kernel_rfl) (by decide) (by kernel_rfl) (by kernel_rfl) (fun _ _ _ h => h) (by rfl) 25 (.tmp 41) rfl (w.heap.size) 32 rfl _ (fun _ h => h.2.1) Try.underlying25 rfl uK.out.2 HS.out ?_
  simp only [Act.put, List.setIfInBounds_toArray, List.set_cons_zero, List.set_cons_succ]
  refine tTake 4 (some 43) (.pointer (some ⟨w.heap.size, 44, none⟩)) rfl rfl (by kernel_rfl) (by kernel_rfl) (by kernel_rfl) (by decide) (fun _ _ _ h => h) (by rfl) (fun _ => by go_simp) HS.out ?_
  simp only [Act.put, List.setIfInBounds_toArray, List.set_cons_zero, List.set_cons_succ]
  refine tLoad 5 (some 44) (.int .u32 ctr) rfl rfl (by kernel_rfl) (by kernel_rfl) (by kernel_rfl) (by decide) (by kernel_rfl) (by kernel_rfl) (fun _ _ _ h => h) (by rfl) (fun W' hS' => by obtain ⟨s1, s2, s3⟩ := hS'; go_simp) HS.out ?_
  simp only [Act.put, List.setIfInBounds_toArray, List.set_cons_zero, List.set_cons_succ]
  refine tTake 7 (some 46) (.pointer (some ⟨w.heap.size, 0, none⟩)) rfl rfl (by kernel_rfl) (by kernel_rfl) (by kernel_rfl) (by decide) (fun _ _ _ h => h) (by rfl) (fun _ => by go_simp) HS.out ?_
  simp only [Act.put, List.setIfInBounds_toArray, List.set_cons_zero, List.set_cons_succ]
  refine tLoadMid 8 (some 47) (u8s key) rfl rfl (by kernel_rfl) (by kernel_rfl) (by kernel_rfl) (by decide) (by kernel_rfl) (by kernel_rfl) (fun _ _ _ h => h) (by rfl) 23 (.tmp 46) rfl (w.heap.size) 0 rfl _ (fun _ h => h.1) Try.underlying23 rfl uK.out.1 HS.out ?_
  simp only [Act.put, List.setIfInBounds_toArray, List.set_cons_zero, List.set_cons_succ]
  refine tTake 9 (some 48) (.pointer (some ⟨w.heap.size, 32, none⟩)) rfl rfl (by kernel_rfl) (by kernel_rfl) (by kernel_rfl) (by decide) (fun _ _ _ h => h) (by rfl) (fun _ => by go_simp) HS.out ?_
  simp only [Act.put, List.setIfInBounds_toArray, List.set_cons_zero, List.set_cons_succ]
  refine tLoadMid 10 (some 49) (u8s nonce) rfl rfl (by kernel_rfl) (by kernel_rfl) (by kernel_rfl) (by decide) (by kernel_rfl) (by kernel_rfl) (fun _ _ _ h => h) (by rfl) 25 (.tmp 48) rfl (w.heap.size) 32 rfl _ (fun _ h => h.2.1) Try.underlying25 rfl uK.out.2 HS.out ?_
  simp only [Act.put, List.setIfInBounds_toArray, List.set_cons_zero, List.set_cons_succ]
  refine tTake 11 (some 50) (.pointer (some ⟨w.heap.size, 44, none⟩)) rfl rfl (by kernel_rfl) (by kernel_rfl) (by kernel_rfl) (by decide) (fun _ _ _ h => h) (by rfl) (fun _ => by go_simp) HS.out ?_
  simp only [Act.put, List.setIfInBounds_toArray, List.set_cons_zero, List.set_cons_succ]
  refine tLoad 12 (some 51) (.int .u32 ctr) rfl rfl (by kernel_rfl) (by kernel_rfl) (by kernel_rfl) (by decide) (by kernel_rfl) (by kernel_rfl) (fun _ _ _ h => h) (by rfl) (fun W' hS' => by obtain ⟨s1, s2, s3⟩ := hS'; go_simp) HS.out ?_
  simp only [Act.put, List.setIfInBounds_toArray, List.set_cons_zero, List.set_cons_succ]
  refine till_ready 6 (by kernel_rfl) rfl (fun K hK => ?_)
  go_simp
  go_wp2_with (go_at_call 11; refine (new_any key ctr nonce HK.out.1 HK.out.2.1 HK.out.2.2.1 HK.out.2.2.2 hct _).mono ?_; rintro e w3 ⟨g1, rfl, hg1, st1, l3⟩)
  have L3 : Hid (Below w2.heap.size w2 w3) := below_ahead (k := 1) l3
  refine ⟨RS.out _ L3.out, ?_⟩
  refine till_ready 13 (by kernel_rfl) rfl (fun K hK => ?_)
  go_simp
  go_wp2_with (go_at_call 11; refine (new_any key ctr nonce HK.out.1 HK.out.2.1 HK.out.2.2.1 HK.out.2.2.2 hct _).mono ?_; rintro e w4 ⟨g2, rfl, hg2, st2, l4⟩)
  have F4 : Hid (StAt w4 g1 key nonce (64 * ctr) ∧ StAt w4 g2 key nonce (64 * ctr) ∧ w2.heap.size ≤ g1 ∧ g1 < g2 ∧ Below w2.heap.size w2 w4) := ⟨st1.later l4 st1.blk.lt, st2, hg1, Nat.lt_of_lt_of_le st1.blk.lt hg2, below_chain L3.out l4 L3.out.size⟩
  clear hg1 hg2 st1 st2 l3 l4 HS
  refine ⟨RS.out _ F4.out.2.2.2.2, ?_⟩
  refine tTake 14 (some 7) (.pointer (some ⟨g1, 0, none⟩)) rfl rfl (by kernel_rfl) (by kernel_rfl) (by kernel_rfl) (by decide) (fun _ _ _ h => h) (by rfl) (fun _ => by go_simp) (RS.out _ F4.out.2.2.2.2) ?_
  simp only [Act.put, List.setIfInBounds_toArray, List.set_cons_zero, List.set_cons_succ]
  refine till_at (by kernel_rfl) ?_
  refine take_op 15 (some 8) (.pointer (some ⟨g2, 0, none⟩)) rfl rfl (by kernel_rfl) (by kernel_rfl) (by kernel_rfl) (fun _ _ _ h => h) (by rfl) (fun _ => by rfl) ?_
  simp only [Act.put, List.setIfInBounds_toArray, List.set_cons_zero, List.set_cons_succ]
  refine wpAny_done (by kernel_rfl) (NoPanic.normal ?_) _
  have c4 := (RS.out _ F4.out.2.2.2.2).2.2
  go_wp2_with (first | (refine wpList_load_mid rfl 23 _ rfl w.heap.size 0 rfl (u8s key) _ (RS.out _ F4.out.2.2.2.2).1 Try.underlying23 rfl uK.out.1 ?_) | (refine wpList_load_mid rfl 25 _ rfl w.heap.size 32 rfl (u8s nonce) _ (RS.out _ F4.out.2.2.2.2).2.1 Try.underlying25 rfl uK.out.2 ?_) | (go_at_call 11; refine (new_any key ctr nonce HK.out.1 HK.out.2.1 HK.out.2.2.1 HK.out.2.2.2 hct _).mono ?_; rintro e w5 ⟨g3, rfl, hg3, st3, l5⟩))
  have F5 : Hid (StAt w5 g1 key nonce (64 * ctr) ∧ StAt w5 g2 key nonce (64 * ctr) ∧ StAt w5 g3 key nonce (64 * ctr) ∧ w2.heap.size ≤ g1 ∧ g1 < g2 ∧ g2 < g3 ∧ Below w2.heap.size w2 w5) := ⟨F4.out.1.later l5 F4.out.1.blk.lt, F4.out.2.1.later l5 F4.out.2.1.blk.lt, st3, F4.out.2.2.1, F4.out.2.2.2.1, Nat.lt_of_lt_of_le F4.out.2.1.blk.lt hg3, below_chain F4.out.2.2.2.2 l5 F4.out.2.2.2.2.size⟩
  clear c4 hg3 st3 l5 L3 F4
  refine (lent_any ao n c zs _ (X2.out _ F5.out.2.2.2.2.2.2).1 HX.out.2.1 (by omega)).mono ?_
  rintro e w6 ⟨g4, cap4, rfl, r4, hg4, k4, m4, l6⟩
  go_wp2_with fail
  have L6 : Hid (Below w2.heap.size w2 w6) := below_chain F5.out.2.2.2.2.2.2 l6 F5.out.2.2.2.2.2.2.size
  refine (lent_any bo m d ys _ (X2.out _ L6.out).2 HX.out.2.2.2 (by omega)).mono ?_
  rintro e w7 ⟨g5, cap5, rfl, r5, hg5, k5, m5, l7⟩
  have F7 : Hid (Fr w2 w7 g1 g2 g3 g4 g5 (64 * ctr) (64 * ctr) (64 * ctr) key nonce zs ys ∧ Rank w2.heap.size g1 g2 g3 g4 g5 w7.heap.size ∧ n + 90 ≤ cap4 ∧ cap4 ≤ maxLen ∧ m + 90 ≤ cap5 ∧ cap5 ≤ maxLen) := by
    obtain ⟨a1, a2, a3, a4, a5, a6, a7⟩ := F5.out
    have t := below_chain l6 l7 l6.size
    exact ⟨⟨a1.later t a1.blk.lt, a2.later t a2.blk.lt, a3.later t a3.blk.lt, r4.kept (Kept.new (fun _ => False) l7) id, r5, below_chain L6.out l7 L6.out.size⟩, ⟨a4, a5, a6, Nat.lt_of_lt_of_le a3.blk.lt hg4, Nat.lt_of_lt_of_le r4.lt hg5, r5.lt⟩, k4, m4, k5, m5⟩
  clear r4 hg4 k4 m4 l6 L6 r5 hg5 k5 m5 l7 F5
  have RK := F7.out.2.1
  have HRK : Hid (Rank w2.heap.size g1 g2 g3 g4 g5 w7.heap.size) := RK
  clear RK
  have HZ : Hid (zs.length = n ∧ Bytes zs ∧ n ≤ 140737488355328 ∧ ys.length = m ∧ Bytes ys ∧ m ≤ 140737488355328) := ⟨HX.out.1.len, HX.out.1.bytes, HX.out.1.top, HX.out.2.2.1.len, HX.out.2.2.1.bytes, HX.out.2.2.1.top⟩
  go_wp2_with fail
  refine (sxor_any g1 key nonce (64 * ctr) n cap4 (some ⟨g4, 0, none⟩) zs (by omega) _ F7.out.1.s1 (Seen.lent F7.out.1.r4 HZ.out.1 HZ.out.2.1 HZ.out.2.2.1)).mono ?_
  rintro e w8 ⟨v, rfl, o, st, k⟩
  obtain ⟨o1, c1, rfl, u1⟩ := out_of ((over_length _ _ _ _).trans HZ.out.1) (over_bytes _ _ _ _ HZ.out.2.1) HZ.out.2.2.1 o
  have G1 : Hid (Fr w2 w8 g1 g2 g3 g4 g5 (64 * ctr + n) (64 * ctr) (64 * ctr) key nonce zs ys) := F7.out.1.x1 HRK.out k st
  have K1 : Hid (Kept (fun b => b = g1) w7 w8) := k
  have U1 : Hid (Out w8 w7.heap.size w8.heap.size o1 n c1 (over key nonce (64 * ctr) zs)) := u1
  clear o st k u1
  go_wp2_with fail
  refine (sxor_any g2 key nonce (64 * ctr) n cap4 (some ⟨g4, 0, none⟩) zs (by omega) _ G1.out.s2 (Seen.lent G1.out.r4 HZ.out.1 HZ.out.2.1 HZ.out.2.2.1)).mono ?_
  rintro e w9 ⟨v, rfl, o, st, k⟩
  obtain ⟨o2, c2, rfl, u2⟩ := out_of ((over_length _ _ _ _).trans HZ.out.1) (over_bytes _ _ _ _ HZ.out.2.1) HZ.out.2.2.1 o
  have G2 : Hid (Fr w2 w9 g1 g2 g3 g4 g5 (64 * ctr + n) (64 * ctr + n) (64 * ctr) key nonce zs ys) := G1.out.x2 HRK.out k st
  have K2 : Hid (Kept (fun b => b = g2) w8 w9) := k
  have U2 : Hid (Out w9 w8.heap.size w9.heap.size o2 n c2 (over key nonce (64 * ctr) zs)) := u2
  clear o st k u2
  go_wp2_with fail
  refine (sxor_any g1 key nonce (64 * ctr + n) m cap5 (some ⟨g5, 0, none⟩) ys (by omega) _ G2.out.s1 (Seen.lent G2.out.r5 HZ.out.2.2.2.1 HZ.out.2.2.2.2.1 HZ.out.2.2.2.2.2)).mono ?_
  rintro e w10 ⟨v, rfl, o, st, k⟩
  obtain ⟨o3, c3, rfl, u3⟩ := out_of ((over_length _ _ _ _).trans HZ.out.2.2.2.1) (over_bytes _ _ _ _ HZ.out.2.2.2.2.1) HZ.out.2.2.2.2.2 o
  have G3 : Hid (Fr w2 w10 g1 g2 g3 g4 g5 (64 * ctr + n + m) (64 * ctr + n) (64 * ctr) key nonce zs ys) := G2.out.x1 HRK.out k st
  have K3 : Hid (Kept (fun b => b = g1) w9 w10) := k
  have U3 : Hid (Out w10 w9.heap.size w10.heap.size o3 m c3 (over key nonce (64 * ctr + n) ys)) := u3
  clear o st k u3
  go_wp2_with fail
  refine (sxor_any g2 key nonce (64 * ctr + n) m cap5 (some ⟨g5, 0, none⟩) ys (by omega) _ G3.out.s2 (Seen.lent G3.out.r5 HZ.out.2.2.2.1 HZ.out.2.2.2.2.1 HZ.out.2.2.2.2.2)).mono ?_
  rintro e w11 ⟨v, rfl, o, st, k⟩
  obtain ⟨o4, c4, rfl, u4⟩ := out_of ((over_length _ _ _ _).trans HZ.out.2.2.2.1) (over_bytes _ _ _ _ HZ.out.2.2.2.2.1) HZ.out.2.2.2.2.2 o
  have G4 : Hid (Fr w2 w11 g1 g2 g3 g4 g5 (64 * ctr + n + m) (64 * ctr + n + m) (64 * ctr) key nonce zs ys) := G3.out.x2 HRK.out k st
  have K4 : Hid (Kept (fun b => b = g2) w10 w11) := k
  have U4 : Hid (Out w11 w10.heap.size w11.heap.size o4 m c4 (over key nonce (64 * ctr + n) ys)) := u4
  clear o st k u4
  go_wp2_with fail
  have SZ : Hid (w7.heap.size ≤ w8.heap.size ∧ w8.heap.size ≤ w9.heap.size ∧ w9.heap.size ≤ w10.heap.size ∧ w10.heap.size ≤ w11.heap.size) := ⟨K1.out.size, K2.out.size, K3.out.size, K4.out.size⟩
  obtain ⟨Z1, hZ1⟩ : ∃ Z, (over key nonce (64 * ctr) zs) = Z := ⟨_, rfl⟩
  obtain ⟨Z3, hZ3⟩ : ∃ Z, (over key nonce (64 * ctr + n) ys) = Z := ⟨_, rfl⟩
  rw [hZ1] at U1 U2
  rw [hZ3] at U3 U4
  have HZZ : Hid (over key nonce (64 * ctr) zs = Z1 ∧ over key nonce (64 * ctr + n) ys = Z3) := ⟨hZ1, hZ3⟩
  clear hZ1 hZ3
  have Fa : Hid (Fo w2 w11 g1 g2 g3 g4 g5 (64 * ctr + n + m) (64 * ctr + n + m) (64 * ctr) key nonce zs ys w7.heap.size w8.heap.size w9.heap.size w10.heap.size w11.heap.size o1 o2 o3 o4 n m c1 c2 c3 c4 Z1 Z3) := by
    obtain ⟨a1, a2, a3, a4, a5, a6⟩ := HRK.out
    obtain ⟨z1, z2, z3, z4⟩ := SZ.out
    exact ⟨G4.out, ((U1.out.kept K2.out (fun y h1 h2 => by omega)).kept K3.out (fun y h1 h2 => by omega)).kept K4.out (fun y h1 h2 => by omega), (U2.out.kept K3.out (fun y h1 h2 => by omega)).kept K4.out (fun y h1 h2 => by omega), U3.out.kept K4.out (fun y h1 h2 => by omega), U4.out, Nat.le_refl _⟩
  clear G1 G2 G3 G4 K1 K2 K3 K4 U1 U2 U3 U4
  refine (same_yes o1 o2 n n c1 c2 Z1 _ Fa.out.p.seen Fa.out.q.seen).mono ?_
  rintro e wb ⟨rfl, q, hq⟩
  have Fb : Hid (Fo w2 wb g1 g2 g3 g4 g5 (64 * ctr + n + m) (64 * ctr + n + m) (64 * ctr) key nonce zs ys w7.heap.size w8.heap.size w9.heap.size w10.heap.size w11.heap.size o1 o2 o3 o4 n m c1 c2 c3 c4 Z1 Z3) := by rw [hq]; exact Fa.out.later (below_dn (Below.refl _ _) q)
  clear hq Fa
  go_wp2_with fail
  refine (same_yes o3 o4 m m c3 c4 Z3 _ Fb.out.r.seen Fb.out.s.seen).mono ?_
  rintro e wc ⟨rfl, q, hq⟩
  have Fc : Hid (Fo w2 wc g1 g2 g3 g4 g5 (64 * ctr + n + m) (64 * ctr + n + m) (64 * ctr) key nonce zs ys w7.heap.size w8.heap.size w9.heap.size w10.heap.size w11.heap.size o1 o2 o3 o4 n m c1 c2 c3 c4 Z1 Z3) := by rw [hq]; exact Fb.out.later (below_dn (Below.refl _ _) q)
  clear hq Fb
  go_wp2_with fail
  refine (still_yes g4 n cap4 ao c zs _ Fc.out.fr.r4 F7.out.2.2.1 F7.out.2.2.2.1 (X2.out _ Fc.out.fr.bel).1).mono ?_
  rintro e wd ⟨rfl, q, hq⟩
  have Fd : Hid (Fo w2 wd g1 g2 g3 g4 g5 (64 * ctr + n + m) (64 * ctr + n + m) (64 * ctr) key nonce zs ys w7.heap.size w8.heap.size w9.heap.size w10.heap.size w11.heap.size o1 o2 o3 o4 n m c1 c2 c3 c4 Z1 Z3) := by rw [hq]; exact Fc.out.later (below_dn (Below.refl _ _) q)
  clear hq Fc
  go_wp2_with fail
  refine (still_yes g5 m cap5 bo d ys _ Fd.out.fr.r5 F7.out.2.2.2.2.1 F7.out.2.2.2.2.2 (X2.out _ Fd.out.fr.bel).2).mono ?_
  rintro e we ⟨rfl, q, hq⟩
  have Fe : Hid (Fo w2 we g1 g2 g3 g4 g5 (64 * ctr + n + m) (64 * ctr + n + m) (64 * ctr) key nonce zs ys w7.heap.size w8.heap.size w9.heap.size w10.heap.size w11.heap.size o1 o2 o3 o4 n m c1 c2 c3 c4 Z1 Z3) := by rw [hq]; exact Fd.out.later (below_dn (Below.refl _ _) q)
  clear hq Fd
  go_wp2_with fail
  refine (copied_any o1 n c1 Z1 _ Fe.out.p.seen Fe.out.p.nil).mono ?_
  rintro e wf ⟨v, rfl, o, l⟩
  obtain ⟨oF, cF, rfl, uF⟩ := out_of Fe.out.p.seen.len Fe.out.p.seen.bytes Fe.out.p.seen.top o
  have Ff : Hid (Fo w2 wf g1 g2 g3 g4 g5 (64 * ctr + n + m) (64 * ctr + n + m) (64 * ctr) key nonce zs ys w7.heap.size w8.heap.size w9.heap.size w10.heap.size w11.heap.size o1 o2 o3 o4 n m c1 c2 c3 c4 Z1 Z3 ∧ Out wf we.heap.size wf.heap.size oF n cF Z1 ∧ w11.heap.size ≤ we.heap.size) := ⟨Fe.out.later l, uF, Fe.out.sz⟩
  clear o l uF Fe
  go_wp2_with fail
  refine (copied_any o3 m c3 Z3 _ Ff.out.1.r.seen Ff.out.1.r.nil).mono ?_
  rintro e wg ⟨v, rfl, o, l⟩
  obtain ⟨oT, cT, rfl, uT⟩ := out_of Ff.out.1.r.seen.len Ff.out.1.r.seen.bytes Ff.out.1.r.seen.top o
  have Fg : Hid (Fo w2 wg g1 g2 g3 g4 g5 (64 * ctr + n + m) (64 * ctr + n + m) (64 * ctr) key nonce zs ys w7.heap.size w8.heap.size w9.heap.size w10.heap.size w11.heap.size o1 o2 o3 o4 n m c1 c2 c3 c4 Z1 Z3 ∧ Out wg we.heap.size wf.heap.size oF n cF Z1 ∧ Out wg wf.heap.size wg.heap.size oT m cT Z3 ∧ w11.heap.size ≤ we.heap.size ∧ w11.heap.size ≤ wf.heap.size) := ⟨Ff.out.1.later l, Ff.out.2.1.later l, uT, Ff.out.2.2, Ff.out.1.sz⟩
  clear o l uT Ff
  go_wp2_with (refine wpList_bs rfl 56 4 _ rfl _ rfl _ _ (bs4 o1 o2 o3 o4 n n m m c1 c2 c3 c4 _) ?_)
  have LT := lot4 Fg.out.1.p Fg.out.1.q Fg.out.1.r Fg.out.1.s SZ.out.1 SZ.out.2.1 SZ.out.2.2.1 SZ.out.2.2.2 Fg.out.1.sz
  refine (apart_any wg.heap.size 4 4 _ _ _ _ _ _ LT.1 (by decide) (fun j hj => by rcases (by omega : j = 0 ∨ j = 1 ∨ j = 2 ∨ j = 3) with rfl | rfl | rfl | rfl <;> simp <;> omega)).mono ?_
  rintro e wh ⟨rfl, kh⟩
  have Fh : Hid (Fr w2 wh g1 g2 g3 g4 g5 (64 * ctr + n + m) (64 * ctr + n + m) (64 * ctr) key nonce zs ys ∧ Out wh we.heap.size wf.heap.size oF n cF Z1 ∧ Out wh wf.heap.size wg.heap.size oT m cT Z3 ∧ w11.heap.size ≤ we.heap.size ∧ w11.heap.size ≤ wf.heap.size) := by
    have l := (Below.refl wg.heap.size wg).alloc (Nat.le_refl _) (.cells #[.slice o1 n c1, .slice o2 n c2, .slice o3 m c3, .slice o4 m c4] 44)
    exact ⟨(Fg.out.1.fr.later l).far HRK.out kh (fun y hy => (LT.2 y hy).1), (Fg.out.2.1.later l).kept kh (fun y h1 h2 hS => by have := (LT.2 y hS).2; have := Fg.out.2.2.2.1; omega), (Fg.out.2.2.1.later l).kept kh (fun y h1 h2 hS => by have := (LT.2 y hS).2; have := Fg.out.2.2.2.2; omega), Fg.out.2.2.2⟩
  clear LT kh Fg
  go_wp2_with fail
  refine (still_yes g4 n cap4 ao c zs _ Fh.out.1.r4 F7.out.2.2.1 F7.out.2.2.2.1 (X2.out _ Fh.out.1.bel).1).mono ?_
  rintro e wi ⟨rfl, q, hq⟩
  have Fi : Hid (Fr w2 wi g1 g2 g3 g4 g5 (64 * ctr + n + m) (64 * ctr + n + m) (64 * ctr) key nonce zs ys ∧ Out wi we.heap.size wf.heap.size oF n cF Z1 ∧ Out wi wf.heap.size wg.heap.size oT m cT Z3 ∧ w11.heap.size ≤ we.heap.size ∧ w11.heap.size ≤ wf.heap.size) := by rw [hq]; exact ⟨Fh.out.1.later (below_dn (Below.refl _ _) q), Fh.out.2.1.later (below_dn (Below.refl _ _) q), Fh.out.2.2.1.later (below_dn (Below.refl _ _) q), Fh.out.2.2.2⟩
  clear hq Fh
  go_wp2_with fail
  refine (still_yes g5 m cap5 bo d ys _ Fi.out.1.r5 F7.out.2.2.2.2.1 F7.out.2.2.2.2.2 (X2.out _ Fi.out.1.bel).2).mono ?_
  rintro e wj ⟨rfl, q, hq⟩
  have Fj : Hid (Fr w2 wj g1 g2 g3 g4 g5 (64 * ctr + n + m) (64 * ctr + n + m) (64 * ctr) key nonce zs ys ∧ Out wj we.heap.size wf.heap.size oF n cF Z1 ∧ Out wj wf.heap.size wg.heap.size oT m cT Z3 ∧ w11.heap.size ≤ we.heap.size ∧ w11.heap.size ≤ wf.heap.size) := by rw [hq]; exact ⟨Fi.out.1.later (below_dn (Below.refl _ _) q), Fi.out.2.1.later (below_dn (Below.refl _ _) q), Fi.out.2.2.1.later (below_dn (Below.refl _ _) q), Fi.out.2.2.2⟩
  clear hq Fi
  go_wp2_with fail
  refine (sxor_any g3 key nonce (64 * ctr) n cap4 (some ⟨g4, 0, none⟩) zs (by omega) _ Fj.out.1.s3 (Seen.lent Fj.out.1.r4 HZ.out.1 HZ.out.2.1 HZ.out.2.2.1)).mono ?_
  rintro e wk ⟨v, rfl, o, st, k⟩
  obtain ⟨o5, c5, rfl, u5⟩ := out_of ((over_length _ _ _ _).trans HZ.out.1) (over_bytes _ _ _ _ HZ.out.2.1) HZ.out.2.2.1 o
  rw [HZZ.out.1] at u5
  have Fk : Hid ((Fr w2 wk g1 g2 g3 g4 g5 (64 * ctr + n + m) (64 * ctr + n + m) (64 * ctr + n) key nonce zs ys ∧ Out wk we.heap.size wf.heap.size oF n cF Z1 ∧ Out wk wf.heap.size wg.heap.size oT m cT Z3 ∧ w11.heap.size ≤ we.heap.size ∧ w11.heap.size ≤ wf.heap.size) ∧ Seen wk o5 n Z1 ∧ ∀ b o, o5 = some ⟨b, o, none⟩ → wj.heap.size ≤ b ∧ b < wk.heap.size) := by
    obtain ⟨a1, a2, a3, a4, a5, a6⟩ := HRK.out
    obtain ⟨z1, z2, z3, z4⟩ := SZ.out
    have e1 := Fj.out.2.2.2.1
    have e2 := Fj.out.2.2.2.2
    exact ⟨⟨Fj.out.1.x3 HRK.out k st, Fj.out.2.1.kept k (fun y h1 h2 => by omega), Fj.out.2.2.1.kept k (fun y h1 h2 => by omega), Fj.out.2.2.2⟩, u5.seen, u5.place⟩
  have Fk1 : Hid (Fr w2 wk g1 g2 g3 g4 g5 (64 * ctr + n + m) (64 * ctr + n + m) (64 * ctr + n) key nonce zs ys ∧ Out wk we.heap.size wf.heap.size oF n cF Z1 ∧ Out wk wf.heap.size wg.heap.size oT m cT Z3 ∧ w11.heap.size ≤ we.heap.size ∧ w11.heap.size ≤ wf.heap.size) := Fk.out.1
  have JS : Hid (g3 < wj.heap.size) := Fj.out.1.s3.blk.lt
  clear o st k u5 Fj
  go_wp2_with fail
  refine (sxor_any g3 key nonce (64 * ctr + n) m cap5 (some ⟨g5, 0, none⟩) ys (by omega) _ Fk1.out.1.s3 (Seen.lent Fk1.out.1.r5 HZ.out.2.2.2.1 HZ.out.2.2.2.2.1 HZ.out.2.2.2.2.2)).mono ?_
  rintro e wl ⟨v, rfl, o, st, k⟩
  obtain ⟨o6, c6, rfl, u6⟩ := out_of ((over_length _ _ _ _).trans HZ.out.2.2.2.1) (over_bytes _ _ _ _ HZ.out.2.2.2.2.1) HZ.out.2.2.2.2.2 o
  rw [HZZ.out.2] at u6
  have Fl : Hid ((Fr w2 wl g1 g2 g3 g4 g5 (64 * ctr + n + m) (64 * ctr + n + m) (64 * ctr + n + m) key nonce zs ys ∧ Out wl we.heap.size wf.heap.size oF n cF Z1 ∧ Out wl wf.heap.size wg.heap.size oT m cT Z3 ∧ w11.heap.size ≤ we.heap.size ∧ w11.heap.size ≤ wf.heap.size) ∧ Seen wl o6 m Z3 ∧ Seen wl o5 n Z1) := by
    obtain ⟨a1, a2, a3, a4, a5, a6⟩ := HRK.out
    obtain ⟨z1, z2, z3, z4⟩ := SZ.out
    have e1 := Fk1.out.2.2.2.1
    have e2 := Fk1.out.2.2.2.2
    exact ⟨⟨Fk1.out.1.x3 HRK.out k st, Fk1.out.2.1.kept k (fun y h1 h2 => by omega), Fk1.out.2.2.1.kept k (fun y h1 h2 => by omega), Fk1.out.2.2.2⟩, u6.seen, Fk.out.2.1.kept k (fun b o _ e => by have := (Fk.out.2.2 b o e).1; have := JS.out; omega)⟩
  clear o st k u6 Fk Fk1
  go_wp2_with fail
  refine (same_yes o5 oF n n c5 cF Z1 _ Fl.out.2.2 Fl.out.1.2.1.seen).mono ?_
  rintro e wm ⟨rfl, q, hq⟩
  have Fm : Hid (Fr w2 wm g1 g2 g3 g4 g5 (64 * ctr + n + m) (64 * ctr + n + m) (64 * ctr + n + m) key nonce zs ys ∧ Seen wm o6 m Z3 ∧ Seen wm oT m Z3) := by rw [hq]; exact ⟨Fl.out.1.1.later (below_dn (Below.refl _ _) q), Fl.out.2.1.later (below_dn (Below.refl _ _) q) (Nat.le_refl _), (Fl.out.1.2.2.1.later (below_dn (Below.refl _ _) q)).seen⟩
  clear hq Fl
  go_wp2_with fail
  refine (same_yes o6 oT m m c6 cT Z3 _ Fm.out.2.1 Fm.out.2.2).mono ?_
  rintro e wn ⟨rfl, q, hq⟩
  have Fn : Hid (Fr w2 wn g1 g2 g3 g4 g5 (64 * ctr + n + m) (64 * ctr + n + m) (64 * ctr + n + m) key nonce zs ys) := by rw [hq]; exact Fm.out.1.later (below_dn (Below.refl _ _) q)
  clear hq Fm
  go_wp2_with (first | (with_reducible refine (at_any g1 key nonce (64 * ctr + n + m) _ Fn.out.s1).mono ?_; rintro e w' ⟨rfl, rfl⟩) | (with_reducible refine (at_any g2 key nonce (64 * ctr + n + m) _ Fn.out.s2).mono ?_; rintro e w' ⟨rfl, rfl⟩) | (with_reducible refine (at_any g3 key nonce (64 * ctr + n + m) _ Fn.out.s3).mono ?_; rintro e w' ⟨rfl, rfl⟩))
  go_ret
  exact ⟨rfl, below_chain B2.out.2.1 Fn.out.bel B2.out.2.1.size⟩
end Go.Proofs.Ytillphlgoacgdaa
