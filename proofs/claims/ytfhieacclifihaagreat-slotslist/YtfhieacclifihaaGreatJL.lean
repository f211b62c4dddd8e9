/- Joined by program: what the theorem reaches. -/
import Derived.Test.YtfhieacclifihaaGreatJA
import Derived.Test.YtfhieacclifihaaGreatJG
import Derived.Test.YtfhieacclifihaaGreatJJ
import Derived.Test.YtfhieacclifihaaGreatJK
namespace Go.Proofs.YtfhieacclifihaaGreat
open Go.RowKit
set_option linter.unusedVariables false
set_option linter.unusedSimpArgs false

theorem enter_pair1 : ∀ args w, (callFunc 61 args).run Tryz.prog w = .ok (.enter 61 args) w := fun args w => by kernel_rfl
def isZ2 (base a b : Nat) (v : Value) (w : World) : Prop := ∃ p, v = .slice (some ⟨p, 0, none⟩) 2 2 ∧ Blk w p 3 [.int .i64 (a : Int), .int .i64 (b : Int)] ∧ base ≤ p
theorem isZ2_later (base a b : Nat) : ∀ v w w', Below w.heap.size w w' → isZ2 base a b v w → isZ2 base a b v w' := fun _ _ _ hb ⟨p, h1, h2, h3⟩ => ⟨p, h1, h2.later hb h2.lt, h3⟩
theorem isZ2_made (w : World) (a b : Nat) {base : Nat} (hb : base ≤ w.heap.size) : isZ2 base a b (.slice (some ⟨w.heap.size, 0, none⟩) 2 2) (w.alloc (.cells #[.int .i64 (a : Int), .int .i64 (b : Int)] 3)) := ⟨w.heap.size, rfl, heap_alloc_new w _, hb⟩
theorem bsI2 (a b : Nat) (w : World) : (Instr.buildSlice 51 2 #[(0, .int .i64 (a : Int)), (1, .int .i64 (b : Int))]).run Tryz.prog w = .ok (.slice (some ⟨w.heap.size, 0, none⟩) 2 2) (w.alloc (.cells #[.int .i64 (a : Int), .int .i64 (b : Int)] 3)) := by kernel_rfl
theorem Does.int2 {base : Nat} {E : Exp} {ρ : Operand → Value} {o : Oper} {w : World} (x y : Operand) (ho : o.op = .buildSlice 51 2 #[(0, x), (1, y)]) (a b : Nat) (hx : ρ x = .int .i64 (a : Int)) (hy : ρ y = .int .i64 (b : Int)) (hE : E.ok base (.slice (some ⟨w.heap.size, 0, none⟩) 2 2) (w.alloc (.cells #[.int .i64 (a : Int), .int .i64 (b : Int)] 3))) : Does base E ρ o w := by
  refine Does.run (.slice (some ⟨w.heap.size, 0, none⟩) 2 2) ?_ hE ((Below.refl _ _).alloc (Nat.le_refl _) _)
  unfold execOp
  simp only [ho, List.map_toArray, List.map_cons, List.map_nil, hx, hy, Sem.run_bind, bsI2 a b w, Sem.run_pure, Result.andThen_ok]
/-- Two numbers compacted: one, if they are one. -/
theorem compact_any (bp a b : Nat) (w : World) (h : Blk w bp 3 [.int .i64 (a : Int), .int .i64 (b : Int)]) :
    Calls Tryz.prog 60 #[.slice (some ⟨bp, 0, none⟩) 2 2] w fun e w' => ∃ m : Nat, e = .returned (.slice (some ⟨bp, 0, none⟩) m 2) ∧ ((a = b ∧ m = 1 ∧ w'.cell? ⟨bp, 0, none⟩ = some (.int .i64 (a : Int))) ∨ (a ≠ b ∧ m = 2 ∧ w'.cell? ⟨bp, 0, none⟩ = some (.int .i64 (a : Int)) ∧ w'.cell? ⟨bp, 1, none⟩ = some (.int .i64 (b : Int)))) ∧ bp < w'.heap.size ∧ Kept (fun k => k = bp) w w' := by
  have c0 : w.cell? ⟨bp, 0, none⟩ = some (.int .i64 (a : Int)) := by rw [h.cell]; rfl
  have c1 : w.cell? ⟨bp, 1, none⟩ = some (.int .i64 (b : Int)) := by rw [h.cell]; rfl
  by_cases e : a = b
  · subst e
    refine (compact_eq bp a w h).mono ?_
    rintro e w' ⟨rfl, h1, h2, h3⟩
    exact ⟨1, rfl, .inl ⟨rfl, rfl, h1⟩, h2, h3⟩
  · refine (compact_ne bp a b e w c0 c1 h.lt).mono ?_
    rintro e' w' ⟨rfl, hb⟩
    exact ⟨2, rfl, .inr ⟨e, rfl, (hb.cell (p := ⟨bp, 0, none⟩) h.lt).trans c0, (hb.cell (p := ⟨bp, 1, none⟩) h.lt).trans c1⟩, Nat.lt_of_lt_of_le h.lt hb.size, Kept.new _ hb⟩
/-- The numbers behind a Pair. -/
def Nm.pair (cf : Cf) (n : Nm) (a b : Nat) : Nm := if a = b then (n.load cf a).save cf a else (((n.load cf a).load cf b).save cf a).save cf b
theorem upn_upn {α : Type} (f : Nat → α) (q : Nat) (x y : α) : upn (upn f q x) q y = upn f q y := by funext k; unfold upn; split <;> rfl
theorem setT_two (txt : Nat → List Int) (v : SlV) (i j : Nat) (A' B' : List Int) (qa qb : Nat) (ha : v.first + i / v.each = qa) (hb : v.first + j / v.each = qb) :
    setT (setT txt v i A') v j B' = if qa = qb then upn txt qa (putL (putL (txt qa) (i % v.each * v.size) A') (j % v.each * v.size) B') else upn (upn txt qa (putL (txt qa) (i % v.each * v.size) A')) qb (putL (txt qb) (j % v.each * v.size) B') := by
  unfold setT
  rw [ha, hb]
  by_cases e : qa = qb
  · subst e
    rw [if_pos rfl, upn_upn]
    congr 2
    unfold upn; rw [if_pos rfl]
  · rw [if_neg e]
    congr 2
    unfold upn; rw [if_neg (fun h => e h.symm)]
set_option maxRecDepth 20000 in
set_option maxHeartbeats 1000000 in
theorem pair_S (g : Nat) (v : SlV) (l : List Ax) (h : Nat) (cf : Cf) (n : Nm) (txt : Nat → List Int) (F : Nat → Prop) (i j : Nat) (B : FuncId) (caps : Array Value) (A' B' : List Int) (w : World) (x : PagS w v.p h cf n.ord n txt F) (y : SlS w g v l) (hd : ∀ b, slF g v b → ¬ F b) (hn : SlN v cf) (hi : i < v.n) (hj : j < v.n) (hij : i ≠ j) (hl : l.length ≤ 1000000000)
    (hol : n.ord.length ≤ cf.win) (hlog : n.log.length < 800000000) (hwr : n.writes < 800000000) (hent : ∀ args W, (callFunc B args).run Tryz.prog W = .ok (.enter B args) W) (hA : A'.length = v.size ∧ Bytes A' ∧ B'.length = v.size ∧ Bytes B')
    (HF : ∀ W, Kept (fun b => F b ∨ slF g v b) w W → FPair W B caps v.size (recL txt v i) (recL txt v j) A' B') :
    Calls Tryz.prog 25 #[.pointer (some ⟨g, 0, none⟩), .int .i64 (i : Int), .int .i64 (j : Int), .func (.func B) #[] caps] w fun e w' => e = .returned (.int .i64 0) ∧ ∃ F' lg, PagS w' v.p h cf (n.pair cf (v.first + i / v.each) (v.first + j / v.each)).ord (n.pair cf (v.first + i / v.each) (v.first + j / v.each)) (setT (setT txt v i A') v j B') F' ∧ SlS w' g { v with log := lg } (l ++ [⟨2, i, j⟩]) ∧ (∀ b, slF g { v with log := lg } b → ¬ F' b) ∧ Kept (fun b => F b ∨ slF g v b) w w' ∧ (∀ b, F' b ∨ slF g { v with log := lg } b → F b ∨ slF g v b ∨ w.heap.size ≤ b) := by
  obtain ⟨qa, hqa⟩ : ∃ q, v.first + i / v.each = q := ⟨_, rfl⟩
  obtain ⟨qb, hqb⟩ : ∃ q, v.first + j / v.each = q := ⟨_, rfl⟩
  have HQ : Hid (v.first + i / v.each = qa ∧ v.first + j / v.each = qb) := ⟨hqa, hqb⟩
  have hqp := hn.pages i hi
  have hqp2 := hn.pages j hj
  rw [hqa] at hqp ⊢
  rw [hqb] at hqp2 ⊢
  have N : Hid (1 ≤ v.each ∧ 1 ≤ v.size ∧ i ≤ 1000000000 ∧ j ≤ 1000000000 ∧ i % v.each * v.size + v.size ≤ cf.text ∧ j % v.each * v.size + v.size ≤ cf.text ∧ cf.text ≤ 4096 ∧ (qa < 1000000 ∧ qb < 1000000) ∧ qa < cf.pages ∧ qb < cf.pages) := ⟨hn.each, hn.size, by have := hn.n; omega, by have := hn.n; omega, hn.place i, hn.place j, x.good.text.2, by have := x.good.pages; exact ⟨by omega, by omega⟩, hqp, hqp2⟩
  have X0 : Hid (PagS w v.p h cf n.ord n txt F ∧ SlS w g v l ∧ (∀ b, slF g v b → ¬ F b)) := ⟨x, y, hd⟩
  have HB : Hid (n.ord.length ≤ cf.win ∧ n.log.length < 800000000 ∧ n.writes < 800000000) := ⟨hol, hlog, hwr⟩
  have HA : Hid (A'.length = v.size ∧ Bytes A' ∧ B'.length = v.size ∧ Bytes B') := hA
  have HE : Hid (∀ args W, (callFunc B args).run Tryz.prog W = .ok (.enter B args) W) := hent
  have HFK : Hid (∀ W, Kept (fun b => F b ∨ slF g v b) w W → FPair W B caps v.size (recL txt v i) (recL txt v j) A' B') := HF
  have HTL : Hid (((txt qa).length = cf.text ∧ Bytes (txt qa)) ∧ (txt qb).length = cf.text ∧ Bytes (txt qb)) := by
    obtain ⟨gh, gp, v', fh, fp, szp, Mh, s, Mt, y, hf, ha⟩ := x
    exact ⟨y.tl qa, y.tl qb⟩
  have CN : Hid (∀ W, Below w.heap.size w W → Calls Tryz.prog 55 #[.pointer (some ⟨g, 0, none⟩), .int .i64 2, .int .i64 (i : Int), .int .i64 (j : Int)] W fun e w' => e = .returned (.tuple #[]) ∧ ∃ lg, SlS w' g { v with log := lg } (l ++ [⟨2, i, j⟩]) ∧ Kept (slF g v) W w' ∧ ∀ b, lg.ownBlock = some b → v.log.ownBlock = some b ∨ W.heap.size ≤ b) := fun W hW => note_any g v l 2 i j W (y.later hW) hl
  have CH : Hid (∀ W, Below w.heap.size w W → Calls Tryz.prog 54 #[.pointer (some ⟨g, 0, none⟩), .int .i64 (i : Int)] W fun e w' => e = .returned (.bool true) ∧ W = w') := fun W hW => has_yes g v i hi W (y.later hW).blk
  have CJ : Hid (∀ W, Below w.heap.size w W → Calls Tryz.prog 54 #[.pointer (some ⟨g, 0, none⟩), .int .i64 (j : Int)] W fun e w' => e = .returned (.bool true) ∧ W = w') := fun W hW => has_yes g v j hj W (y.later hW).blk
  have hne : ((i : Int) == (j : Int)) = false := by simp; omega
  have hne2 : ¬ (i : Int) = (j : Int) := by omega
  clear x y hd hn hi hj hij hl hA hent HF hol hlog hwr hqa hqb hqp hqp2
  go_enter Tryz.func25, Tryz.ntmps25
  have M1 : Hid True := trivial
  have M2 : Hid True := trivial
  have M3 : Hid True := trivial
  have M4 : Hid True := trivial
  have M5 : Hid True := trivial
  have M6 : Hid True := trivial
  have M7 : Hid True := trivial
  go_wp2_with (first | (clear M1; refine wpList_boxV rfl 27 _ rfl (.pointer (some ⟨g, 0, none⟩)) rfl rfl ?_; intro w1 b1 s1 l1; have S1 : Hid (w1.heap.size = w.heap.size + 1) := s1; clear s1) | (clear M2; refine wpList_boxV rfl 3 _ rfl (.int .i64 (i : Int)) rfl rfl ?_; intro w2 b2 s2 l2; have S2 : Hid (w2.heap.size = w1.heap.size + 1) := s2; clear s2) | (clear M3; refine wpList_boxV rfl 3 _ rfl (.int .i64 (j : Int)) rfl rfl ?_; intro w3 b3 s3 l3; have S3 : Hid (w3.heap.size = w2.heap.size + 1) := s3; clear s3) | (clear M4; refine wpList_boxV rfl 74 _ rfl (.func (.func B) #[] caps) rfl rfl ?_; intro w4 b4 s4 l4; have S4 : Hid (w4.heap.size = w3.heap.size + 1) := s4; clear s4; have c1 : w4.cell? ⟨w.heap.size, 0, none⟩ = some (.pointer (some ⟨g, 0, none⟩)) := blk_c0 (((b1.later l2 b1.lt).later l3 (by have := S1.out; have := S2.out; omega)).later l4 (by have := S1.out; have := S2.out; have := S3.out; omega)); have c2 : w4.cell? ⟨w1.heap.size, 0, none⟩ = some (.int .i64 (i : Int)) := blk_c0 ((b2.later l3 (by have := S2.out; omega)).later l4 (by have := S2.out; have := S3.out; omega)); have c3 : w4.cell? ⟨w2.heap.size, 0, none⟩ = some (.int .i64 (j : Int)) := blk_c0 (b3.later l4 (by have := S3.out; omega)); have c4 : w4.cell? ⟨w3.heap.size, 0, none⟩ = some (.func (.func B) #[] caps) := blk_c0 b4; have L : Below w.heap.size w w4 := below_chain (below_chain (below_chain l1 l2 (by have := S1.out; omega)) l3 (by have := S1.out; have := S2.out; omega)) l4 (by have := S1.out; have := S2.out; have := S3.out; omega)) | (clear M5; go_at_call 54; refine (CH.out w4 L).mono ?_; rintro e _ ⟨rfl, rfl⟩) | (clear M6; go_at_call 54; refine (CJ.out w4 L).mono ?_; rintro e _ ⟨rfl, rfl⟩) | (clear M7; go_at_call 55; refine (CN.out w4 L).mono ?_; rintro e w6 ⟨rfl, lg, y6, k6, f6⟩; have nS : ∀ b, w.heap.size ≤ b → ¬ slF g v b := fun b hb hs => by have := X0.out.2.1.all b hs; omega))
  obtain ⟨z1, hz1⟩ : ∃ z1, w1.heap.size = z1 := ⟨_, rfl⟩
  obtain ⟨z2, hz2⟩ : ∃ z2, w2.heap.size = z2 := ⟨_, rfl⟩
  obtain ⟨z3, hz3⟩ : ∃ z3, w3.heap.size = z3 := ⟨_, rfl⟩
  have Y6 : Hid (PagS w6 v.p h cf n.ord n txt F ∧ SlS w6 g { v with log := lg } (l ++ [⟨2, i, j⟩]) ∧ Kept (slF g v) w w6 ∧ (∀ b, lg.ownBlock = some b → v.log.ownBlock = some b ∨ w.heap.size ≤ b) ∧ (∀ b, slF g { v with log := lg } b → ¬ F b)) := by
    refine ⟨(X0.out.1.later L).off k6 (fun b hb hF => X0.out.2.2 b hb hF), y6, (Kept.new _ L).trans k6, fun b hb => (f6 b hb).imp id (fun e => Nat.le_trans L.size e), fun b hb hF => ?_⟩
    rcases hb with e | e
    · exact X0.out.2.2 b (.inl e) hF
    · rcases f6 b e with e | e
      · exact X0.out.2.2 b (.inr e) hF
      · have := X0.out.1.all b hF; have := L.size; omega
  have Z6 : Hid (w.heap.size < w6.heap.size ∧ z1 < w6.heap.size ∧ z2 < w6.heap.size ∧ z3 < w6.heap.size ∧ w6.cell? ⟨w.heap.size, 0, none⟩ = some (.pointer (some ⟨g, 0, none⟩)) ∧ w6.cell? ⟨z1, 0, none⟩ = some (.int .i64 (i : Int)) ∧ w6.cell? ⟨z2, 0, none⟩ = some (.int .i64 (j : Int)) ∧ w6.cell? ⟨z3, 0, none⟩ = some (.func (.func B) #[] caps) ∧ w.heap.size < z1 ∧ w.heap.size < z2 ∧ w.heap.size < z3) := by
    have h6 := k6.size
    have := S1.out; have := S2.out; have := S3.out; have := S4.out
    rw [hz1] at c2; rw [hz2] at c3; rw [hz3] at c4
    exact ⟨by omega, by omega, by omega, by omega, kept_cell k6 _ _ (by omega) (nS _ (by omega)) c1, kept_cell k6 _ _ (by omega) (nS _ (by omega)) c2, kept_cell k6 _ _ (by omega) (nS _ (by omega)) c3, kept_cell k6 _ _ (by omega) (nS _ (by omega)) c4, by omega, by omega, by omega⟩
  rw [hz1, hz2, hz3]
  clear c1 c2 c3 c4 b1 b2 b3 b4 l1 l2 l3 l4 L hz1 hz2 hz3 y6 k6 f6 nS hne hne2 S1 S2 S3 S4 CN CH CJ
  refine region_invP 7 ((.val (.pointer (some ⟨g, 0, none⟩))) :: (.val (.int .i64 (i : Int))) :: (.val (.int .i64 (qa : Int))) :: (.val (.pointer (some ⟨g, 0, none⟩))) :: (.val (.int .i64 (j : Int))) :: (.val (.int .i64 (qb : Int))) :: (.any (isZ2 w6.heap.size qa qb) (isZ2_later _ _ _)) :: []) (by kernel_rfl) (by kernel_rfl) (by kernel_rfl) [] ⟨.inl rfl, .inl rfl, .inl rfl, .inl rfl, .inl rfl, .inl rfl, .inl rfl, trivial⟩ (by kernel_rfl) ?_ ?_
  · refine Steps'.cons ?_ (Steps'.cons ?_ (Steps'.cons ?_ (Steps'.cons ?_ (Steps'.cons ?_ (Steps'.cons ?_ (Steps'.cons ?_ (Steps'.one _ _ _ _ _ _ _)))))))
    · intro ax wx hb hs hd
      have h4 : ax.tmps.getD 4 undef = (.pointer (some ⟨w.heap.size, 0, none⟩)) := hs 4 (by kernel_rfl)
      have c0 : wx.cell? ⟨w.heap.size, 0, none⟩ = some (.pointer (some ⟨g, 0, none⟩)) := (hb.cell (p := ⟨w.heap.size, 0, none⟩) Z6.out.1).trans Z6.out.2.2.2.2.1
      refine Does.value (.pointer (some ⟨g, 0, none⟩)) ?_ rfl
      clear hs hd
      go_simp
    · intro ax wx hb hs hd
      have h5 : ax.tmps.getD 5 undef = (.pointer (some ⟨z1, 0, none⟩)) := hs 5 (by kernel_rfl)
      have c0 : wx.cell? ⟨z1, 0, none⟩ = some (.int .i64 (i : Int)) := (hb.cell (p := ⟨z1, 0, none⟩) Z6.out.2.1).trans Z6.out.2.2.2.2.2.1
      refine Does.value (.int .i64 (i : Int)) ?_ rfl
      clear hs hd
      go_simp
    · intro ax wx hb hs hd
      have h31 : ax.tmps.getD 31 undef = (.pointer (some ⟨g, 0, none⟩)) := hd 0 31 rfl (by kernel_rfl) (by decide)
      have h32 : ax.tmps.getD 32 undef = (.int .i64 (i : Int)) := hd 1 32 rfl (by kernel_rfl) (by decide)
      refine Does.call 59 #[(.pointer (some ⟨g, 0, none⟩)), .int .i64 (i : Int)] (by clear hs hd; go_simp) ?_
      refine (page_any g { v with log := lg } i wx (Y6.out.2.1.blk.later hb Y6.out.2.1.blk.lt) N.out.1 (by have := HQ.out; have := N.out; show v.first + i / v.each ≤ 1000000; omega) N.out.2.2.1).mono ?_
      rintro e w' ⟨rfl, l⟩
      exact ⟨_, rfl, by show Value.int .i64 ((v.first + i / v.each : Nat) : Int) = _; rw [HQ.out.1], l⟩
    · intro ax wx hb hs hd
      have h4 : ax.tmps.getD 4 undef = (.pointer (some ⟨w.heap.size, 0, none⟩)) := hs 4 (by kernel_rfl)
      have c0 : wx.cell? ⟨w.heap.size, 0, none⟩ = some (.pointer (some ⟨g, 0, none⟩)) := (hb.cell (p := ⟨w.heap.size, 0, none⟩) Z6.out.1).trans Z6.out.2.2.2.2.1
      refine Does.value (.pointer (some ⟨g, 0, none⟩)) ?_ rfl
      clear hs hd
      go_simp
    · intro ax wx hb hs hd
      have h6 : ax.tmps.getD 6 undef = (.pointer (some ⟨z2, 0, none⟩)) := hs 6 (by kernel_rfl)
      have c0 : wx.cell? ⟨z2, 0, none⟩ = some (.int .i64 (j : Int)) := (hb.cell (p := ⟨z2, 0, none⟩) Z6.out.2.2.1).trans Z6.out.2.2.2.2.2.2.1
      refine Does.value (.int .i64 (j : Int)) ?_ rfl
      clear hs hd
      go_simp
    · intro ax wx hb hs hd
      have h34 : ax.tmps.getD 34 undef = (.pointer (some ⟨g, 0, none⟩)) := hd 3 34 rfl (by kernel_rfl) (by decide)
      have h35 : ax.tmps.getD 35 undef = (.int .i64 (j : Int)) := hd 4 35 rfl (by kernel_rfl) (by decide)
      refine Does.call 59 #[(.pointer (some ⟨g, 0, none⟩)), .int .i64 (j : Int)] (by clear hs hd; go_simp) ?_
      refine (page_any g { v with log := lg } j wx (Y6.out.2.1.blk.later hb Y6.out.2.1.blk.lt) N.out.1 (by have := HQ.out; have := N.out; show v.first + j / v.each ≤ 1000000; omega) N.out.2.2.2.1).mono ?_
      rintro e w' ⟨rfl, l⟩
      exact ⟨_, rfl, by show Value.int .i64 ((v.first + j / v.each : Nat) : Int) = _; rw [HQ.out.2], l⟩
    · intro ax wx hb hs hd
      have h33 : ax.tmps.getD 33 undef = (.int .i64 (qa : Int)) := hd 2 33 rfl (by kernel_rfl) (by decide)
      have h36 : ax.tmps.getD 36 undef = (.int .i64 (qb : Int)) := hd 5 36 rfl (by kernel_rfl) (by decide)
      exact Does.int2 (.tmp 33) (.tmp 36) rfl qa qb h33 h36 (isZ2_made wx qa qb hb.size)
  · intro wx hb
    refine @EndsP.val _ _ _ _ _ _ _ _ (.pointer (some ⟨g, 0, none⟩)) rfl ?_
    refine @EndsP.val _ _ _ _ _ _ _ _ (.int .i64 (i : Int)) rfl ?_
    refine @EndsP.val _ _ _ _ _ _ _ _ (.int .i64 (qa : Int)) rfl ?_
    refine @EndsP.val _ _ _ _ _ _ _ _ (.pointer (some ⟨g, 0, none⟩)) rfl ?_
    refine @EndsP.val _ _ _ _ _ _ _ _ (.int .i64 (j : Int)) rfl ?_
    refine @EndsP.val _ _ _ _ _ _ _ _ (.int .i64 (qb : Int)) rfl ?_
    refine @EndsP.any _ _ _ _ _ _ _ _ (isZ2 w6.heap.size qa qb) (isZ2_later _ _ _) rfl ?_
    intro v37 p37
    intro hD nf hn
    obtain ⟨bp, rfl, cb, hbp⟩ := p37
    obtain ⟨mf, rfl⟩ : ∃ mf, nf = mf + 2 := ⟨nf - 2, by have h3 : 2 ≤ nf := hn; omega⟩
    clear hD hn
    simp only [Act.put, List.setIfInBounds_toArray, List.set_cons_zero, List.set_cons_succ]
    have hF0 := X0.out.1.all
    have nF : ∀ b, w.heap.size ≤ b → ¬ F b := fun b hb hF => by have := hF0 b hF; omega
    clear hF0
    have h6w := Z6.out.1
    have BX : Hid (Below w6.heap.size w6 wx ∧ w6.heap.size ≤ bp) := ⟨hb, hbp⟩
    clear hb hbp
    refine wpAny_ready (rs := [7]) (by kernel_rfl) (by simp) (AllReady.cons rfl (fun K hK => ?_) AllReady.nil)
    go_simp
    go_wp2_with (go_at_call 60; refine (compact_any bp qa qb wx cb).mono ?_; rintro e w8 ⟨m, rfl, hm, hbl, k8⟩)
    refine take_op 8 (some 9) (.slice (some ⟨bp, 0, none⟩) m 2) rfl rfl (by kernel_rfl) (by kernel_rfl) (by kernel_rfl) (fun _ _ _ h => h) (by rfl) (fun W' => by go_simp) ?_
    simp only [Act.put, List.setIfInBounds_toArray, List.set_cons_zero, List.set_cons_succ]
    refine wpAny_done (by kernel_rfl) (NoPanic.normal ?_) _
    have W8 : Hid (PagS w8 v.p h cf n.ord n txt F ∧ SlS w8 g { v with log := lg } (l ++ [⟨2, i, j⟩]) ∧ (Below w6.heap.size w6 w8 ∧ Kept (fun b => F b ∨ slF g v b) w w8) ∧ (bp < w8.heap.size ∧ ¬ F bp)) := by
      have hbx := BX.out.1
      have hbp := BX.out.2
      have LB : Below w6.heap.size w6 w8 := ⟨k8.os.trans hbx.os, k8.tape.trans hbx.tape, k8.output.trans hbx.output, Nat.le_trans hbx.size k8.size, fun k hk => (k8.block k (Nat.lt_of_lt_of_le hk hbx.size) (fun e => by omega)).trans (hbx.block k hk)⟩
      refine ⟨Y6.out.1.later LB, Y6.out.2.1.later LB, ⟨LB, ?_⟩, hbl, nF bp (by omega)⟩
      have k6 := Y6.out.2.2.1
      exact ⟨LB.os.trans k6.os, LB.tape.trans k6.tape, LB.output.trans k6.output, Nat.le_trans k6.size LB.size, fun k hk hs => (LB.block k (Nat.lt_of_lt_of_le hk k6.size)).trans (k6.block k hk (fun e => hs (.inr e)))⟩
    clear cb hbl k8
    rcases hm with ⟨hab, rfl, c0⟩ | ⟨hab, rfl, c0, c1⟩
    · have CO : Hid (Calls Tryz.prog 56 #[.pointer (some ⟨g, 0, none⟩), (.func (.func 61) #[] #[.pointer (some ⟨w.heap.size, 0, none⟩), .pointer (some ⟨z1, 0, none⟩), .pointer (some ⟨z2, 0, none⟩), .pointer (some ⟨z3, 0, none⟩)]), .slice (some ⟨bp, 0, none⟩) 1 2] w8 fun e w' => e = .returned (.int .i64 0) ∧ ∃ F', PagS w' v.p h cf ((n.load cf qa).save cf qa).ord ((n.load cf qa).save cf qa) (upn txt qa (putL (putL (txt qa) (i % v.each * v.size) A') (j % v.each * v.size) B')) F' ∧ Ev F F' w8 w') := by
        have hla : (putL (txt qa) (i % v.each * v.size) A').length = cf.text := (by rw [putL_length (by have := N.out; have := HA.out.1; rw [HTL.out.1.1]; omega)]; exact HTL.out.1.1)
        refine change_one g { v with log := lg } h cf n txt F qa bp 2 61 _ (putL (putL (txt qa) (i % v.each * v.size) A') (j % v.each * v.size) B') w8 W8.out.1 W8.out.2.1.blk (fun hF => Y6.out.2.2.2.2 g (.inl rfl) hF) c0 W8.out.2.2.2 N.out.2.2.2.2.2.2.2.2.1 HB.out.1 (by have := HB.out; omega) (by have := HB.out; omega) enter_pair1 (by rw [putL_length (by rw [hla]; have := N.out; have := HA.out.2.2.1; omega)]; exact hla) (putL_bytes (putL_bytes HTL.out.1.2 HA.out.2.1) HA.out.2.2.2) ?_
        intro wq F1 ub uc T tc rest ev hubF hr ct huc hub hT hTu
        have hz := Z6.out
        have h8 := W8.out.2.2.1
        have hev := ev.kept.size
        have h68 : w6.heap.size ≤ w8.heap.size := h8.1.size
        have gg : P1 wq 1 g { v with log := lg } i j w.heap.size z1 z2 z3 ub ub T cf.text uc uc (.func (.func B) #[] caps) (txt qa) (txt qa) rest rest := by
          refine ⟨kept_cell ev.kept _ _ (by omega) (nF _ (by omega)) ((h8.1.cell (p := ⟨w.heap.size, 0, none⟩) hz.1).trans hz.2.2.2.2.1), kept_cell ev.kept _ _ (by omega) (nF _ (by omega)) ((h8.1.cell (p := ⟨z1, 0, none⟩) hz.2.1).trans hz.2.2.2.2.2.1), kept_cell ev.kept _ _ (by omega) (nF _ (by omega)) ((h8.1.cell (p := ⟨z2, 0, none⟩) hz.2.2.1).trans hz.2.2.2.2.2.2.1), kept_cell ev.kept _ _ (by omega) (nF _ (by omega)) ((h8.1.cell (p := ⟨z3, 0, none⟩) hz.2.2.2.1).trans hz.2.2.2.2.2.2.2.1), ct, ct, W8.out.2.1.blk.kept ev.kept (fun hF => Y6.out.2.2.2.2 g (.inl rfl) hF), hr, hr, ⟨by omega, by omega, by omega, by omega, hT⟩⟩
        have KW : Kept (fun b => F b ∨ slF g v b) w wq := ⟨ev.kept.os.trans h8.2.os, ev.kept.tape.trans h8.2.tape, ev.kept.output.trans h8.2.output, Nat.le_trans h8.2.size ev.kept.size, fun k hk hs => (ev.kept.block k (Nat.lt_of_lt_of_le hk h8.2.size) (fun e => hs (.inl e))).trans (h8.2.block k hk hs)⟩
        have FF := HFK.out wq KW
        unfold recL at FF
        rw [HQ.out.1, HQ.out.2] at FF
        rw [← hab] at FF; show Calls Tryz.prog 61 #[.slice (some ⟨T, 0, none⟩) 1 tc, .pointer (some ⟨w.heap.size, 0, none⟩), .pointer (some ⟨z1, 0, none⟩), .pointer (some ⟨z2, 0, none⟩), .pointer (some ⟨z3, 0, none⟩)] wq _
        exact pair1_one g { v with log := lg } i j w.heap.size z1 z2 z3 ub ub T tc cf.text uc uc B caps (txt qa) (txt qa) A' B' rest rest wq gg N.out.1 N.out.2.2.2.2.1 N.out.2.2.2.2.2.1 N.out.2.2.2.2.2.2.1 huc huc N.out.2.2.1 N.out.2.2.2.1 N.out.2.1 HTL.out.1.1 HTL.out.1.1 HTL.out.1.2 HTL.out.1.2 HE.out HA.out FF ⟨rfl, rfl, rfl⟩
      have h68 : w6.heap.size ≤ w8.heap.size := W8.out.2.2.1.1.size
      have e1 : w8.cell? ⟨w.heap.size, 0, none⟩ = some (.pointer (some ⟨g, 0, none⟩)) := (W8.out.2.2.1.1.cell (p := ⟨w.heap.size, 0, none⟩) Z6.out.1).trans Z6.out.2.2.2.2.1
      go_wp2_with (go_at_call 56; refine CO.out.mono ?_; rintro e w9 ⟨rfl, F9, x9, e9⟩)
      have E9 : Hid (PagS w9 v.p h cf (n.pair cf qa qb).ord (n.pair cf qa qb) (setT (setT txt v i A') v j B') F9 ∧ SlS w9 g { v with log := lg } (l ++ [⟨2, i, j⟩]) ∧ (∀ b, slF g { v with log := lg } b → ¬ F9 b) ∧ Kept (fun b => F b ∨ slF g v b) w w9 ∧ (∀ b, F9 b ∨ slF g { v with log := lg } b → F b ∨ slF g v b ∨ w.heap.size ≤ b)) := by
        have h8 := W8.out.2.2.1
        refine ⟨?_, W8.out.2.1.off e9.kept (fun b hb hs => Y6.out.2.2.2.2 b hs hb), fun b hs hF => ?_, ?_, fun b hb => ?_⟩
        · rw [setT_two txt v i j A' B' qa qb HQ.out.1 HQ.out.2, Nm.pair]
          rw [if_pos hab, if_pos hab]
          exact x9
        · rcases e9.new b hF with e | e
          · exact Y6.out.2.2.2.2 b hs e
          · have := W8.out.2.1.all b hs; omega
        · exact ⟨e9.kept.os.trans h8.2.os, e9.kept.tape.trans h8.2.tape, e9.kept.output.trans h8.2.output, Nat.le_trans h8.2.size e9.kept.size, fun k hk hs => (e9.kept.block k (Nat.lt_of_lt_of_le hk h8.2.size) (fun e => hs (.inl e))).trans (h8.2.block k hk hs)⟩
        · rcases hb with hb | hb
          · rcases e9.new b hb with e | e
            · exact .inl e
            · exact .inr (.inr (Nat.le_trans h8.2.size e))
          · rcases hb with e | e
            · exact .inr (.inl (.inl e))
            · rcases Y6.out.2.2.2.1 b e with e | e
              · exact .inr (.inl (.inr e))
              · exact .inr (.inr e)
      clear x9 e9
      go_wp2
      go_ret
      exact ⟨rfl, F9, lg, E9.out⟩
    · have CO : Hid (Calls Tryz.prog 56 #[.pointer (some ⟨g, 0, none⟩), (.func (.func 61) #[] #[.pointer (some ⟨w.heap.size, 0, none⟩), .pointer (some ⟨z1, 0, none⟩), .pointer (some ⟨z2, 0, none⟩), .pointer (some ⟨z3, 0, none⟩)]), .slice (some ⟨bp, 0, none⟩) 2 2] w8 fun e w' => e = .returned (.int .i64 0) ∧ ∃ F', PagS w' v.p h cf ((((n.load cf qa).load cf qb).save cf qa).save cf qb).ord ((((n.load cf qa).load cf qb).save cf qa).save cf qb) (upn (upn txt qa (putL (txt qa) (i % v.each * v.size) A')) qb (putL (txt qb) (j % v.each * v.size) B')) F' ∧ Ev F F' w8 w') := by
        refine change_two g { v with log := lg } h cf n txt F qa qb bp 2 61 _ (putL (txt qa) (i % v.each * v.size) A') (putL (txt qb) (j % v.each * v.size) B') w8 W8.out.1 W8.out.2.1.blk (fun hF => Y6.out.2.2.2.2 g (.inl rfl) hF) c0 c1 W8.out.2.2.2 N.out.2.2.2.2.2.2.2.2.1 N.out.2.2.2.2.2.2.2.2.2 HB.out.1 (by have := HB.out; omega) (by have := HB.out; omega) enter_pair1 ⟨(by rw [putL_length (by have := N.out; have := HA.out.1; rw [HTL.out.1.1]; omega)]; exact HTL.out.1.1), putL_bytes HTL.out.1.2 HA.out.2.1, by rw [putL_length (by have := N.out; have := HA.out.2.2.1; rw [HTL.out.2.1]; omega)]; exact HTL.out.2.1, putL_bytes HTL.out.2.2 HA.out.2.2.2⟩ ?_
        intro wq F1 ua ca ub cb T tc ra rb ev hubF hr hr2 ct ct2 hca hcb hua hub hT hTa hTb
        have hz := Z6.out
        have h8 := W8.out.2.2.1
        have hev := ev.kept.size
        have h68 : w6.heap.size ≤ w8.heap.size := h8.1.size
        have gg : P1 wq 2 g { v with log := lg } i j w.heap.size z1 z2 z3 ua ub T cf.text ca cb (.func (.func B) #[] caps) (txt qa) (txt qb) ra rb := by
          refine ⟨kept_cell ev.kept _ _ (by omega) (nF _ (by omega)) ((h8.1.cell (p := ⟨w.heap.size, 0, none⟩) hz.1).trans hz.2.2.2.2.1), kept_cell ev.kept _ _ (by omega) (nF _ (by omega)) ((h8.1.cell (p := ⟨z1, 0, none⟩) hz.2.1).trans hz.2.2.2.2.2.1), kept_cell ev.kept _ _ (by omega) (nF _ (by omega)) ((h8.1.cell (p := ⟨z2, 0, none⟩) hz.2.2.1).trans hz.2.2.2.2.2.2.1), kept_cell ev.kept _ _ (by omega) (nF _ (by omega)) ((h8.1.cell (p := ⟨z3, 0, none⟩) hz.2.2.2.1).trans hz.2.2.2.2.2.2.2.1), ct, ct2, W8.out.2.1.blk.kept ev.kept (fun hF => Y6.out.2.2.2.2 g (.inl rfl) hF), hr, hr2, ⟨by omega, by omega, by omega, by omega, hT⟩⟩
        have KW : Kept (fun b => F b ∨ slF g v b) w wq := ⟨ev.kept.os.trans h8.2.os, ev.kept.tape.trans h8.2.tape, ev.kept.output.trans h8.2.output, Nat.le_trans h8.2.size ev.kept.size, fun k hk hs => (ev.kept.block k (Nat.lt_of_lt_of_le hk h8.2.size) (fun e => hs (.inl e))).trans (h8.2.block k hk hs)⟩
        have FF := HFK.out wq KW
        unfold recL at FF
        rw [HQ.out.1, HQ.out.2] at FF
        show Calls Tryz.prog 61 #[.slice (some ⟨T, 0, none⟩) 2 tc, .pointer (some ⟨w.heap.size, 0, none⟩), .pointer (some ⟨z1, 0, none⟩), .pointer (some ⟨z2, 0, none⟩), .pointer (some ⟨z3, 0, none⟩)] wq _
        exact pair1_two g { v with log := lg } i j w.heap.size z1 z2 z3 ua ub T tc cf.text ca cb B caps (txt qa) (txt qb) A' B' ra rb wq gg N.out.1 N.out.2.2.2.2.1 N.out.2.2.2.2.2.1 N.out.2.2.2.2.2.2.1 hca hcb N.out.2.2.1 N.out.2.2.2.1 N.out.2.1 HTL.out.1.1 HTL.out.2.1 HTL.out.1.2 HTL.out.2.2 HE.out HA.out FF hubF.2.2
      have h68 : w6.heap.size ≤ w8.heap.size := W8.out.2.2.1.1.size
      have e1 : w8.cell? ⟨w.heap.size, 0, none⟩ = some (.pointer (some ⟨g, 0, none⟩)) := (W8.out.2.2.1.1.cell (p := ⟨w.heap.size, 0, none⟩) Z6.out.1).trans Z6.out.2.2.2.2.1
      go_wp2_with (go_at_call 56; refine CO.out.mono ?_; rintro e w9 ⟨rfl, F9, x9, e9⟩)
      have E9 : Hid (PagS w9 v.p h cf (n.pair cf qa qb).ord (n.pair cf qa qb) (setT (setT txt v i A') v j B') F9 ∧ SlS w9 g { v with log := lg } (l ++ [⟨2, i, j⟩]) ∧ (∀ b, slF g { v with log := lg } b → ¬ F9 b) ∧ Kept (fun b => F b ∨ slF g v b) w w9 ∧ (∀ b, F9 b ∨ slF g { v with log := lg } b → F b ∨ slF g v b ∨ w.heap.size ≤ b)) := by
        have h8 := W8.out.2.2.1
        refine ⟨?_, W8.out.2.1.off e9.kept (fun b hb hs => Y6.out.2.2.2.2 b hs hb), fun b hs hF => ?_, ?_, fun b hb => ?_⟩
        · rw [setT_two txt v i j A' B' qa qb HQ.out.1 HQ.out.2, Nm.pair]
          rw [if_neg hab, if_neg hab]
          exact x9
        · rcases e9.new b hF with e | e
          · exact Y6.out.2.2.2.2 b hs e
          · have := W8.out.2.1.all b hs; omega
        · exact ⟨e9.kept.os.trans h8.2.os, e9.kept.tape.trans h8.2.tape, e9.kept.output.trans h8.2.output, Nat.le_trans h8.2.size e9.kept.size, fun k hk hs => (e9.kept.block k (Nat.lt_of_lt_of_le hk h8.2.size) (fun e => hs (.inl e))).trans (h8.2.block k hk hs)⟩
        · rcases hb with hb | hb
          · rcases e9.new b hb with e | e
            · exact .inl e
            · exact .inr (.inr (Nat.le_trans h8.2.size e))
          · rcases hb with e | e
            · exact .inr (.inl (.inl e))
            · rcases Y6.out.2.2.2.1 b e with e | e
              · exact .inr (.inl (.inr e))
              · exact .inr (.inr e)
      clear x9 e9
      go_wp2
      go_ret
      exact ⟨rfl, F9, lg, E9.out⟩
end Go.Proofs.YtfhieacclifihaaGreat
namespace Go.Proofs.YtfhieacclifihaaGreat
open Go.RowKit
set_option linter.unusedVariables false
set_option linter.unusedSimpArgs false

def itX (A : List Int) : Nat → List Int
  | 0 => A
  | k + 1 => (itX A k).set k (bits .xor .u8 ((itX A k).getD k 0) 1)
theorem itX_length (A : List Int) : ∀ k, (itX A k).length = A.length
  | 0 => rfl
  | k + 1 => by rw [itX, List.length_set, itX_length A k]
theorem bytes_setL {zs : List Int} (h : Bytes zs) (k : Nat) {z : Int} (hz : 0 ≤ z ∧ z < 256) : Bytes (zs.set k z) := fun y hy => by
  rcases List.mem_or_eq_of_mem_set hy with e | e
  · exact h y e
  · rw [e]; exact hz
theorem bytes_getL {zs : List Int} (h : Bytes zs) (k : Nat) : 0 ≤ zs.getD k 0 ∧ zs.getD k 0 < 256 := by
  by_cases hk : k < zs.length
  · have e : zs.getD k 0 = zs[k] := by simp [List.getD, hk]
    rw [e]; exact h _ (List.getElem_mem hk)
  · have e : zs.getD k 0 = 0 := by simp [List.getD, List.getElem?_eq_none (by omega : zs.length ≤ k)]
    rw [e]; decide
theorem itX_bytes {A : List Int} (h : Bytes A) : ∀ k, Bytes (itX A k)
  | 0 => h
  | k + 1 => bytes_setL (itX_bytes h k) k (xor8 _ _ (bytes_getL (itX_bytes h k) k) (by decide))
def itB (B b : List Int) : Nat → List Int
  | 0 => B
  | k + 1 => (itB B b k).set k (b.getD k 0)
theorem itB_length (B b : List Int) : ∀ k, (itB B b k).length = B.length
  | 0 => rfl
  | k + 1 => by rw [itB, List.length_set, itB_length B b k]
theorem itB_bytes {B b : List Int} (h : Bytes B) (hb : Bytes b) : ∀ k, Bytes (itB B b k)
  | 0 => h
  | k + 1 => bytes_setL (itB_bytes h hb k) k (bytes_getL hb k)
theorem enter_blind1 : ∀ args w, (callFunc 30 args).run Tryz.prog w = .ok (.enter 30 args) w := fun args w => by kernel_rfl
theorem enter_blind2 : ∀ args w, (callFunc 31 args).run Tryz.prog w = .ok (.enter 31 args) w := fun args w => by kernel_rfl
set_option maxRecDepth 20000 in
set_option maxHeartbeats 1000000 in
theorem blind1_any (w : World) (s : Nat) (A B : List Int) (hA : A.length = s) (hs : s ≤ 4096) : FPair w 30 #[] s A B (itX A s) B := by
  intro W ga gb hb h1 h2 hne ba bb
  have H : Hid (A.length = s ∧ Blk W gb 5 (u8s B) ∧ ga ≠ gb) := ⟨hA, bb, hne⟩
  have B0 : Hid (Blk W ga 5 (u8s A)) := ba
  show Calls Tryz.prog 30 #[.slice (some ⟨ga, 0, none⟩) s s, .slice (some ⟨gb, 0, none⟩) s s] W _
  clear ba bb hne hA hb h1 h2
  go_enter Tryz.func30, Tryz.ntmps30
  go_wp2
  go_loopw [4] (fun i wr => ∃ k : Nat, k ≤ s ∧ i = .int .i64 k ∧ Blk wr ga 5 (u8s (itX A k)) ∧ Kept (fun b => b = ga) W wr) (fun i _ => s - (intOf i).toNat)
  case atStart => exact ⟨0, Nat.zero_le _, rfl, B0.out, Kept.refl _ _⟩
  case round =>
    obtain ⟨k, hk, rfl, hbk, hkk⟩ := hrel
    by_cases hlt : k < s
    · have cR := u8s_cell hbk k (by rw [itX_length, H.out.1]; exact hlt)
      have fR := hbk.frozen k
      obtain ⟨y, hy⟩ : ∃ y, (itX A k).getD k 0 = y := ⟨_, rfl⟩
      have HY : Hid ((itX A k).getD k 0 = y) := hy
      rw [hy] at cR
      have j1 : (0 : Int) ≤ (k : Int) := by omega
      have j2 : (k : Int) < (s : Int) := by omega
      have Y1 : Hid (Blk wr ga 5 (u8s (itX A k)) ∧ Kept (fun b => b = ga) W wr) := ⟨hbk, hkk⟩
      clear hbk hkk hy
      go_wp2
      refine ⟨⟨k + 1, by omega, by go_num, by have := Y1.out.1.set k (.int .u8 (bits .xor .u8 y 1)); rw [u8s_set] at this; rw [itX, HY.out]; exact this, Y1.out.2.setCell rfl _⟩, by simp [intOf]; omega⟩
    · obtain rfl : k = s := by omega
      have Y1 : Hid (Blk wr ga 5 (u8s (itX A k)) ∧ Kept (fun b => b = ga) W wr) := ⟨hbk, hkk⟩
      clear hbk hkk
      go_wp2
      go_end0
      exact ⟨⟨_, rfl⟩, Y1.out.1, H.out.2.1.kept Y1.out.2 (fun e => H.out.2.2 e.symm), Y1.out.2.mono (fun b e => .inl e)⟩
set_option maxRecDepth 20000 in
set_option maxHeartbeats 1000000 in
theorem blind2_any (w : World) (s bx m c : Nat) (bo : Option Addr) (A B b : List Int) (hB : B.length = s) (hs : s ≤ 4096) (hbx : bx < w.heap.size) (hc : w.cell? ⟨bx, 0, none⟩ = some (.slice bo m c)) (hsn : Seen w bo m b) : FPair w 31 #[.pointer (some ⟨bx, 0, none⟩)] s A B A (itB B b (min s m)) := by
  intro W ga gb hb h1 h2 hne ba bb
  have H : Hid (B.length = s ∧ Blk W ga 5 (u8s A) ∧ ga ≠ gb ∧ bx < W.heap.size ∧ w.heap.size ≤ gb ∧ bx < w.heap.size) := ⟨hB, ba, hne, Nat.lt_of_lt_of_le hbx hb.size, h2, hbx⟩
  have B0 : Hid (Blk W gb 5 (u8s B)) := bb
  have S0 : Hid (Seen w bo m b ∧ Below w.heap.size w W ∧ w.cell? ⟨bx, 0, none⟩ = some (.slice bo m c)) := ⟨hsn, hb, hc⟩
  show Calls Tryz.prog 31 #[.slice (some ⟨ga, 0, none⟩) s s, .slice (some ⟨gb, 0, none⟩) s s, .pointer (some ⟨bx, 0, none⟩)] W _
  clear ba bb hne hB hb h1 h2 hbx hc hsn
  go_enter Tryz.func31, Tryz.ntmps31
  go_wp2
  go_loopw [5] (fun i wr => ∃ k : Nat, k ≤ min s m ∧ i = .int .i64 k ∧ Blk wr gb 5 (u8s (itB B b k)) ∧ Kept (fun b => b = gb) W wr ∧ Below w.heap.size w wr) (fun i _ => s - (intOf i).toNat)
  case atStart => exact ⟨0, Nat.zero_le _, rfl, B0.out, Kept.refl _ _, S0.out.2.1⟩
  case round =>
    obtain ⟨k, hk, rfl, hbk, hkk, hbw⟩ := hrel
    have cX : wr.cell? ⟨bx, 0, none⟩ = some (.slice bo m c) := (hbw.cell (p := ⟨bx, 0, none⟩) H.out.2.2.2.2.2).trans S0.out.2.2
    have Y1 : Hid (Blk wr gb 5 (u8s (itB B b k)) ∧ Kept (fun b => b = gb) W wr ∧ Below w.heap.size w wr) := ⟨hbk, hkk, hbw⟩
    by_cases hlt : k < s
    · by_cases hlm : k < m
      · obtain ⟨cb, co, he, hcl, hcA⟩ := (S0.out.1.later hbw (Nat.le_refl _)).cells (by omega)
        have hcc := hcA k hlm
        subst he
        have fR := hbk.frozen k
        have gR := hbk.there (o := 0) (n := s) (by simp [u8s, itB_length, H.out.1])
        have cR := u8s_cell hbk k (by rw [itB_length, H.out.1]; exact hlt)
        obtain ⟨y, hy⟩ : ∃ y, b.getD k 0 = y := ⟨_, rfl⟩
        have HY : Hid (b.getD k 0 = y) := hy
        rw [hy] at hcc
        have j1 : (0 : Int) ≤ (k : Int) := by omega
        have j2 : (k : Int) < (s : Int) := by omega
        have j3 : (k : Int) < (m : Int) := by omega
        clear hbk hkk hy hbw gR hcA hcl
        go_wp2
        refine ⟨⟨k + 1, by omega, by go_num, by have := Y1.out.1.set k (.int .u8 y); rw [u8s_set] at this; rw [itB, HY.out]; exact this, Y1.out.2.1.setCell rfl _, ?_⟩, by simp [intOf]; omega⟩
        have hkS := Y1.out.2.1.setCell (p := ⟨gb, k, none⟩) rfl (.int .u8 y)
        exact below_chain S0.out.2.1 (hkS.below (B := w.heap.size) S0.out.2.1.size (fun b e => by have := H.out.2.2.2.2.1; omega)) (Nat.le_refl _)
      · obtain rfl : k = m := by omega
        have j2 : (k : Int) < (s : Int) := by omega
        have hm : min s k = k := by omega
        clear hbk hkk hbw
        go_wp2
        go_end0
        rw [hm]
        exact ⟨⟨_, rfl⟩, H.out.2.1.kept Y1.out.2.1 (fun e => H.out.2.2.1 e), Y1.out.1, Y1.out.2.1.mono (fun b e => .inr e)⟩
    · obtain rfl : k = s := by omega
      have hm : min k m = k := by omega
      clear hbk hkk hbw
      go_wp2
      go_end0
      rw [hm]
      exact ⟨⟨_, rfl⟩, H.out.2.1.kept Y1.out.2.1 (fun e => H.out.2.2.1 e), Y1.out.1, Y1.out.2.1.mono (fun b e => .inr e)⟩
end Go.Proofs.YtfhieacclifihaaGreat
namespace Go.Proofs.YtfhieacclifihaaGreat
open Go.RowKit
set_option linter.unusedVariables false
set_option linter.unusedSimpArgs false

theorem wpList_mk {ops : Array Oper} {rest : List Oper} {o : Oper} {a : Act} {Q : Exit → Act → World → Prop} {w : World} (hgd : o.guard = none) (t : TypeId) (x y : Operand) (ho : o.op = .makeSlice t x y) (vx vy : Value) (hx : a.eval x = vx) (hy : a.eval y = vy) (v : Value) (w' : World) (hr : (Instr.makeSlice t vx vy).run Tryz.prog w = .ok v w') (h : wpList Tryz.prog ops Q rest (a.put o.dst v) w') : wpList Tryz.prog ops Q (o :: rest) a w := by
  refine wpList_plain hgd fun K hK => ?_
  unfold Oper.wp execOp
  simp only [ho, hx, hy, Sem.run_bind, hr, Sem.run_pure, Result.andThen_ok]
  exact hK _ _ h
def szL (zs : List Int) (m n : Nat) : List Int := itB (List.replicate m 0) zs (min m n)
theorem szL_length (zs : List Int) (m n : Nat) : (szL zs m n).length = m := by rw [szL, itB_length, List.length_replicate]
theorem szL_bytes {zs : List Int} (h : Bytes zs) (m n : Nat) : Bytes (szL zs m n) := itB_bytes (fun z hz => by rw [List.eq_of_mem_replicate hz]; decide) h _
set_option maxRecDepth 20000 in
set_option maxHeartbeats 1000000 in
theorem sized_any (so : Option Addr) (n c m : Nat) (zs : List Int) (w : World) (hs : Seen w so n zs) (hm : m ≤ 4096) :
    Calls Tryz.prog 23 #[.slice so n c, .int .i64 (m : Int)] w fun e w' => e = .returned (.slice (some ⟨w.heap.size, 0, none⟩) m m) ∧ Blk w' w.heap.size 5 (u8s (szL zs m n)) ∧ Below w.heap.size w w' := by
  have S0 : Hid (Seen w so n zs) := hs
  have MB := mk_bytes m (by omega) w
  obtain ⟨w1, hw1⟩ : ∃ w1, w.alloc (.cells (madeCells #[.int .u8 0] m) 5) = w1 := ⟨_, rfl⟩
  have b1 : Blk w1 w.heap.size 5 (u8s (List.replicate m 0)) := by rw [← hw1]; have := made_blk w (.int .u8 0) m 5; simpa [u8s] using this
  have l1 : Below w.heap.size w w1 := by rw [← hw1]; exact (Below.refl _ _).alloc (Nat.le_refl _) _
  rw [hw1] at MB
  have B1 : Hid (Blk w1 w.heap.size 5 (u8s (List.replicate m 0)) ∧ Below w.heap.size w w1) := ⟨b1, l1⟩
  clear hs b1 l1 hw1
  go_enter Tryz.func23, Tryz.ntmps23
  go_wp2_with (refine wpList_mk rfl 66 _ _ rfl _ _ rfl rfl _ _ MB ?_)
  go_loopw [6] (fun i wr => ∃ k : Nat, k ≤ min m n ∧ i = .int .i64 k ∧ Blk wr w.heap.size 5 (u8s (itB (List.replicate m 0) zs k)) ∧ Below w.heap.size w wr) (fun i _ => m - (intOf i).toNat)
  case atStart => exact ⟨0, Nat.zero_le _, rfl, B1.out⟩
  case round =>
    obtain ⟨k, hk, rfl, hbk, hbw⟩ := hrel
    have Y1 : Hid (Blk wr w.heap.size 5 (u8s (itB (List.replicate m 0) zs k)) ∧ Below w.heap.size w wr) := ⟨hbk, hbw⟩
    by_cases hlt : k < m
    · by_cases hlm : k < n
      · obtain ⟨cb, co, he, hcl, hcA⟩ := (S0.out.later hbw (Nat.le_refl _)).cells (by omega)
        have hcc := hcA k hlm
        subst he
        have fR := hbk.frozen k
        have cR := u8s_cell hbk k (by rw [itB_length, List.length_replicate]; exact hlt)
        obtain ⟨y, hy⟩ : ∃ y, zs.getD k 0 = y := ⟨_, rfl⟩
        have HY : Hid (zs.getD k 0 = y) := hy
        rw [hy] at hcc
        have j1 : (0 : Int) ≤ (k : Int) := by omega
        have j2 : (k : Int) < (m : Int) := by omega
        have j3 : (k : Int) < (n : Int) := by omega
        clear hbk hbw hy hcA hcl
        go_wp2
        refine ⟨⟨k + 1, by omega, by go_num, by have := Y1.out.1.set k (.int .u8 y); rw [u8s_set] at this; rw [itB, HY.out]; exact this, ?_⟩, by simp [intOf]; omega⟩
        have hkS := (Kept.refl (fun b => b = w.heap.size) wr).setCell (p := ⟨w.heap.size, k, none⟩) rfl (.int .u8 y)
        exact below_chain Y1.out.2 (hkS.below (B := w.heap.size) Y1.out.2.size (fun b e => by omega)) (Nat.le_refl _)
      · obtain rfl : k = n := by omega
        have j2 : (k : Int) < (m : Int) := by omega
        have hmm : min m k = k := by omega
        clear hbk hbw
        go_wp2
        go_ret
        rw [szL, hmm]
        exact ⟨rfl, Y1.out⟩
    · obtain rfl : k = m := by omega
      have hmm : min k n = k := by omega
      clear hbk hbw
      go_wp2
      go_ret
      rw [szL, hmm]
      exact ⟨rfl, Y1.out⟩
end Go.Proofs.YtfhieacclifihaaGreat
namespace Go.Proofs.YtfhieacclifihaaGreat
open Go.RowKit
set_option linter.unusedVariables false
set_option linter.unusedSimpArgs false
/-- An operation that yields its value in every world that meets the condition is taken first. -/
theorem hTake {md : Region.Mode} {ops : Array Oper} {Q : Exit → Act → World → Prop} {S : World → Prop} {oi : Oper} {fuel : Nat} {listed : Array Bool} {a : Act} {w : World} (i : Nat) (d : Option Tmp) (v : Value) (hi : ops[i]? = some oi) (hd : oi.dst = d)
    (hs : Region.noSelect ops = true) (hf : Region.free md ops listed i = true) (hr : (Region.ready md ops listed).contains i = true) (hQ : ∀ c a w, Q (.panic c) (a.put d v) w → Q (.panic c) a w)
    (hw : Region.wanted oi (yielded ops a.tmps) = true) (hy : ∀ w, S w → (execOp a.eval oi).run Tryz.prog w = .ok (.value v) w) (hS : S w)
    (h : wpAnyH Tryz.prog md ops Q S fuel (listed.setIfInBounds i true) (a.put d v) w) : wpAnyH Tryz.prog md ops Q S (fuel + 1) listed a w := by
  subst hd
  exact wpAnyH_take hi hs hf hr hQ (Or.inl ⟨hw, hy⟩) hS h
/-- Many cells that the condition names are read first. -/
theorem hLoad {md : Region.Mode} {ops : Array Oper} {Q : Exit → Act → World → Prop} {S : World → Prop} {oi : Oper} {fuel : Nat} {listed : Array Bool} {a : Act} {w : World} (i : Nat) (d : Option Tmp) (cs : List Value) (hi : ops[i]? = some oi) (hd : oi.dst = d)
    (hs : Region.noSelect ops = true) (hf : Region.free md ops listed i = true) (hr : (Region.ready md ops listed).contains i = true) (hQ : ∀ c a w, Q (.panic c) (a.put d (.agg cs.toArray)) w → Q (.panic c) a w)
    (hw : Region.wanted oi (yielded ops a.tmps) = true) (ty : TypeId) (x : Operand) (ho : oi.op = .load ty x) (b off : Nat) (hx : a.eval x = .pointer (some ⟨b, off, none⟩)) (ds : TypeDesc) (hc : ∀ w, S w → w.rangeAt b off cs)
    (hu : Tryz.prog.underlying ty = some ds) (hdr : ds.isRow = true) (hz : (Tryz.prog.info? ty).map (·.size) = some cs.length) (hS : S w)
    (h : wpAnyH Tryz.prog md ops Q S fuel (listed.setIfInBounds i true) (a.put d (.agg cs.toArray)) w) : wpAnyH Tryz.prog md ops Q S (fuel + 1) listed a w := by
  subst hd
  exact wpAnyH_take hi hs hf hr hQ (yieldsIf_load_mid hw ty x ho b off hx cs ds hc hu hdr hz) hS h
end Go.Proofs.YtfhieacclifihaaGreat
namespace Go.Proofs.YtfhieacclifihaaGreat
open Go.RowKit
set_option linter.unusedVariables false
set_option linter.unusedSimpArgs false

theorem infoByte2 : (Tryz.prog.info? 5).map (·.size) = some 1 := by kernel_rfl
/-- An array of bytes is itself. -/
theorem equalA (t : TypeId) (n : Nat) (ht : Tryz.prog.underlying t = some (.array n 5)) (d : Nat) (zs : List Int) (hl : zs.length = n) (w : World) : (Op.equalIn (d + 2) t (.agg (u8s zs).toArray) (.agg (u8s zs).toArray)).run Tryz.prog w = .ok true w := by
  have hsz : ∀ w, (sizeOf 5).run Tryz.prog w = .ok 1 w := fun w => by
    have h := infoByte2
    cases hq : Tryz.prog.info? 5 with
    | none => simp [hq] at h
    | some i => simp [hq] at h; simp [sizeOf, typeInfo, hq, h]
  have he := Tryz.underlying5
  rw [Op.equalIn]
  simp only [Sem.run_bind, run_underlying ht, Result.andThen_ok, hsz, Std.Legacy.Range.forIn_eq_forIn_range', Std.Legacy.Range.size, Nat.sub_zero, Nat.add_sub_cancel, Nat.div_one]
  have hlr : ∀ i ∈ List.range' 0 n 1, i < n := fun i hi => by simpa using (List.mem_range'_1.1 hi).2
  generalize List.range' 0 n 1 = l at hlr ⊢
  induction l with
  | nil => simp
  | cons i l ih =>
    have hi : i < n := hlr i (by simp)
    have px : (Go.part 5 (u8s zs).toArray (i * 1)).run Tryz.prog w = .ok (.int .u8 (zs.getD i 0)) w := by
      simp [Go.part, isAgg, run_underlying he, u8s, List.getD, List.getElem?_eq_getElem (show i < zs.length by omega)]
    have pe : (Op.equalIn (d + 1) 5 (.int .u8 (zs.getD i 0)) (.int .u8 (zs.getD i 0))).run Tryz.prog w = .ok true w := by
      rw [run_equalIn_int w d 5 .u8 .u8 _ _ he]; simp
    simp only [List.forIn_cons, Sem.run_bind, px, pe, Result.andThen_ok]
    simp only [Bool.not_true, Bool.false_eq_true, if_false, Sem.run_pure, Result.andThen_ok]
    exact ih fun j hj => hlr j (by simp [hj])
theorem neq_tc (t : Tc) (ht : t.Good) (w : World) : (binOp .neq 126 (.agg (tcC t).toArray) (.agg (tcC t).toArray)).run Tryz.prog w = .ok (.bool false) w := by
  have hf : Tryz.prog.underlying 126 = some (.struct (Tryz.prog.fieldsOf 126)) := by kernel_rfl
  have hp : Tryz.prog.stoodInHeld 126 = false := by kernel_rfl
  have hl : (Tryz.prog.fieldsOf 126).toList = [{ name := "Op", type := 3, offset := 0, embedded := false, tag := "", pkgPath := "", byteOffset := 0 }, { name := "Page", type := 3, offset := 1, embedded := false, tag := "", pkgPath := "", byteOffset := 8 }, { name := "Length", type := 3, offset := 2, embedded := false, tag := "", pkgPath := "", byteOffset := 16 }, { name := "Head", type := 124, offset := 3, embedded := false, tag := "", pkgPath := "", byteOffset := 24 }] := by kernel_rfl
  rw [run_neq_struct, run_equalIn_struct w 9999 126 _ _ hf hp, hl]
  have p0 : (Go.part 3 (tcC t).toArray 0).run Tryz.prog w = .ok (.int .i64 t.op) w := by simp [Go.part, isAgg, run_underlying Tryz.underlying3, tcC]
  have p1 : (Go.part 3 (tcC t).toArray 1).run Tryz.prog w = .ok (.int .i64 t.pg) w := by simp [Go.part, isAgg, run_underlying Tryz.underlying3, tcC]
  have p2 : (Go.part 3 (tcC t).toArray 2).run Tryz.prog w = .ok (.int .i64 t.ln) w := by simp [Go.part, isAgg, run_underlying Tryz.underlying3, tcC]
  have hsn : (sizeOf 124).run Tryz.prog w = .ok 12 w := by kernel_rfl
  have p3 : (Go.part 124 (tcC t).toArray 3).run Tryz.prog w = .ok (.agg (u8s t.hd).toArray) w := by
    have hl12 : (u8s t.hd).length = 12 := by rw [u8s_length]; exact ht
    simp [Go.part, isAgg, run_underlying Tryz.underlying124, hsn, tcC]
    exact hl12.symm ▸ (by simp)
  have q : ∀ z : Int, (Op.equalIn 9999 3 (.int .i64 z) (.int .i64 z)).run Tryz.prog w = .ok true w := fun z => by rw [run_equalIn_int w 9998 3 .i64 .i64 _ _ Tryz.underlying3]; simp
  have q3 : (Op.equalIn 9999 124 (.agg (u8s t.hd).toArray) (.agg (u8s t.hd).toArray)).run Tryz.prog w = .ok true w := equalA 124 12 Tryz.underlying124 9997 t.hd ht w
  simp [Op.eqFields, p0, p1, p2, p3, q, q3]
/-- Touches as data. -/
structure TcS (w : World) (v : Value) (l : List Tc) : Prop where
  good : ∀ t ∈ l, t.Good
  ex : ∃ a c, v = .slice a l.length c ∧ ∀ i, i < l.length → ∃ g o, a = some ⟨g, o, none⟩ ∧ g < w.heap.size ∧ w.rangeAt g (o + i * 15) (tcC (l.getD i default))
theorem tflat_at (l : List Tc) (hg : ∀ t ∈ l, t.Good) (i j : Nat) (hi : i < l.length) (hj : j < 15) : (l.flatMap tcC)[i * 15 + j]? = (tcC (l.getD i default))[j]? := by
  induction l generalizing i with
  | nil => cases hi
  | cons a r ih =>
    have ha := tcC_length (hg a (by simp))
    rw [List.flatMap_cons]
    cases i with
    | zero => rw [Nat.zero_mul, Nat.zero_add, List.getElem?_append_left (by omega)]; rfl
    | succ i =>
      rw [List.getElem?_append_right (by omega), ha, show (i + 1) * 15 + j - 15 = i * 15 + j by omega, ih (fun t ht => hg t (by simp [ht])) i (by simpa using hi)]
      simp
theorem tcs_own {w : World} {B : Nat} {v : Value} {l : List Tc} (h : w.ownsRow B 126 15 v l.length (l.flatMap tcC)) (hg : ∀ t ∈ l, t.Good) : TcS w v l := by
  refine ⟨hg, ?_⟩
  rcases h.2 with ⟨h2, h3⟩ | ⟨g, cap, cur, hv, _, hh, hc, _, hs, ht⟩
  · rw [h2, h3]
    exact ⟨none, 0, rfl, fun i hi => (by omega)⟩
  · rw [hv]
    refine ⟨_, cap, rfl, fun i hi => ⟨g, 0, rfl, lt_of_block hh, fun j u hj => ?_⟩⟩
    have hgi : (l.getD i default).Good := by
      have e : l.getD i default = l[i] := by simp [List.getD, hi]
      rw [e]; exact hg _ (List.getElem_mem hi)
    have hj15 : j < 15 := by have := (List.getElem?_eq_some_iff.1 hj).1; rw [tcC_length hgi] at this; exact this
    rw [Nat.zero_add, cell_of_row w g _ cur 126 (0, 0) hh, ← hj, ← tflat_at l hg i j hi hj15, ← ht, List.getElem?_take, if_pos (by omega)]
    simp
set_option maxRecDepth 20000 in
set_option maxHeartbeats 1000000 in
theorem sameTouches_yes (v u : Value) (l : List Tc) (w : World) (x : TcS w v l) (y : TcS w u l) (hl : l.length ≤ 3000000000000) : Calls Tryz.prog 33 #[v, u] w fun e w' => e = .returned (.bool true) ∧ ∃ q, w' = w.drewN q := by
  obtain ⟨a, c, rfl, hx⟩ := x.ex
  obtain ⟨b, d, rfl, hy⟩ := y.ex
  have X : Hid ((∀ t ∈ l, t.Good) ∧ (∀ i, i < l.length → ∃ g o, a = some ⟨g, o, none⟩ ∧ g < w.heap.size ∧ w.rangeAt g (o + i * 15) (tcC (l.getD i default))) ∧ (∀ i, i < l.length → ∃ g o, b = some ⟨g, o, none⟩ ∧ g < w.heap.size ∧ w.rangeAt g (o + i * 15) (tcC (l.getD i default)))) := ⟨x.good, hx, hy⟩
  clear x y hx hy
  obtain ⟨n, hn⟩ : ∃ n, l.length = n := ⟨_, rfl⟩
  rw [hn] at hl ⊢
  have HN : Hid (l.length = n) := hn
  clear hn
  have qn : ((n : Int) != (n : Int)) = false := by simp
  go_enter Tryz.func33, Tryz.ntmps33
  go_wp2
  go_loopw [5] (fun i wr => ∃ k : Nat, k ≤ n ∧ i = .int .i64 k ∧ ∃ q, wr = w.drewN q) (fun i _ => n - (intOf i).toNat)
  case atStart => exact ⟨0, Nat.zero_le _, rfl, 0, rfl⟩
  case round =>
    obtain ⟨k, hk, rfl, q, hwr⟩ := hrel
    by_cases hlt : k < n
    · obtain ⟨g, o, rfl, _, r1⟩ := X.out.2.1 k (by rw [HN.out]; exact hlt)
      obtain ⟨g', o', rfl, _, r2⟩ := X.out.2.2 k (by rw [HN.out]; exact hlt)
      obtain ⟨t, ht⟩ : ∃ t, l.getD k default = t := ⟨_, rfl⟩
      rw [ht] at r1 r2
      have hg : t.Good := by
        have e : l.getD k default = l[k]'(by rw [HN.out]; exact hlt) := by simp [List.getD, HN.out, hlt]
        rw [← ht, e]; exact X.out.1 _ (List.getElem_mem _)
      have HR : Hid (wr.rangeAt g (o + k * 15) (tcC t) ∧ wr.rangeAt g' (o' + k * 15) (tcC t) ∧ t.Good ∧ wr = w.drewN q) := by
        rw [hwr]; exact ⟨r1, r2, hg, rfl⟩
      have i1 : (0 : Int) ≤ (k : Int) := by omega
      have i2 : (k : Int) < (n : Int) := by omega
      have hne := neq_tc t hg
      have hgd : Tryz.prog.eqGuardType Tryz.prog.depth 126 = false := by kernel_rfl
      clear r1 r2 ht hg hwr
      go_wp2_with fail
      refine wp_region_noPanic (wp_region_held_drew (S := fun W => W.rangeAt g (o + k * 15) (tcC t) ∧ W.rangeAt g' (o' + k * 15) (tcC t)) (by kernel_rfl) ⟨HR.out.1, HR.out.2.1⟩ (fun hH => ?_))
      refine hTake 0 (some 17) (.slice (some ⟨g, o, none⟩) n c) rfl rfl (by kernel_rfl) (by kernel_rfl) (by kernel_rfl) (fun _ _ _ h => h) (by rfl) (fun W' hS' => by go_simp) hH ?_
      simp only [Act.put, List.setIfInBounds_toArray, List.set_cons_zero, List.set_cons_succ]
      refine hTake 1 (some 18) (.int .i64 k) rfl rfl (by kernel_rfl) (by kernel_rfl) (by kernel_rfl) (fun _ _ _ h => h) (by rfl) (fun W' hS' => by go_simp) hH ?_
      simp only [Act.put, List.setIfInBounds_toArray, List.set_cons_zero, List.set_cons_succ]
      refine hTake 2 (some 19) (.pointer (some ⟨g, o + k * 15, none⟩)) rfl rfl (by kernel_rfl) (by kernel_rfl) (by kernel_rfl) (fun _ _ _ h => h) (by rfl) (fun W' hS' => by go_simp) hH ?_
      simp only [Act.put, List.setIfInBounds_toArray, List.set_cons_zero, List.set_cons_succ]
      refine hLoad 3 (some 20) (tcC t) rfl rfl (by kernel_rfl) (by kernel_rfl) (by kernel_rfl) (fun _ _ _ h => h) (by rfl) 126 (.tmp 19) rfl g (o + k * 15) rfl _ (fun _ h => h.1) Tryz.underlying126 rfl (sizeTc HR.out.2.2.1) hH ?_
      simp only [Act.put, List.setIfInBounds_toArray, List.set_cons_zero, List.set_cons_succ]
      refine hTake 4 (some 21) (.slice (some ⟨g', o', none⟩) n d) rfl rfl (by kernel_rfl) (by kernel_rfl) (by kernel_rfl) (fun _ _ _ h => h) (by rfl) (fun W' hS' => by go_simp) hH ?_
      simp only [Act.put, List.setIfInBounds_toArray, List.set_cons_zero, List.set_cons_succ]
      refine hTake 5 (some 22) (.int .i64 k) rfl rfl (by kernel_rfl) (by kernel_rfl) (by kernel_rfl) (fun _ _ _ h => h) (by rfl) (fun W' hS' => by go_simp) hH ?_
      simp only [Act.put, List.setIfInBounds_toArray, List.set_cons_zero, List.set_cons_succ]
      refine hTake 6 (some 23) (.pointer (some ⟨g', o' + k * 15, none⟩)) rfl rfl (by kernel_rfl) (by kernel_rfl) (by kernel_rfl) (fun _ _ _ h => h) (by rfl) (fun W' hS' => by go_simp) hH ?_
      simp only [Act.put, List.setIfInBounds_toArray, List.set_cons_zero, List.set_cons_succ]
      refine hLoad 7 (some 24) (tcC t) rfl rfl (by kernel_rfl) (by kernel_rfl) (by kernel_rfl) (fun _ _ _ h => h) (by rfl) 126 (.tmp 23) rfl g' (o' + k * 15) rfl _ (fun _ h => h.2) Tryz.underlying126 rfl (sizeTc HR.out.2.2.1) hH ?_
      simp only [Act.put, List.setIfInBounds_toArray, List.set_cons_zero, List.set_cons_succ]
      refine hTake 8 (some 25) (.bool false) rfl rfl (by kernel_rfl) (by kernel_rfl) (by kernel_rfl) (fun _ _ _ h => h) (by rfl) (fun W' hS' => by simp [execOp, Act.eval, run_eqGuard_agg _ _ _ _ _ _ _ hgd, hne]) hH ?_
      simp only [Act.put, List.setIfInBounds_toArray, List.set_cons_zero, List.set_cons_succ]
      refine wpAnyH_done (by kernel_rfl) (NoPanic.normal ?_) _
      clear hH hne
      go_wp2_with fail
      go_roundw
      case rel => exact ⟨k + 1, by omega, by go_num, q + 1, by rw [HR.out.2.2.2]; rfl⟩
      case measure => simp [intOf] <;> omega
    · obtain rfl : k = n := by omega
      have HW : Hid (wr = w.drewN q) := hwr
      clear hwr
      go_wp2
      go_ret
      exact ⟨rfl, q, HW.out⟩
instance : Inhabited Ax := ⟨⟨0, 0, 0⟩⟩
/-- Accesses as data. -/
structure AxS (w : World) (v : Value) (l : List Ax) : Prop where
  ex : ∃ a c, v = .slice a l.length c ∧ ∀ i, i < l.length → ∃ g o, a = some ⟨g, o, none⟩ ∧ g < w.heap.size ∧ w.rangeAt g (o + i * 3) (axC (l.getD i default))
theorem aflat_at (l : List Ax) (i j : Nat) (hi : i < l.length) (hj : j < 3) : (l.flatMap axC)[i * 3 + j]? = (axC (l.getD i default))[j]? := by
  induction l generalizing i with
  | nil => cases hi
  | cons a r ih =>
    have ha : (axC a).length = 3 := rfl
    rw [List.flatMap_cons]
    cases i with
    | zero => rw [Nat.zero_mul, Nat.zero_add, List.getElem?_append_left (by omega)]; rfl
    | succ i =>
      rw [List.getElem?_append_right (by omega), ha, show (i + 1) * 3 + j - 3 = i * 3 + j by omega, ih i (by simpa using hi)]
      simp
theorem axs_own {w : World} {B : Nat} {v : Value} {l : List Ax} (h : w.ownsRow B 130 3 v l.length (l.flatMap axC)) : AxS w v l := by
  refine ⟨?_⟩
  rcases h.2 with ⟨h2, h3⟩ | ⟨g, cap, cur, hv, _, hh, hc, _, hs, ht⟩
  · rw [h2, h3]
    exact ⟨none, 0, rfl, fun i hi => (by omega)⟩
  · rw [hv]
    refine ⟨_, cap, rfl, fun i hi => ⟨g, 0, rfl, lt_of_block hh, fun j u hj => ?_⟩⟩
    have hj3 : j < 3 := (List.getElem?_eq_some_iff.1 hj).1
    rw [Nat.zero_add, cell_of_row w g _ cur 130 (0, 0) hh, ← hj, ← aflat_at l i j hi hj3, ← ht, List.getElem?_take, if_pos (by omega)]
    simp
theorem sizeAx (t : Ax) : (Tryz.prog.info? 130).map (·.size) = some (axC t).length := by kernel_rfl
theorem neq_ax (t : Ax) (w : World) : (binOp .neq 130 (.agg (axC t).toArray) (.agg (axC t).toArray)).run Tryz.prog w = .ok (.bool false) w := by
  have hf : Tryz.prog.underlying 130 = some (.struct (Tryz.prog.fieldsOf 130)) := by kernel_rfl
  have hp : Tryz.prog.stoodInHeld 130 = false := by kernel_rfl
  have hl : (Tryz.prog.fieldsOf 130).toList = [{ name := "Kind", type := 3, offset := 0, embedded := false, tag := "", pkgPath := "", byteOffset := 0 }, { name := "Slot", type := 3, offset := 1, embedded := false, tag := "", pkgPath := "", byteOffset := 8 }, { name := "Other", type := 3, offset := 2, embedded := false, tag := "", pkgPath := "", byteOffset := 16 }] := by kernel_rfl
  rw [run_neq_struct, run_equalIn_struct w 9999 130 _ _ hf hp, hl]
  have p0 : (Go.part 3 (axC t).toArray 0).run Tryz.prog w = .ok (.int .i64 t.k) w := by simp [Go.part, isAgg, run_underlying Tryz.underlying3, axC]
  have p1 : (Go.part 3 (axC t).toArray 1).run Tryz.prog w = .ok (.int .i64 t.i) w := by simp [Go.part, isAgg, run_underlying Tryz.underlying3, axC]
  have p2 : (Go.part 3 (axC t).toArray 2).run Tryz.prog w = .ok (.int .i64 t.j) w := by simp [Go.part, isAgg, run_underlying Tryz.underlying3, axC]
  have q : ∀ z : Int, (Op.equalIn 9999 3 (.int .i64 z) (.int .i64 z)).run Tryz.prog w = .ok true w := fun z => by rw [run_equalIn_int w 9998 3 .i64 .i64 _ _ Tryz.underlying3]; simp
  simp [Op.eqFields, p0, p1, p2, q]
set_option maxRecDepth 20000 in
set_option maxHeartbeats 1000000 in
theorem sameAxs_yes (v u : Value) (l : List Ax) (w : World) (x : AxS w v l) (y : AxS w u l) (hl : l.length ≤ 3000000000000) : Calls Tryz.prog 32 #[v, u] w fun e w' => e = .returned (.bool true) ∧ ∃ q, w' = w.drewN q := by
  obtain ⟨a, c, rfl, hx⟩ := x.ex
  obtain ⟨b, d, rfl, hy⟩ := y.ex
  have X : Hid ((∀ i, i < l.length → ∃ g o, a = some ⟨g, o, none⟩ ∧ g < w.heap.size ∧ w.rangeAt g (o + i * 3) (axC (l.getD i default))) ∧ (∀ i, i < l.length → ∃ g o, b = some ⟨g, o, none⟩ ∧ g < w.heap.size ∧ w.rangeAt g (o + i * 3) (axC (l.getD i default)))) := ⟨hx, hy⟩
  clear x y hx hy
  obtain ⟨n, hn⟩ : ∃ n, l.length = n := ⟨_, rfl⟩
  rw [hn] at hl ⊢
  have HN : Hid (l.length = n) := hn
  clear hn
  have qn : ((n : Int) != (n : Int)) = false := by simp
  go_enter Tryz.func32, Tryz.ntmps32
  go_wp2
  go_loopw [5] (fun i wr => ∃ k : Nat, k ≤ n ∧ i = .int .i64 k ∧ ∃ q, wr = w.drewN q) (fun i _ => n - (intOf i).toNat)
  case atStart => exact ⟨0, Nat.zero_le _, rfl, 0, rfl⟩
  case round =>
    obtain ⟨k, hk, rfl, q, hwr⟩ := hrel
    by_cases hlt : k < n
    · obtain ⟨g, o, rfl, _, r1⟩ := X.out.1 k (by rw [HN.out]; exact hlt)
      obtain ⟨g', o', rfl, _, r2⟩ := X.out.2 k (by rw [HN.out]; exact hlt)
      obtain ⟨t, ht⟩ : ∃ t, l.getD k default = t := ⟨_, rfl⟩
      rw [ht] at r1 r2
      have HR : Hid (wr.rangeAt g (o + k * 3) (axC t) ∧ wr.rangeAt g' (o' + k * 3) (axC t) ∧ wr = w.drewN q) := by
        rw [hwr]; exact ⟨r1, r2, rfl⟩
      have i1 : (0 : Int) ≤ (k : Int) := by omega
      have i2 : (k : Int) < (n : Int) := by omega
      have hne := neq_ax t
      have hgd : Tryz.prog.eqGuardType Tryz.prog.depth 130 = false := by kernel_rfl
      clear r1 r2 ht hwr
      go_wp2_with fail
      refine wp_region_noPanic (wp_region_held_drew (S := fun W => W.rangeAt g (o + k * 3) (axC t) ∧ W.rangeAt g' (o' + k * 3) (axC t)) (by kernel_rfl) ⟨HR.out.1, HR.out.2.1⟩ (fun hH => ?_))
      refine hTake 0 (some 17) (.slice (some ⟨g, o, none⟩) n c) rfl rfl (by kernel_rfl) (by kernel_rfl) (by kernel_rfl) (fun _ _ _ h => h) (by rfl) (fun W' hS' => by go_simp) hH ?_
      simp only [Act.put, List.setIfInBounds_toArray, List.set_cons_zero, List.set_cons_succ]
      refine hTake 1 (some 18) (.int .i64 k) rfl rfl (by kernel_rfl) (by kernel_rfl) (by kernel_rfl) (fun _ _ _ h => h) (by rfl) (fun W' hS' => by go_simp) hH ?_
      simp only [Act.put, List.setIfInBounds_toArray, List.set_cons_zero, List.set_cons_succ]
      refine hTake 2 (some 19) (.pointer (some ⟨g, o + k * 3, none⟩)) rfl rfl (by kernel_rfl) (by kernel_rfl) (by kernel_rfl) (fun _ _ _ h => h) (by rfl) (fun W' hS' => by go_simp) hH ?_
      simp only [Act.put, List.setIfInBounds_toArray, List.set_cons_zero, List.set_cons_succ]
      refine hLoad 3 (some 20) (axC t) rfl rfl (by kernel_rfl) (by kernel_rfl) (by kernel_rfl) (fun _ _ _ h => h) (by rfl) 130 (.tmp 19) rfl g (o + k * 3) rfl _ (fun _ h => h.1) Tryz.underlying130 rfl (sizeAx t) hH ?_
      simp only [Act.put, List.setIfInBounds_toArray, List.set_cons_zero, List.set_cons_succ]
      refine hTake 4 (some 21) (.slice (some ⟨g', o', none⟩) n d) rfl rfl (by kernel_rfl) (by kernel_rfl) (by kernel_rfl) (fun _ _ _ h => h) (by rfl) (fun W' hS' => by go_simp) hH ?_
      simp only [Act.put, List.setIfInBounds_toArray, List.set_cons_zero, List.set_cons_succ]
      refine hTake 5 (some 22) (.int .i64 k) rfl rfl (by kernel_rfl) (by kernel_rfl) (by kernel_rfl) (fun _ _ _ h => h) (by rfl) (fun W' hS' => by go_simp) hH ?_
      simp only [Act.put, List.setIfInBounds_toArray, List.set_cons_zero, List.set_cons_succ]
      refine hTake 6 (some 23) (.pointer (some ⟨g', o' + k * 3, none⟩)) rfl rfl (by kernel_rfl) (by kernel_rfl) (by kernel_rfl) (fun _ _ _ h => h) (by rfl) (fun W' hS' => by go_simp) hH ?_
      simp only [Act.put, List.setIfInBounds_toArray, List.set_cons_zero, List.set_cons_succ]
      refine hLoad 7 (some 24) (axC t) rfl rfl (by kernel_rfl) (by kernel_rfl) (by kernel_rfl) (fun _ _ _ h => h) (by rfl) 130 (.tmp 23) rfl g' (o' + k * 3) rfl _ (fun _ h => h.2) Tryz.underlying130 rfl (sizeAx t) hH ?_
      simp only [Act.put, List.setIfInBounds_toArray, List.set_cons_zero, List.set_cons_succ]
      refine hTake 8 (some 25) (.bool false) rfl rfl (by kernel_rfl) (by kernel_rfl) (by kernel_rfl) (fun _ _ _ h => h) (by rfl) (fun W' hS' => by simp [execOp, Act.eval, run_eqGuard_agg _ _ _ _ _ _ _ hgd, hne]) hH ?_
      simp only [Act.put, List.setIfInBounds_toArray, List.set_cons_zero, List.set_cons_succ]
      refine wpAnyH_done (by kernel_rfl) (NoPanic.normal ?_) _
      clear hH hne
      go_wp2_with fail
      go_roundw
      case rel => exact ⟨k + 1, by omega, by go_num, q + 1, by rw [HR.out.2.2]; rfl⟩
      case measure => simp [intOf] <;> omega
    · obtain rfl : k = n := by omega
      have HW : Hid (wr = w.drewN q) := hwr
      clear hwr
      go_wp2
      go_ret
      exact ⟨rfl, q, HW.out⟩
end Go.Proofs.YtfhieacclifihaaGreat
namespace Go.Proofs.YtfhieacclifihaaGreat
open Go.RowKit
set_option linter.unusedVariables false
set_option linter.unusedSimpArgs false

/-- How many pages slots take. -/
def pgsN (n each : Nat) : Nat := if 0 < n % each then n / each + 1 else n / each
set_option maxRecDepth 20000 in
set_option maxHeartbeats 1000000 in
theorem spages_good (n size text : Nat) (hs : 1 ≤ size) (ht : size ≤ text) (htx : text ≤ 1000000) (hn : n ≤ 1000000000) (hp : pgsN n (text / size) ≤ 65536) (w : World) :
    Calls Tryz.prog 7 #[.int .i64 (n : Int), .int .i64 (size : Int), .int .i64 (text : Int)] w fun e w' => e = .returned (.tuple #[.int .i64 (pgsN n (text / size) : Int), .int .i64 0]) ∧ w = w' := by
  obtain ⟨each, he⟩ : ∃ e, text / size = e := ⟨_, rfl⟩
  have hepos : 1 ≤ each := by rw [← he]; exact Nat.div_pos ht hs
  rw [he] at hp ⊢
  obtain ⟨pg, hpg⟩ : ∃ p, n / each = p := ⟨_, rfl⟩
  obtain ⟨r, hr⟩ : ∃ r, n % each = r := ⟨_, rfl⟩
  have q1 : Int.tdiv (text : Int) (size : Int) = (each : Int) := by rw [divN, he]
  have q2 : Int.tdiv (n : Int) (each : Int) = (pg : Int) := by rw [divN, hpg]
  have q3 : Int.tmod (n : Int) (each : Int) = (r : Int) := by rw [modN, hr]
  have hbd : pg ≤ 65536 ∧ each ≤ 1000000 ∧ r ≤ 1000000000 := by
    refine ⟨?_, by rw [← he]; exact Nat.le_trans (Nat.div_le_self _ _) htx, by rw [← hr]; exact Nat.le_trans (Nat.mod_le _ _) hn⟩
    unfold pgsN at hp
    rw [hpg] at hp
    split at hp <;> omega
  have z1 := wrapN each (by omega)
  have z2 := wrapN pg (by omega)
  have i1 : ¬ size = 0 := by omega
  have i2 : ¬ each = 0 := by omega
  have i3 : ¬ size < 1 := by omega
  have i4 : ¬ text < size := by omega
  unfold pgsN at hp ⊢
  rw [hr, hpg] at hp ⊢
  clear he hpg hr
  by_cases h0 : 0 < r
  · rw [if_pos h0] at hp ⊢
    obtain ⟨pg1, h1⟩ : ∃ pg1, pg + 1 = pg1 := ⟨_, rfl⟩
    rw [h1] at hp ⊢
    have q4 : (pg : Int) + 1 = (pg1 : Int) := by omega
    have z3 := wrapN pg1 (by omega)
    have i5 : ¬ 65536 < pg1 := by omega
    clear h1
    go_enter Tryz.func7, Tryz.ntmps7
    go_wp2
    go_ret2
    exact ⟨rfl, rfl⟩
  · rw [if_neg h0] at hp ⊢
    have i5 : ¬ 65536 < pg := by omega
    go_enter Tryz.func7, Tryz.ntmps7
    go_wp2
    go_ret2
    exact ⟨rfl, rfl⟩
theorem sbuild (p f n s e : Nat) (w : World) : (Instr.build 97 #[(0, .pointer (some ⟨p, 0, none⟩)), (1, .int .i64 (f : Int)), (2, .int .i64 (n : Int)), (3, .int .i64 (s : Int)), (4, .int .i64 (e : Int))]).run Tryz.prog w = .ok (.agg (slC ⟨p, f, n, s, e, .slice none 0 0⟩).toArray) w := by kernel_rfl
set_option maxRecDepth 20000 in
set_option maxHeartbeats 2000000 in
theorem snew_good (p first n size h : Nat) (cf : Cf) (hl : List Nat) (nm : Nm) (txt : Nat → List Int) (F : Nat → Prop) (w : World) (x : PagS w p h cf hl nm txt F) (hs : 1 ≤ size) (ht : size ≤ cf.text) (hn : n ≤ 1000000000) (hp : first + pgsN n (cf.text / size) ≤ cf.pages) :
    Calls Tryz.prog 9 #[.pointer (some ⟨p, 0, none⟩), .int .i64 (first : Int), .int .i64 (n : Int), .int .i64 (size : Int)] w fun e w' => ∃ g, e = .returned (.tuple #[.pointer (some ⟨g, 0, none⟩), .int .i64 0]) ∧ SlS w' g ⟨p, first, n, size, cf.text / size, .slice none 0 0⟩ [] ∧ w.heap.size ≤ g ∧ Below w.heap.size w w' := by
  have hg := x.good
  have CT : Hid (Calls Tryz.prog 47 #[.pointer (some ⟨p, 0, none⟩)] w fun e w' => e = .returned (.int .i64 (cf.text : Int)) ∧ w = w') := by
    obtain ⟨gh, gp, v, fh, fp, szp, Mh, s, Mt, y, hf, ha⟩ := x
    have := gtext_any p v w y.o.m.pa
    rw [y.et] at this
    exact this
  have CP : Hid (Calls Tryz.prog 48 #[.pointer (some ⟨p, 0, none⟩)] w fun e w' => e = .returned (.int .i64 (cf.pages : Int)) ∧ w = w') := by
    obtain ⟨gh, gp, v, fh, fp, szp, Mh, s, Mt, y, hf, ha⟩ := x
    have := gpages_any p v w y.o.m.pa
    rw [y.ep] at this
    exact this
  have CS : Hid (Calls Tryz.prog 7 #[.int .i64 (n : Int), .int .i64 (size : Int), .int .i64 (cf.text : Int)] w fun e w' => e = .returned (.tuple #[.int .i64 (pgsN n (cf.text / size) : Int), .int .i64 0]) ∧ w = w') := spages_good n size cf.text hs ht (by have := hg.text; omega) hn (by have := hg.pages; omega) w
  obtain ⟨each, he⟩ : ∃ e, cf.text / size = e := ⟨_, rfl⟩
  rw [he] at hp CS ⊢
  obtain ⟨pg, hpg⟩ : ∃ q, pgsN n each = q := ⟨_, rfl⟩
  rw [hpg] at hp CS
  obtain ⟨df, hdf⟩ : ∃ d, cf.pages - pg = d := ⟨_, rfl⟩
  have q1 : Int.tdiv (cf.text : Int) (size : Int) = (each : Int) := by rw [divN, he]
  have q2 : (cf.pages : Int) - (pg : Int) = (df : Int) := by omega
  have hpb := hg.pages
  have z1 := wrapN each (by have := hg.text; have := Nat.div_le_self cf.text size; omega)
  have z2 := wrapN df (by omega)
  have i1 : ¬ size = 0 := by omega
  have i2 : ¬ df < first := by omega
  have HSB : Hid (∀ W, (Instr.build 97 #[(0, .pointer (some ⟨p, 0, none⟩)), (1, .int .i64 (first : Int)), (2, .int .i64 (n : Int)), (3, .int .i64 (size : Int)), (4, .int .i64 (each : Int))]).run Tryz.prog W = .ok (.agg (slC ⟨p, first, n, size, each, .slice none 0 0⟩).toArray) W) := sbuild p first n size each
  clear x hs ht hn hp hg hdf hpg he hpb
  go_enter Tryz.func9, Tryz.ntmps9
  go_wp2_with (first | (go_at_call 47; refine CT.out.mono ?_; rintro e _ ⟨rfl, rfl⟩) | (go_at_call 7; refine CS.out.mono ?_; rintro e _ ⟨rfl, rfl⟩) | (go_at_call 48; refine CP.out.mono ?_; rintro e _ ⟨rfl, rfl⟩) | ((with_reducible show wpList _ _ _ (({ dst := some 41, op := _, type := _, pos := _, after := _, guard := _ } : Oper) :: _) _ _); refine wpList_build rfl 97 _ rfl #[(0, .pointer (some ⟨p, 0, none⟩)), (1, .int .i64 (first : Int)), (2, .int .i64 (n : Int)), (3, .int .i64 (size : Int)), (4, .int .i64 (each : Int))] (by simp [Act.eval]; done) _ (HSB.out _) ?_) | ((with_reducible show wpList _ _ _ (({ dst := some 42, op := _, type := _, pos := _, after := _, guard := _ } : Oper) :: _) _ _); refine wpList_box_new rfl 97 _ rfl (slC ⟨p, first, n, size, each, .slice none 0 0⟩) rfl ?_; intro w1 b1 s1 l1; clear s1))
  go_ret2
  exact ⟨_, rfl, ⟨b1, World.ownsRow_nil _ _ _ _⟩, Nat.le_refl _, l1⟩
end Go.Proofs.YtfhieacclifihaaGreat
namespace Go.Proofs.YtfhieacclifihaaGreat
open Go.RowKit
set_option linter.unusedVariables false
set_option linter.unusedSimpArgs false

theorem axs_one1 (a : Ax) : ∀ u ∈ axC a, u.oneCell' = true := fun u h => by
  simp [axC] at h
  rcases h with rfl | rfl | rfl <;> rfl
theorem own_made_a (w : World) : (w.alloc (.cells #[] 130)).ownsRow w.heap.size 130 3 (.slice (some ⟨w.heap.size, 0, none⟩) 0 0) 0 [] :=
  World.ownsRow_made w _ 0 (Nat.le_refl _) (Nat.zero_le _) rfl
set_option maxRecDepth 20000 in
set_option maxHeartbeats 1000000 in
theorem cloneA_any (v : Value) (l : List Ax) (w : World) (ho : w.ownsRow 0 130 3 v l.length (l.flatMap axC)) (hl : l.length ≤ 3000000000000) : Calls Tryz.prog 53 #[v] w fun e w' => ∃ v', e = .returned v' ∧ w'.ownsRow w.heap.size 130 3 v' l.length (l.flatMap axC) ∧ Below w.heap.size w w' := by
  obtain ⟨i0, hi, hz0, hz1, hz2⟩ := info_parts info_ax
  rcases ho.2 with ⟨rfl, h0⟩ | ⟨g, cap, cur, rfl, _, hh, hc, hm, hs, ht⟩
  · obtain rfl : l = [] := List.length_eq_zero_iff.1 h0
    have hq : ∀ wx, (binOp .eql 54 (.slice none 0 0) (.slice none 0 0)).run Tryz.prog wx = .ok (.bool true) wx := fun wx => Lib.run_eql_slice_nil wx 54 130 none 0 0 0 0 Tryz.underlying54
    clear ho
    go_enter Tryz.func53, Tryz.ntmps53
    go_wp2
    go_ret
    exact ⟨_, rfl, World.ownsRow_nil _ _ _ _, Below.refl _ _⟩
  · have hb1 : Below w.heap.size w (w.alloc (.cells #[] 130)) := (Below.refl _ _).alloc (Nat.le_refl _) _
    have ho1 := own_made_a w
    have gl : g < w.heap.size := lt_of_block hh
    have HNW : Hid (∀ j u, (l.flatMap axC)[j]? = some u → (w.alloc (.cells #[] 130)).cell? ((⟨g, 0, none⟩ : Addr).add j) = some u) := fun j u hu => by
      have := ho.cells (g := g) rfl j u hu
      rw [add_mid] at this ⊢
      exact (hb1.cell (p := ⟨g, 0 + j, none⟩) gl).trans this
    have HL : Hid ((l.flatMap axC).length = l.length * 3) := ho.1
    have H1 : Hid (∀ u ∈ l.flatMap axC, u.oneCell' = true) := fun u hu => by
      obtain ⟨t, _, h2⟩ := List.mem_flatMap.1 hu
      exact axs_one1 t u h2
    have hq : ∀ wx, (binOp .eql 54 (.slice (some ⟨g, 0, none⟩) l.length cap) (.slice none 0 0)).run Tryz.prog wx = .ok (.bool false) wx := fun wx => Lib.run_eql_slice_nil wx 54 130 (some ⟨g, 0, none⟩) l.length cap 0 0 Tryz.underlying54
    obtain ⟨n, hn⟩ : ∃ n, l.length = n := ⟨_, rfl⟩
    rw [hn] at hq HL hl ⊢
    clear ho hh hc hm hs ht hn
    go_enter Tryz.func53, Tryz.ntmps53
    go_wp2_with (at_builtin; refine wpList_append_own _ rfl _ _ 54 rfl w.heap.size 130 i0 (.agg #[.int .i64 0, .int .i64 0, .int .i64 0]) 3 24 Tryz.underlying54 hi hz0 hz1 hz2 rfl (by decide) _ 0 [] rfl ho1 ⟨g, 0, none⟩ n cap (l.flatMap axC) rfl HL.out HNW.out H1.out ?c3 ?c4 hb1.size ?_)
    case c3 => unfold maxLen; omega
    case c4 => omega
    · intro v' w1 hown hgrow _
      have R : Hid (Below w.heap.size w w1) := hb1.grown hgrow hb1.size (fun j hj => (ho1.lt j hj).1)
      try simp only [Nat.zero_add, List.nil_append] at hown
      have HO : Hid (w1.ownsRow w.heap.size 130 3 v' n (l.flatMap axC)) := hown
      clear hown hgrow ho1
      go_wp2
      go_ret
      exact ⟨_, rfl, HO.out, R.out⟩
theorem slog_any (g : Nat) (v : SlV) (l : List Ax) (w : World) (x : SlS w g v l) (hl : l.length ≤ 1000000000) : Calls Tryz.prog 20 #[.pointer (some ⟨g, 0, none⟩)] w fun e w' => ∃ ao c, e = .returned (.slice ao l.length c) ∧ w'.ownsRow w.heap.size 130 3 (.slice ao l.length c) l.length (l.flatMap axC) ∧ Below w.heap.size w w' := by
  have C : Hid (Calls Tryz.prog 53 #[v.log] w fun e w' => ∃ v', e = .returned v' ∧ w'.ownsRow w.heap.size 130 3 v' l.length (l.flatMap axC) ∧ Below w.heap.size w w') := cloneA_any v.log l w x.own (by omega)
  have c5 : w.cell? ⟨g, 5, none⟩ = some v.log := x.blk.cellS 5 _ rfl
  obtain ⟨lo, ln, lc, hv⟩ : ∃ a n c, v.log = .slice a n c := by rcases x.own.2 with ⟨h, _⟩ | ⟨g, cap, cur, h, _⟩ <;> exact ⟨_, _, _, h⟩
  rw [hv] at C c5
  clear x hv hl
  go_enter Tryz.func20, Tryz.ntmps20
  go_wp2_with (go_at_call 53; refine C.out.mono ?_; rintro e w1 ⟨u, rfl, o1, l1⟩)
  go_ret
  obtain ⟨ao, c, rfl⟩ : ∃ a c, u = .slice a l.length c := by
    rcases o1.2 with ⟨h, h0⟩ | ⟨g, cap, cur, h, _⟩
    · exact ⟨none, 0, by rw [h, h0]⟩
    · exact ⟨_, _, h⟩
  exact ⟨ao, c, rfl, o1, l1⟩
end Go.Proofs.YtfhieacclifihaaGreat
namespace Go.Proofs.YtfhieacclifihaaGreat
open Go.RowKit
set_option linter.unusedVariables false
set_option linter.unusedSimpArgs false

def k1 : List Int := 1 :: List.replicate 31 0
theorem k1_bytes : Bytes k1 := fun z hz => by
  simp only [k1, List.mem_cons] at hz
  rcases hz with rfl | hz
  · decide
  · rw [List.eq_of_mem_replicate hz]; decide
theorem bk1 (w : World) : (Instr.build 41 #[(0, .int .u8 1)]).run Tryz.prog w = .ok (.agg (u8s k1).toArray) w := by kernel_rfl
def cfW : Cf := ⟨k1, 3, 2, 4, 10⟩
theorem cfW_good : cfW.Good := ⟨by decide, by decide, by decide, by unfold Word; decide⟩
def slW (p : Nat) (lg : Value) : SlV := ⟨p, 1, 7, 3, 3, lg⟩
theorem slW_n (p : Nat) (lg : Value) : SlN (slW p lg) cfW := ⟨(by decide : 1 ≤ 3), (by decide : 1 ≤ 3), (by decide : 3 * 3 ≤ 10), (by decide : 7 ≤ 1000000000), fun i hi => by
  have hi : i < 7 := hi
  show 1 + i / 3 < 4
  omega⟩
theorem pgW (p : Nat) (lg : Value) : (slW p lg).first + 6 / (slW p lg).each = 3 := by simp [slW]
theorem b123 : Bytes [1, 2, 3] := fun z hz => by simp at hz; rcases hz with rfl | rfl | rfl <;> decide
theorem seen123 (w : World) : Seen (w.alloc (.cells #[.int .u8 1, .int .u8 2, .int .u8 3] 5)) (some ⟨w.heap.size, 0, none⟩) 3 [1, 2, 3] :=
  seen_blk (show Blk _ w.heap.size 5 (u8s [1, 2, 3]) from heap_alloc_new w _) b123 (by decide)
theorem recW (p : Nat) (lg : Value) : recL (setT (txt0 cfW) (slW p (.slice none 0 0)) 6 [1, 2, 3]) (slW p lg) 6 = [1, 2, 3] := by kernel_rfl
set_option maxRecDepth 20000 in
set_option maxHeartbeats 8000000 in
theorem swks_any (w : World) : Calls Tryz.prog 21 #[] w fun e w' => e = .returned (.bool true) ∧ Below w.heap.size w w' := by
  have CH : Hid (Calls Tryz.prog 11 #[.int .i64 4, .int .i64 38, .slice none 0 0] w fun e w' => ∃ h, e = .returned (.tuple #[.pointer (some ⟨h, 0, none⟩), .int .i64 0]) ∧ HostAt w' (fun k => w.heap.size ≤ k ∧ k < w'.heap.size) h (newS 4 38 []) ∧ Below w.heap.size w w') := new_good 4 38 (.slice none 0 0) [] (fun _ => False) w (FlS.nil _ _) (fun k h => h.elim) (by decide) (by decide) ⟨by decide, by decide⟩ rfl
  go_enter Tryz.func21, Tryz.ntmps21
  go_wp2_with (first | (go_at_call 11; refine CH.out.mono ?_; rintro e w1 ⟨hq, rfl, x1, l1⟩; have CP : Hid (Calls Tryz.prog 13 #[.iface 31 (.pointer (some ⟨hq, 0, none⟩)), .agg (u8s k1).toArray, .int .u64 3, .int .i64 2] w1 fun e w' => ∃ p F, e = .returned (.tuple #[.pointer (some ⟨p, 0, none⟩), .int .i64 0]) ∧ PagS w' p hq cfW [] nm0 (txt0 cfW) F ∧ Below w1.heap.size w1 w' ∧ ∀ b, F b → (fun k => w.heap.size ≤ k ∧ k < w1.heap.size) b ∨ w1.heap.size ≤ b) := pnew_S cfW hq _ w1 cfW_good rfl k1_bytes x1) | (refine wpList_build rfl 41 _ rfl #[(0, .int .u8 1)] rfl _ (bk1 _) ?_) | (go_at_call 13; refine CP.out.mono ?_; rintro e w2 ⟨p, F2, rfl, x2, l2, f2⟩; have CS : Hid (Calls Tryz.prog 9 #[.pointer (some ⟨p, 0, none⟩), .int .i64 1, .int .i64 7, .int .i64 3] w2 fun e w' => ∃ g, e = .returned (.tuple #[.pointer (some ⟨g, 0, none⟩), .int .i64 0]) ∧ SlS w' g (slW p (.slice none 0 0)) [] ∧ w2.heap.size ≤ g ∧ Below w2.heap.size w2 w') := snew_good p 1 7 3 hq cfW [] nm0 (txt0 cfW) F2 w2 x2 (by decide) (by decide) (by decide) (by decide)) | (go_at_call 9; refine CS.out.mono ?_; rintro e w3 ⟨g, rfl, y3, hg3, l3⟩; have CL : Hid (Calls Tryz.prog 18 #[.pointer (some ⟨g, 0, none⟩)] w3 fun e w' => e = .returned (.int .i64 7) ∧ w3 = w') := len_any g (slW p (.slice none 0 0)) w3 y3.blk; have CZ : Hid (Calls Tryz.prog 19 #[.pointer (some ⟨g, 0, none⟩)] w3 fun e w' => e = .returned (.int .i64 3) ∧ w3 = w') := ssize_any g (slW p (.slice none 0 0)) w3 y3.blk) | (go_at_call 18; refine CL.out.mono ?_; rintro e _ ⟨rfl, rfl⟩) | (go_at_call 19; refine CZ.out.mono ?_; rintro e _ ⟨rfl, rfl⟩))
  obtain ⟨w4, hw4⟩ : ∃ w4, w3.alloc (.cells #[.int .u8 1, .int .u8 2, .int .u8 3] 5) = w4 := ⟨_, rfl⟩
  have l4 : Below w3.heap.size w3 w4 := by rw [← hw4]; exact (Below.refl _ _).alloc (Nat.le_refl _) _
  have s4 : Seen w4 (some ⟨w3.heap.size, 0, none⟩) 3 [1, 2, 3] := by rw [← hw4]; exact seen123 w3
  have z4 : w4.heap.size = w3.heap.size + 1 := by rw [← hw4]; simp
  rw [hw4]
  clear hw4
  have hF2 := x2.all
  have x4 := (x2.later l3).later (below_chain (Below.refl _ _) l4 (Nat.le_refl _))
  have y4 := y3.later l4
  have hgl := y3.blk.lt
  have hl3 := l3.size
  have nF : ∀ b, w2.heap.size ≤ b → ¬ F2 b := fun b hb hF => by have := hF2 b hF; omega
  have hsl : ∀ b, slF g (slW p (.slice none 0 0)) b → b = g := fun b hb => by rcases hb with e | e; exact e; cases e
  have C5a := set_S g (slW p (.slice none 0 0)) [] hq cfW nm0 (txt0 cfW) F2 6 (some ⟨w3.heap.size, 0, none⟩) 3 [1, 2, 3] w4 x4 y4 (fun b hb => by rw [hsl b hb]; exact nF g hg3) (slW_n p _) (by decide : 6 < 7) (by decide) s4 (fun b o e => by cases e; exact ⟨by omega, nF _ (by omega), fun hb => by have := hsl _ hb; omega⟩) (by decide) (by decide) (by decide)
  rw [pgW] at C5a
  have C5 : Hid (Calls Tryz.prog 24 #[.pointer (some ⟨g, 0, none⟩), .int .i64 6, .slice (some ⟨w3.heap.size, 0, none⟩) 3 3] w4 fun e w' => e = .returned (.int .i64 0) ∧ ∃ F' lg, PagS w' p hq cfW ((nm0.load cfW 3).save cfW 3).ord ((nm0.load cfW 3).save cfW 3) (setT (txt0 cfW) (slW p (.slice none 0 0)) 6 [1, 2, 3]) F' ∧ SlS w' g (slW p lg) [⟨1, 6, 0⟩] ∧ (∀ b, slF g (slW p lg) b → ¬ F' b) ∧ Kept (fun b => F2 b ∨ slF g (slW p (.slice none 0 0)) b) w4 w' ∧ (∀ b, F' b ∨ slF g (slW p lg) b → F2 b ∨ slF g (slW p (.slice none 0 0)) b ∨ w4.heap.size ≤ b)) := C5a.mono (fun e w' ⟨h1, F', lg, a, b, c, d, e'⟩ => ⟨h1, F', lg, a, b, c, d, e'⟩)
  clear C5a
  have LL : Hid (Below w.heap.size w w4) := below_chain (below_chain (below_chain l1 l2 l1.size) l3 (by have := l1.size; have := l2.size; omega)) l4 (by have := l1.size; have := l2.size; omega)
  have GG : Hid (w.heap.size ≤ g ∧ (∀ b, F2 b → w.heap.size ≤ b) ∧ ∀ b, slF g (slW p (.slice none 0 0)) b → b = g) := ⟨by have := l1.size; have := l2.size; omega, fun b hb => by rcases f2 b hb with e | e; exact e.1; have := l1.size; omega, hsl⟩
  clear l4 s4 z4 hF2 x4 y4 hgl hl3 nF hsl x1 l1 x2 l2 f2 y3 hg3 l3
  go_at_call 24
  refine C5.out.mono ?_
  first | rintro e w5 rfl F5 lg x5 y5 d5 k5 n5 | rintro e w5 ⟨rfl, F5, lg, x5, y5, d5, k5, n5⟩
  have hGG := GG.out
  have L5 : Hid (Below w.heap.size w w5) := below_kept LL.out k5 LL.out.size (fun j hj he => by rcases he with e | e; have := hGG.2.1 j e; omega; have := hGG.2.2 j e; have := hGG.1; omega)
  have hN : ((nm0.load cfW 3).save cfW 3).ord.length ≤ 2 ∧ ((nm0.load cfW 3).save cfW 3).log.length < 1000000000 ∧ ((nm0.load cfW 3).save cfW 3).writes < 1000000000 := by decide
  obtain ⟨N5, hN5⟩ : ∃ N5, (nm0.load cfW 3).save cfW 3 = N5 := ⟨_, rfl⟩
  rw [hN5] at hN x5
  clear hN5
  have hRW : ∀ lg, recL (setT (txt0 cfW) (slW p (.slice none 0 0)) 6 [1, 2, 3]) (slW p lg) 6 = [1, 2, 3] := recW p
  obtain ⟨T5, hT5⟩ : ∃ T5, setT (txt0 cfW) (slW p (.slice none 0 0)) 6 [1, 2, 3] = T5 := ⟨_, rfl⟩
  rw [hT5] at hRW x5
  clear hT5
  have C6a := get_S g (slW p lg) [⟨1, 6, 0⟩] hq cfW N5 T5 F5 6 w5 x5 y5 d5 (slW_n p lg) (by decide : 6 < 7) (by decide) hN.1 hN.2.1 hN.2.2
  rw [pgW, hRW] at C6a
  have C6 : Hid (Calls Tryz.prog 28 #[.pointer (some ⟨g, 0, none⟩), .int .i64 6] w5 fun e w' => ∃ rb F' lg', e = .returned (.tuple #[.slice (some ⟨rb, 0, none⟩) 3 3, .int .i64 0]) ∧ Blk w' rb 5 (u8s [1, 2, 3]) ∧ SlS w' g (slW p lg') [⟨1, 6, 0⟩, ⟨0, 6, 0⟩] ∧ Kept (fun b => F5 b ∨ slF g (slW p lg) b) w5 w') := C6a.mono (fun e w' ⟨rb, F', lg', h1, h2, h3, h4, h5, h6, h7⟩ => ⟨rb, F', lg', h1, h2, h4, h6⟩)
  have G5 : Hid (∀ b, F5 b ∨ slF g (slW p lg) b → w.heap.size ≤ b) := fun b hb => by
    rcases n5 b hb with e | e | e
    · exact hGG.2.1 b e
    · rw [hGG.2.2 b e]; exact hGG.1
    · exact Nat.le_trans LL.out.size e
  clear C6a hRW hN x5 y5 d5 k5 n5 hGG
  go_wp2_with (go_at_call 28; refine C6.out.mono ?_; rintro e w6 ⟨rb, F6, lg6, rfl, b6, y6, k6⟩)
  have L6 : Hid (Below w.heap.size w w6) := below_kept L5.out k6 L5.out.size (fun j hj e => by have := G5.out j e; omega)
  have B6 : Hid (Blk w6 rb 5 (u8s [1, 2, 3]) ∧ SlS w6 g (slW p lg6) [⟨1, 6, 0⟩, ⟨0, 6, 0⟩]) := ⟨b6, y6⟩
  clear b6 y6 k6
  obtain ⟨w7, hw7⟩ : ∃ w7, w6.alloc (.cells #[.int .u8 1, .int .u8 2, .int .u8 3] 5) = w7 := ⟨_, rfl⟩
  have l7 : Below w6.heap.size w6 w7 := by rw [← hw7]; exact (Below.refl _ _).alloc (Nat.le_refl _) _
  have s7 : Seen w7 (some ⟨w6.heap.size, 0, none⟩) 3 [1, 2, 3] := by rw [← hw7]; exact seen123 w6
  have r7 : Seen w7 (some ⟨rb, 0, none⟩) 3 [1, 2, 3] := seen_blk (B6.out.1.later l7 B6.out.1.lt) b123 (by decide)
  rw [hw7]
  clear hw7
  have C8 : Hid (Calls Tryz.prog 29 #[.slice (some ⟨rb, 0, none⟩) 3 3, .slice (some ⟨w6.heap.size, 0, none⟩) 3 3] w7 fun e w' => e = .returned (.bool true) ∧ ∃ q, w' = w7.drewN q) := reqb_any _ _ 3 3 3 3 _ _ w7 r7 s7
  have Y7 : Hid (SlS w7 g (slW p lg6) [⟨1, 6, 0⟩, ⟨0, 6, 0⟩] ∧ Below w.heap.size w w7) := ⟨B6.out.2.later l7, below_chain L6.out l7 L6.out.size⟩
  clear l7 s7 r7
  go_at_call 29
  refine C8.out.mono ?_
  first | rintro e w8 rfl q hw8 | rintro e w8 ⟨rfl, q, hw8⟩
  have l8 : Below w7.heap.size w7 w8 := by rw [hw8]; exact below_dn (Below.refl _ _) q
  have C9 : Hid (Calls Tryz.prog 20 #[.pointer (some ⟨g, 0, none⟩)] w8 fun e w' => ∃ ao c, e = .returned (.slice ao 2 c) ∧ Below w8.heap.size w8 w') := (slog_any g (slW p lg6) [⟨1, 6, 0⟩, ⟨0, 6, 0⟩] w8 (Y7.out.1.later l8) (by decide)).mono (fun e w' ⟨ao, c, h1, _, h2⟩ => ⟨ao, c, h1, h2⟩)
  have L8 : Hid (Below w.heap.size w w8) := below_chain Y7.out.2 l8 Y7.out.2.size
  clear hw8 l8
  go_wp2_with (go_at_call 20; refine C9.out.mono ?_; rintro e w9 ⟨ao, c, rfl, l9⟩)
  go_ret
  exact ⟨rfl, below_chain L8.out l9 L8.out.size⟩
end Go.Proofs.YtfhieacclifihaaGreat
namespace Go.Proofs.YtfhieacclifihaaGreat
open Go.RowKit
set_option linter.unusedVariables false
set_option linter.unusedSimpArgs false

def wiN (i : Int) (n : Nat) : Nat := if i.tmod (n : Int) < 0 then (i.tmod (n : Int) + n).toNat else (i.tmod (n : Int)).toNat
theorem wiN_lt (i : Int) (n : Nat) (hn : 0 < n) : wiN i n < n := by
  obtain ⟨r, hr, h1, h2⟩ := tmod_bd i n hn
  unfold wiN; rw [hr]; split <;> omega
theorem within_is (i : Int) (n : Nat) (hn : 0 < n) (hn2 : n ≤ 140737488355328) (w : World) :
    Calls Tryz.prog 10 #[.int .i64 i, .int .i64 n] w fun e w' => e = .returned (.int .i64 ((wiN i n : Nat) : Int)) ∧ w = w' := by
  obtain ⟨r, hr, h1, h2⟩ := tmod_bd i n hn
  have HW : Hid (wiN i n = if r < 0 then (r + n).toNat else r.toNat) := by show _ = _; unfold wiN; rw [hr]
  have h0 : (n : Int) ≠ 0 := by omega
  have hv : Value.int .i64 (wrap64 r) = Value.int .i64 r := by congr 1; unfold wrap64; omega
  by_cases hneg : r < 0
  · go_enter Tryz.func10, Tryz.ntmps10
    go_wp2_with fail
    go_ret
    exact ⟨ret_int (by rw [HW.out, if_pos hneg]; omega), rfl⟩
  · go_enter Tryz.func10, Tryz.ntmps10
    go_wp2_with fail
    go_ret
    exact ⟨ret_int (by rw [HW.out, if_neg (by omega)]; omega), rfl⟩
def wldC (pages text window : Int) (key : List Int) (round : Int) (fv : Value) (f0 f1 n0 n1 s0 s1 : Int) (sv : Value) : List Value := [.int .i64 pages, .int .i64 text, .int .i64 window] ++ u8s key ++ [.int .u64 round, fv, .int .i64 f0, .int .i64 f1, .int .i64 n0, .int .i64 n1, .int .i64 s0, .int .i64 s1, sv]
theorem wld_at (pages text window : Int) (key : List Int) (round : Int) (fv : Value) (f0 f1 n0 n1 s0 s1 : Int) (sv : Value) (hk : key.length = 32) :
    (wldC pages text window key round fv f0 f1 n0 n1 s0 s1 sv)[0]? = some (.int .i64 pages) ∧ (wldC pages text window key round fv f0 f1 n0 n1 s0 s1 sv)[1]? = some (.int .i64 text) ∧ (wldC pages text window key round fv f0 f1 n0 n1 s0 s1 sv)[2]? = some (.int .i64 window) ∧ (wldC pages text window key round fv f0 f1 n0 n1 s0 s1 sv)[35]? = some (.int .u64 round) ∧ (wldC pages text window key round fv f0 f1 n0 n1 s0 s1 sv)[39]? = some (.int .i64 n0) ∧ (wldC pages text window key round fv f0 f1 n0 n1 s0 s1 sv)[41]? = some (.int .i64 s0) ∧ (wldC pages text window key round fv f0 f1 n0 n1 s0 s1 sv)[43]? = some sv := by
  have hl : ([.int .i64 pages, .int .i64 text, .int .i64 window] ++ u8s key : List Value).length = 35 := by simp [u8s_length, hk]
  have hr : ∀ j, 35 ≤ j → (wldC pages text window key round fv f0 f1 n0 n1 s0 s1 sv)[j]? = ([.int .u64 round, fv, .int .i64 f0, .int .i64 f1, .int .i64 n0, .int .i64 n1, .int .i64 s0, .int .i64 s1, sv] : List Value)[j - 35]? := fun j hj => by
    unfold wldC
    rw [List.getElem?_append_right (by omega), hl]
  exact ⟨rfl, rfl, rfl, hr 35 (by omega), hr 39 (by omega), hr 41 (by omega), hr 43 (by omega)⟩
/-- What the numbers of a world come to. -/
structure Qn where
  pg : Nat
  tx : Nat
  sz : Nat
  per : Nat
  n : Nat
  win : Nat
def qnOf (pages text window n0 s0 : Int) : Qn :=
  let pg := 1 + wiN pages 24
  let tx := 1 + wiN (IntKind.i64.wrap (text - 1)) 400
  let sz := 1 + wiN (IntKind.i64.wrap (s0 - 1)) tx
  let per := tx / sz
  ⟨pg, tx, sz, per, wiN n0 (pg * per + 1), 2 + wiN (IntKind.i64.wrap (window - 2)) 15⟩
def Qn.cf (q : Qn) (k : List Int) (round : Int) : Cf := ⟨k, round, q.win, q.pg, q.tx⟩
def Qn.sl (q : Qn) (p : Nat) (lg : Value) : SlV := ⟨p, 0, q.n, q.sz, q.per, lg⟩
structure Qn.Fit (q : Qn) : Prop where
  pg : 1 ≤ q.pg ∧ q.pg ≤ 24
  tx : 1 ≤ q.tx ∧ q.tx ≤ 400
  sz : 1 ≤ q.sz ∧ q.sz ≤ q.tx
  per : q.per = q.tx / q.sz ∧ 1 ≤ q.per ∧ q.per ≤ 400 ∧ q.per * q.sz ≤ q.tx
  n : q.n ≤ q.pg * q.per
  win : 2 ≤ q.win ∧ q.win ≤ 16
theorem qn_fit (pages text window n0 s0 : Int) : (qnOf pages text window n0 s0).Fit := by
  have h1 := wiN_lt pages 24 (by decide)
  have h2 := wiN_lt (IntKind.i64.wrap (text - 1)) 400 (by decide)
  have h3 := wiN_lt (IntKind.i64.wrap (s0 - 1)) (1 + wiN (IntKind.i64.wrap (text - 1)) 400) (by omega)
  have h6 := wiN_lt (IntKind.i64.wrap (window - 2)) 15 (by decide)
  have h5 := wiN_lt n0 ((qnOf pages text window n0 s0).pg * (qnOf pages text window n0 s0).per + 1) (by omega)
  refine ⟨⟨by show 1 ≤ 1 + _; omega, by show 1 + _ ≤ 24; omega⟩, ⟨by show 1 ≤ 1 + _; omega, by show 1 + _ ≤ 400; omega⟩, ⟨by show 1 ≤ 1 + _; omega, by show 1 + _ ≤ 1 + _; omega⟩, ⟨rfl, Nat.div_pos (by show 1 + _ ≤ 1 + _; omega) (by show 0 < 1 + _; omega), Nat.le_trans (Nat.div_le_self _ _) (by show 1 + _ ≤ 400; omega), Nat.div_mul_le_self _ _⟩, Nat.le_of_lt_succ h5, ⟨by show 2 ≤ 2 + _; omega, by show 2 + _ ≤ 16; omega⟩⟩
theorem pgs_fit (n pg per : Nat) (hp : 1 ≤ per) (h : n ≤ pg * per) : pgsN n per ≤ pg := by
  unfold pgsN
  have h1 := Nat.div_add_mod n per
  have h2 : n / per ≤ pg := Nat.div_le_of_le_mul (by rw [Nat.mul_comm]; exact h)
  split
  · rename_i hr
    rcases Nat.lt_or_eq_of_le h2 with e | e
    · omega
    · rw [e, Nat.mul_comm] at h1; omega
  · exact h2
set_option maxRecDepth 20000 in
set_option maxHeartbeats 1000000 in
theorem quiet_any (pages text window : Int) (key : List Int) (round : Int) (fv : Value) (f0 f1 n0 n1 s0 s1 : Int) (sv : Value) (k : List Int) (w : World) (hkey : key.length = 32) (hk : k.length = 32) (hkb : Bytes k) (hr : Word round) :
    Calls Tryz.prog 22 #[.agg (wldC pages text window key round fv f0 f1 n0 n1 s0 s1 sv).toArray, .agg (u8s k).toArray] w fun e w' => ∃ g h p F, e = .returned (.tuple #[.pointer (some ⟨g, 0, none⟩), .pointer (some ⟨h, 0, none⟩), .int .i64 ((qnOf pages text window n0 s0).sz : Int), .bool true]) ∧ PagS w' p h ((qnOf pages text window n0 s0).cf k round) [] nm0 (txt0 ((qnOf pages text window n0 s0).cf k round)) F ∧ SlS w' g ((qnOf pages text window n0 s0).sl p (.slice none 0 0)) [] ∧ w.heap.size ≤ g ∧ (∀ b, F b → w.heap.size ≤ b ∧ b ≠ g) ∧ Below w.heap.size w w' := by
  have HF : Hid ((qnOf pages text window n0 s0).Fit) := qn_fit _ _ _ _ _
  obtain ⟨a1, ha1⟩ : ∃ a, wiN pages 24 = a := ⟨_, rfl⟩
  obtain ⟨ti, hti⟩ : ∃ t, IntKind.i64.wrap (text - 1) = t := ⟨_, rfl⟩
  obtain ⟨a2, ha2⟩ : ∃ a, wiN ti 400 = a := ⟨_, rfl⟩
  obtain ⟨si, hsi⟩ : ∃ t, IntKind.i64.wrap (s0 - 1) = t := ⟨_, rfl⟩
  obtain ⟨tx, htx⟩ : ∃ t, 1 + a2 = t := ⟨_, rfl⟩
  obtain ⟨a3, ha3⟩ : ∃ a, wiN si tx = a := ⟨_, rfl⟩
  obtain ⟨pg, hpg⟩ : ∃ t, 1 + a1 = t := ⟨_, rfl⟩
  obtain ⟨sz, hsz⟩ : ∃ t, 1 + a3 = t := ⟨_, rfl⟩
  obtain ⟨per, hper⟩ : ∃ t, tx / sz = t := ⟨_, rfl⟩
  obtain ⟨m0, hm0⟩ : ∃ t, pg * per = t := ⟨_, rfl⟩
  obtain ⟨m1, hm1⟩ : ∃ t, m0 + 1 = t := ⟨_, rfl⟩
  obtain ⟨n, hn⟩ : ∃ t, wiN n0 m1 = t := ⟨_, rfl⟩
  obtain ⟨wi, hwi⟩ : ∃ t, IntKind.i64.wrap (window - 2) = t := ⟨_, rfl⟩
  obtain ⟨a6, ha6⟩ : ∃ a, wiN wi 15 = a := ⟨_, rfl⟩
  obtain ⟨win, hwin⟩ : ∃ t, 2 + a6 = t := ⟨_, rfl⟩
  obtain ⟨tz, htz⟩ : ∃ t, tx + 28 = t := ⟨_, rfl⟩
  have HQ : Hid (qnOf pages text window n0 s0 = ⟨pg, tx, sz, per, n, win⟩) := by
    show _ = _
    simp only [qnOf, ha1, hti, ha2, htx, hsi, ha3, hpg, hsz, hper, hm0, hm1, hn, hwi, ha6, hwin]
  rw [HQ.out] at HF ⊢
  have W1 : Hid (∀ W, Calls Tryz.prog 10 #[.int .i64 pages, .int .i64 24] W fun e w' => e = .returned (.int .i64 (a1 : Int)) ∧ W = w') := fun W => by rw [← ha1]; exact within_is pages 24 (by decide) (by decide) W
  have W2 : Hid (∀ W, Calls Tryz.prog 10 #[.int .i64 ti, .int .i64 400] W fun e w' => e = .returned (.int .i64 (a2 : Int)) ∧ W = w') := fun W => by rw [← ha2]; exact within_is ti 400 (by decide) (by decide) W
  have W3 : Hid (∀ W, Calls Tryz.prog 10 #[.int .i64 si, .int .i64 (tx : Int)] W fun e w' => e = .returned (.int .i64 (a3 : Int)) ∧ W = w') := fun W => by rw [← ha3]; exact within_is si tx (by omega) (by have := HF.out.tx.2; have h : tx ≤ 400 := this; omega) W
  have hm1b : m1 ≤ 10000 := by
    have h1 : pg ≤ 24 := HF.out.pg.2
    have h2 : per ≤ 400 := HF.out.per.2.2.1
    have h3 : pg * per ≤ 24 * 400 := Nat.mul_le_mul h1 h2
    omega
  have W5 : Hid (∀ W, Calls Tryz.prog 10 #[.int .i64 n0, .int .i64 (m1 : Int)] W fun e w' => e = .returned (.int .i64 (n : Int)) ∧ W = w') := fun W => by rw [← hn]; exact within_is n0 m1 (by omega) (by omega) W
  have W6 : Hid (∀ W, Calls Tryz.prog 10 #[.int .i64 wi, .int .i64 15] W fun e w' => e = .returned (.int .i64 (a6 : Int)) ∧ W = w') := fun W => by rw [← ha6]; exact within_is wi 15 (by decide) (by decide) W
  have fit := HF.out
  have q1 : (1 : Int) + (a1 : Int) = (pg : Int) := by omega
  have q2 : (1 : Int) + (a2 : Int) = (tx : Int) := by omega
  have q3 : (1 : Int) + (a3 : Int) = (sz : Int) := by omega
  have q4 : Int.tdiv (tx : Int) (sz : Int) = (per : Int) := by rw [divN, hper]
  have q5 : (pg : Int) * (per : Int) = (m0 : Int) := by rw [← hm0]; simp
  have q6 : (m0 : Int) + 1 = (m1 : Int) := by omega
  have q7 : (tx : Int) + 28 = (tz : Int) := by omega
  have q8 : (2 : Int) + (a6 : Int) = (win : Int) := by omega
  have b1 : pg ≤ 24 := fit.pg.2
  have b2 : tx ≤ 400 := fit.tx.2
  have b3 : 1 ≤ sz ∧ sz ≤ tx := fit.sz
  have b4 : per ≤ 400 := fit.per.2.2.1
  have b5 : n ≤ pg * per := fit.n
  have b6 : 2 ≤ win ∧ win ≤ 16 := fit.win
  have z1 := wrapN pg (by omega)
  have z2 := wrapN tx (by omega)
  have z3 := wrapN sz (by omega)
  have z4 := wrapN per (by omega)
  have z5 := wrapN m0 (by omega)
  have z6 := wrapN m1 (by omega)
  have z7 := wrapN tz (by omega)
  have z8 := wrapN win (by omega)
  have i1 : ¬ sz = 0 := by omega
  have Z8 : Hid ((2 : Int) + (a6 : Int) = (win : Int) ∧ IntKind.i64.wrap (win : Int) = (win : Int) ∧ IntKind.i64.wrap (window - 2) = wi) := ⟨q8, z8, hwi⟩
  have NB : Hid (True ∧ pg ≤ 24 ∧ tx ≤ 400 ∧ 1 ≤ tx ∧ 1 ≤ sz ∧ sz ≤ tx ∧ tx / sz = per ∧ 1 ≤ per ∧ n ≤ pg * per ∧ 2 ≤ win ∧ win ≤ 16 ∧ tx + 28 = tz ∧ n ≤ 1000000000 ∧ pgsN n per ≤ pg) := ⟨trivial, b1, b2, fit.tx.1, b3.1, b3.2, hper, fit.per.2.1, b5, b6.1, b6.2, htz, by omega, pgs_fit n pg per fit.per.2.1 b5⟩
  have HK : Hid (key.length = 32 ∧ k.length = 32 ∧ Bytes k ∧ Word round) := ⟨hkey, hk, hkb, hr⟩
  have hC := wld_at pages text window key round fv f0 f1 n0 n1 s0 s1 sv hkey
  obtain ⟨cs, hcs⟩ : ∃ cs, wldC pages text window key round fv f0 f1 n0 n1 s0 s1 sv = cs := ⟨_, rfl⟩
  rw [hcs] at hC ⊢
  have CH : Hid (∀ W, Calls Tryz.prog 11 #[.int .i64 (pg : Int), .int .i64 (tz : Int), .slice none 0 0] W fun e w' => ∃ h, e = .returned (.tuple #[.pointer (some ⟨h, 0, none⟩), .int .i64 0]) ∧ HostAt w' (fun k => W.heap.size ≤ k ∧ k < w'.heap.size) h (newS pg tz []) ∧ Below W.heap.size W w') := fun W => new_good pg tz (.slice none 0 0) [] (fun _ => False) W (FlS.nil _ _) (fun k h => h.elim) (by decide) (by have := NB.out; omega) (by have := NB.out; omega) rfl
  have M1 : Hid True := trivial
  have M7 : Hid True := trivial
  have M2 : Hid True := trivial
  have M3 : Hid True := trivial
  have M5 : Hid True := trivial
  have N1 : Hid True := trivial
  have N2 : Hid True := trivial
  have HC : Hid (cs[0]? = some (.int .i64 pages) ∧ cs[1]? = some (.int .i64 text) ∧ cs[2]? = some (.int .i64 window) ∧ cs[35]? = some (.int .u64 round) ∧ cs[39]? = some (.int .i64 n0) ∧ cs[41]? = some (.int .i64 s0)) := ⟨hC.1, hC.2.1, hC.2.2.1, hC.2.2.2.1, hC.2.2.2.2.1, hC.2.2.2.2.2.1⟩
  clear hC hcs hkey hk hkb hr fit b1 b2 b3 b4 b5 b6 ha1 ha2 ha3 htx hpg hsz hper hm0 hm1 hn hwi ha6 hwin htz hm1b q8 z8
  go_enter Tryz.func22, Tryz.ntmps22
  go_wp2_with (first | (clear N1; refine wpList_box_new rfl 62 _ rfl cs rfl ?_; intro w1 d1 s1 l1) | (clear N2; refine wpList_box_new rfl 41 _ rfl (u8s k) rfl ?_; intro w2 d2 s2 l2; have S2 : Hid (w1.heap.size = w.heap.size + 1 ∧ w2.heap.size = w1.heap.size + 1) := ⟨s1, s2⟩; have D1 : Hid (Blk w2 w.heap.size 62 cs ∧ Blk w2 w1.heap.size 41 (u8s k) ∧ Below w.heap.size w w2) := ⟨d1.later l2 d1.lt, d2, below_chain l1 l2 l1.size⟩; have c0 : w2.cell? ⟨w.heap.size, 0, none⟩ = some (.int .i64 pages) := (D1.out.1.cell 0).trans HC.out.1; have c1 : w2.cell? ⟨w.heap.size, 1, none⟩ = some (.int .i64 text) := (D1.out.1.cell 1).trans HC.out.2.1; have c39 : w2.cell? ⟨w.heap.size, 39, none⟩ = some (.int .i64 n0) := (D1.out.1.cell 39).trans HC.out.2.2.2.2.1; have c41 : w2.cell? ⟨w.heap.size, 41, none⟩ = some (.int .i64 s0) := (D1.out.1.cell 41).trans HC.out.2.2.2.2.2; clear d1 d2 s1 s2 l1 l2) | (clear M1; go_at_call 10; refine (W1.out w2).mono ?_; rintro e _ ⟨rfl, rfl⟩) | (clear M2; go_at_call 10; refine (W2.out w2).mono ?_; rintro e _ ⟨rfl, rfl⟩) | (clear M3; go_at_call 10; refine (W3.out w2).mono ?_; rintro e _ ⟨rfl, rfl⟩) | (clear M5; go_at_call 10; refine (W5.out w2).mono ?_; rintro e _ ⟨rfl, rfl⟩) | (clear M7; go_at_call 11; refine (CH.out w2).mono ?_; rintro e w3 ⟨h, rfl, x3, l3⟩))
  have D3 : Hid (Blk w3 w.heap.size 62 cs ∧ Blk w3 w1.heap.size 41 (u8s k) ∧ Below w.heap.size w w3) := ⟨D1.out.1.later l3 D1.out.1.lt, D1.out.2.1.later l3 D1.out.2.1.lt, below_chain D1.out.2.2 l3 D1.out.2.2.size⟩
  have X3 : Hid (HostAt w3 (fun k => w2.heap.size ≤ k ∧ k < w3.heap.size) h (newS pg tz []) ∧ w.heap.size ≤ w2.heap.size) := ⟨x3, D1.out.2.2.size⟩
  clear c0 c1 c39 c41 x3 l3 q1 q2 q3 q4 q5 q6 q7 hti hsi
  refine region_invP 10 ((.val (.pointer (some ⟨h, 0, none⟩))) :: (.val (.iface 31 (.pointer (some ⟨h, 0, none⟩)))) :: (.val (.agg (u8s k).toArray)) :: (.val (.pointer (some ⟨w.heap.size, 35, none⟩))) :: (.val (.int .u64 round)) :: (.val (.pointer (some ⟨w.heap.size, 2, none⟩))) :: (.val (.int .i64 window)) :: (.val (.int .i64 wi)) :: (.val (.int .i64 (a6 : Int))) :: (.val (.int .i64 (win : Int))) :: []) (by kernel_rfl) (by kernel_rfl) (by kernel_rfl) [] ⟨.inl rfl, .inl rfl, .inl rfl, .inl rfl, .inl rfl, .inl rfl, .inl rfl, .inl rfl, .inl rfl, .inl rfl, trivial⟩ (by kernel_rfl) ?_ ?_
  · refine Steps'.cons ?_ (Steps'.cons ?_ (Steps'.cons ?_ (Steps'.cons ?_ (Steps'.cons ?_ (Steps'.cons ?_ (Steps'.cons ?_ (Steps'.cons ?_ (Steps'.cons ?_ (Steps'.cons ?_ (Steps'.one _ _ _ _ _ _ _))))))))))
    · intro ax wx hb hs hd
      have h13 : ax.tmps.getD 13 undef = (.pointer (some ⟨h, 0, none⟩)) := hs 13 (by kernel_rfl)
      refine Does.value (.pointer (some ⟨h, 0, none⟩)) ?_ rfl
      clear hs hd
      go_simp
    · intro ax wx hb hs hd
      have h60 : ax.tmps.getD 60 undef = (.pointer (some ⟨h, 0, none⟩)) := hd 0 60 rfl (by kernel_rfl) (by decide)
      refine Does.value (.iface 31 (.pointer (some ⟨h, 0, none⟩))) ?_ rfl
      clear hs hd
      go_simp
    · intro ax wx hb hs hd
      have h3 : ax.tmps.getD 3 undef = (.pointer (some ⟨w1.heap.size, 0, none⟩)) := hs 3 (by kernel_rfl)
      exact Does.load 41 (.tmp 3) rfl w1.heap.size 0 h3 (u8s k) _ (by have := (D3.out.2.1.later hb D3.out.2.1.lt); exact this.allR) Tryz.underlying41 rfl (by rw [u8s_length, HK.out.2.1]; kernel_rfl)
    · intro ax wx hb hs hd
      have h2 : ax.tmps.getD 2 undef = (.pointer (some ⟨w.heap.size, 0, none⟩)) := hs 2 (by kernel_rfl)
      refine Does.value (.pointer (some ⟨w.heap.size, 35, none⟩)) ?_ rfl
      clear hs hd
      go_simp
    · intro ax wx hb hs hd
      have h63 : ax.tmps.getD 63 undef = (.pointer (some ⟨w.heap.size, 35, none⟩)) := hd 3 63 rfl (by kernel_rfl) (by decide)
      have c0 : wx.cell? ⟨w.heap.size, 35, none⟩ = some (.int .u64 round) := ((D3.out.1.later hb D3.out.1.lt).cell 35).trans HC.out.2.2.2.1
      refine Does.value (.int .u64 round) ?_ rfl
      clear hs hd
      go_simp
    · intro ax wx hb hs hd
      have h2 : ax.tmps.getD 2 undef = (.pointer (some ⟨w.heap.size, 0, none⟩)) := hs 2 (by kernel_rfl)
      refine Does.value (.pointer (some ⟨w.heap.size, 2, none⟩)) ?_ rfl
      clear hs hd
      go_simp
    · intro ax wx hb hs hd
      have h65 : ax.tmps.getD 65 undef = (.pointer (some ⟨w.heap.size, 2, none⟩)) := hd 5 65 rfl (by kernel_rfl) (by decide)
      have c0 : wx.cell? ⟨w.heap.size, 2, none⟩ = some (.int .i64 window) := ((D3.out.1.later hb D3.out.1.lt).cell 2).trans HC.out.2.2.1
      refine Does.value (.int .i64 window) ?_ rfl
      clear hs hd
      go_simp
    · intro ax wx hb hs hd
      have h66 : ax.tmps.getD 66 undef = (.int .i64 window) := hd 6 66 rfl (by kernel_rfl) (by decide)
      have z := Z8.out.2.2
      refine Does.value (.int .i64 wi) ?_ rfl
      clear hs hd
      go_simp
    · intro ax wx hb hs hd
      have h67 : ax.tmps.getD 67 undef = (.int .i64 wi) := hd 7 67 rfl (by kernel_rfl) (by decide)
      refine Does.call 10 #[(.int .i64 wi), (.int .i64 15)] (by clear hs hd; go_simp) ?_
      refine (W6.out wx).mono ?_
      rintro e w' ⟨rfl, rfl⟩
      exact ⟨_, rfl, rfl, Below.refl _ _⟩
    · intro ax wx hb hs hd
      have h68 : ax.tmps.getD 68 undef = (.int .i64 (a6 : Int)) := hd 8 68 rfl (by kernel_rfl) (by decide)
      have z := Z8.out.1
      have z2 := Z8.out.2.1
      refine Does.value (.int .i64 (win : Int)) ?_ rfl
      clear hs hd
      go_simp
  · intro wx hb
    refine @EndsP.val _ _ _ _ _ _ _ _ (.pointer (some ⟨h, 0, none⟩)) rfl ?_
    refine @EndsP.val _ _ _ _ _ _ _ _ (.iface 31 (.pointer (some ⟨h, 0, none⟩))) rfl ?_
    refine @EndsP.val _ _ _ _ _ _ _ _ (.agg (u8s k).toArray) rfl ?_
    refine @EndsP.val _ _ _ _ _ _ _ _ (.pointer (some ⟨w.heap.size, 35, none⟩)) rfl ?_
    refine @EndsP.val _ _ _ _ _ _ _ _ (.int .u64 round) rfl ?_
    refine @EndsP.val _ _ _ _ _ _ _ _ (.pointer (some ⟨w.heap.size, 2, none⟩)) rfl ?_
    refine @EndsP.val _ _ _ _ _ _ _ _ (.int .i64 window) rfl ?_
    refine @EndsP.val _ _ _ _ _ _ _ _ (.int .i64 wi) rfl ?_
    refine @EndsP.val _ _ _ _ _ _ _ _ (.int .i64 (a6 : Int)) rfl ?_
    refine @EndsP.val _ _ _ _ _ _ _ _ (.int .i64 (win : Int)) rfl ?_
    intro hD nf hn
    obtain ⟨mf, rfl⟩ : ∃ mf, nf = mf + 6 := ⟨nf - 6, by have h3 : 6 ≤ nf := hn; omega⟩
    clear hD hn
    simp only [Act.put, List.setIfInBounds_toArray, List.set_cons_zero, List.set_cons_succ]
    have CP : Hid (Calls Tryz.prog 13 #[.iface 31 (.pointer (some ⟨h, 0, none⟩)), .agg (u8s k).toArray, .int .u64 round, .int .i64 (win : Int)] wx fun e w' => ∃ p F, e = .returned (.tuple #[.pointer (some ⟨p, 0, none⟩), .int .i64 0]) ∧ PagS w' p h ⟨k, round, win, pg, tx⟩ [] nm0 (txt0 ⟨k, round, win, pg, tx⟩) F ∧ Below wx.heap.size wx w' ∧ ∀ b, F b → (fun k => w2.heap.size ≤ k ∧ k < w3.heap.size) b ∨ wx.heap.size ≤ b) := pnew_S ⟨k, round, win, pg, tx⟩ h _ wx ⟨by have := NB.out; show 2 ≤ win ∧ win ≤ 16; omega, by have := NB.out; show pg ≤ 65536; omega, by have := NB.out; show 1 ≤ tx ∧ tx ≤ 4096; omega, HK.out.2.2.2⟩ HK.out.2.1 HK.out.2.2.1 (by have := X3.out.1.later hb; rw [← NB.out.2.2.2.2.2.2.2.2.2.2.2.1] at this; exact this)
    have L3 : Hid (Below w.heap.size w wx ∧ w3.heap.size ≤ wx.heap.size) := ⟨below_chain D3.out.2.2 hb D3.out.2.2.size, hb.size⟩
    clear hb
    refine wpAny_ready (rs := [10]) (by kernel_rfl) (by simp) (AllReady.cons rfl (fun K hK => ?_) AllReady.nil)
    go_simp
    go_wp2_with (go_at_call 13; refine CP.out.mono ?_; rintro e w4 ⟨p, F, rfl, x4, l4, f4⟩)
    refine take_op 11 (some 59) (.tuple #[.pointer (some ⟨p, 0, none⟩), .int .i64 0]) rfl rfl (by kernel_rfl) (by kernel_rfl) (by kernel_rfl) (fun _ _ _ h => h) (by rfl) (fun W' => by go_simp) ?_
    simp only [Act.put, List.setIfInBounds_toArray, List.set_cons_zero, List.set_cons_succ]
    refine take_op 12 (some 71) (.pointer (some ⟨p, 0, none⟩)) rfl rfl (by kernel_rfl) (by kernel_rfl) (by kernel_rfl) (fun _ _ _ h => h) (by rfl) (fun W' => by go_simp) ?_
    simp only [Act.put, List.setIfInBounds_toArray, List.set_cons_zero, List.set_cons_succ]
    refine take_op 13 (some 72) (.int .i64 0) rfl rfl (by kernel_rfl) (by kernel_rfl) (by kernel_rfl) (fun _ _ _ h => h) (by rfl) (fun W' => by go_simp) ?_
    simp only [Act.put, List.setIfInBounds_toArray, List.set_cons_zero, List.set_cons_succ]
    refine take_op 14 (some 15) (.pointer (some ⟨p, 0, none⟩)) rfl rfl (by kernel_rfl) (by kernel_rfl) (by kernel_rfl) (fun _ _ _ h => h) (by rfl) (fun W' => by go_simp) ?_
    simp only [Act.put, List.setIfInBounds_toArray, List.set_cons_zero, List.set_cons_succ]
    refine take_op 15 (some 16) (.int .i64 0) rfl rfl (by kernel_rfl) (by kernel_rfl) (by kernel_rfl) (fun _ _ _ h => h) (by rfl) (fun W' => by go_simp) ?_
    simp only [Act.put, List.setIfInBounds_toArray, List.set_cons_zero, List.set_cons_succ]
    refine wpAny_done (by kernel_rfl) (NoPanic.normal ?_) _
    have CS : Hid (Calls Tryz.prog 9 #[.pointer (some ⟨p, 0, none⟩), .int .i64 0, .int .i64 (n : Int), .int .i64 (sz : Int)] w4 fun e w' => ∃ g, e = .returned (.tuple #[.pointer (some ⟨g, 0, none⟩), .int .i64 0]) ∧ SlS w' g ⟨p, 0, n, sz, per, .slice none 0 0⟩ [] ∧ w4.heap.size ≤ g ∧ Below w4.heap.size w4 w') := by
      have := snew_good p 0 n sz h ⟨k, round, win, pg, tx⟩ [] nm0 (txt0 ⟨k, round, win, pg, tx⟩) F w4 x4 (by have := NB.out; omega) (by have := NB.out; show sz ≤ tx; omega) (by have := NB.out; omega) (by show 0 + pgsN n (tx / sz) ≤ pg; rw [NB.out.2.2.2.2.2.2.1]; have := NB.out; omega)
      have e : (⟨k, round, win, pg, tx⟩ : Cf).text / sz = per := NB.out.2.2.2.2.2.2.1
      rw [e] at this
      exact this
    have X4 : Hid (PagS w4 p h ⟨k, round, win, pg, tx⟩ [] nm0 (txt0 ⟨k, round, win, pg, tx⟩) F ∧ Below w.heap.size w w4 ∧ (∀ b, F b → w.heap.size ≤ b ∧ b < w4.heap.size)) := ⟨x4, below_chain L3.out.1 l4 L3.out.1.size, fun b hb => ⟨by have h0 := L3.out.1.size; have h1 := X3.out.2; rcases f4 b hb with e | e; have e2 : w2.heap.size ≤ b := e.1; omega; omega, x4.all b hb⟩⟩
    clear x4 l4 f4
    go_wp2_with (first | (go_at_call 9; refine CS.out.mono ?_; rintro e w5 ⟨g, rfl, y5, hg5, l5⟩; have CL : Hid (Calls Tryz.prog 18 #[.pointer (some ⟨g, 0, none⟩)] w5 fun e w' => e = .returned (.int .i64 (n : Int)) ∧ w5 = w') := len_any g _ w5 y5.blk; have CZ : Hid (Calls Tryz.prog 19 #[.pointer (some ⟨g, 0, none⟩)] w5 fun e w' => e = .returned (.int .i64 (sz : Int)) ∧ w5 = w') := ssize_any g _ w5 y5.blk) | (go_at_call 18; refine CL.out.mono ?_; rintro e _ ⟨rfl, rfl⟩) | (go_at_call 19; refine CZ.out.mono ?_; rintro e _ ⟨rfl, rfl⟩))
    refine bodyPost_ret (results_tmp4 rfl _ _ _) rfl ?_
    exact ⟨g, h, p, F, rfl, X4.out.1.later l5, y5, by have := X4.out.2.1.size; omega, fun b hb => ⟨(X4.out.2.2 b hb).1, by have := (X4.out.2.2 b hb).2; omega⟩, below_chain X4.out.2.1 l5 X4.out.2.1.size⟩
end Go.Proofs.YtfhieacclifihaaGreat
namespace Go.Proofs.YtfhieacclifihaaGreat
open Go.RowKit
set_option linter.unusedVariables false
set_option linter.unusedSimpArgs false

set_option maxRecDepth 20000 in
set_option maxHeartbeats 1000000 in
theorem pair_same (g : Nat) (v : SlV) (l : List Ax) (i : Nat) (B : FuncId) (caps : Array Value) (w : World) (y : SlS w g v l) (hi : i < v.n) :
    Calls Tryz.prog 25 #[.pointer (some ⟨g, 0, none⟩), .int .i64 (i : Int), .int .i64 (i : Int), .func (.func B) #[] caps] w fun e w' => e = .returned (.int .i64 2) ∧ Below w.heap.size w w' := by
  have CH : Hid (∀ W, Below w.heap.size w W → Calls Tryz.prog 54 #[.pointer (some ⟨g, 0, none⟩), .int .i64 (i : Int)] W fun e w' => e = .returned (.bool true) ∧ W = w') := fun W hW => has_yes g v i hi W (y.later hW).blk
  have hne : ((i : Int) == (i : Int)) = true := by simp
  clear y hi
  have M1 : Hid True := trivial
  have M2 : Hid True := trivial
  have M3 : Hid True := trivial
  have M4 : Hid True := trivial
  go_enter Tryz.func25, Tryz.ntmps25
  go_wp2_with (first | (clear M1; refine wpList_boxV rfl 27 _ rfl (.pointer (some ⟨g, 0, none⟩)) rfl rfl ?_; intro w1 b1 s1 l1; have S1 : Hid (w1.heap.size = w.heap.size + 1) := s1; clear s1) | (clear M2; refine wpList_boxV rfl 3 _ rfl (.int .i64 (i : Int)) rfl rfl ?_; intro w2 b2 s2 l2; have S2 : Hid (w2.heap.size = w1.heap.size + 1) := s2; clear s2) | (clear M3; refine wpList_boxV rfl 3 _ rfl (.int .i64 (i : Int)) rfl rfl ?_; intro w3 b3 s3 l3; have S3 : Hid (w3.heap.size = w2.heap.size + 1) := s3; clear s3) | (clear M4; refine wpList_boxV rfl 74 _ rfl (.func (.func B) #[] caps) rfl rfl ?_; intro w4 b4 s4 l4; have S4 : Hid (w4.heap.size = w3.heap.size + 1) := s4; clear s4; have c1 : w4.cell? ⟨w.heap.size, 0, none⟩ = some (.pointer (some ⟨g, 0, none⟩)) := blk_c0 (((b1.later l2 b1.lt).later l3 (by have := S1.out; have := S2.out; omega)).later l4 (by have := S1.out; have := S2.out; have := S3.out; omega)); have c2 : w4.cell? ⟨w1.heap.size, 0, none⟩ = some (.int .i64 (i : Int)) := blk_c0 ((b2.later l3 (by have := S2.out; omega)).later l4 (by have := S2.out; have := S3.out; omega)); have c3 : w4.cell? ⟨w2.heap.size, 0, none⟩ = some (.int .i64 (i : Int)) := blk_c0 (b3.later l4 (by have := S3.out; omega)); have c4 : w4.cell? ⟨w3.heap.size, 0, none⟩ = some (.func (.func B) #[] caps) := blk_c0 b4; have L : Below w.heap.size w w4 := below_chain (below_chain (below_chain l1 l2 (by have := S1.out; omega)) l3 (by have := S1.out; have := S2.out; omega)) l4 (by have := S1.out; have := S2.out; have := S3.out; omega)) | (go_at_call 54; refine (CH.out w4 L).mono ?_; rintro e _ ⟨rfl, rfl⟩))
  go_ret
  exact ⟨rfl, L⟩
end Go.Proofs.YtfhieacclifihaaGreat
namespace Go.Proofs.YtfhieacclifihaaGreat
open Go.RowKit
set_option linter.unusedVariables false
set_option linter.unusedSimpArgs false

theorem pair_key (q : Qn) (k : List Int) (r : Int) (n : Nm) (a b : Nat) : n.pair (q.cf k r) a b = n.pair (q.cf [] r) a b := rfl
def Lf (w : World) (q : Qn) (k : List Int) (r : Int) (g h p : Nat) (l : List Ax) (nm : Nm) (S : Nat → Prop) : Prop :=
  ∃ lg txt F, PagS w p h (q.cf k r) nm.ord nm txt F ∧ SlS w g (q.sl p lg) l ∧ (∀ b, slF g (q.sl p lg) b → ¬ F b) ∧ ∀ b, S b ↔ (F b ∨ slF g (q.sl p lg) b)
theorem Lf.lt {w : World} {q : Qn} {k : List Int} {r : Int} {g h p : Nat} {l : List Ax} {nm : Nm} {S : Nat → Prop} (x : Lf w q k r g h p l nm S) : ∀ b, S b → b < w.heap.size := by
  obtain ⟨lg, txt, F, a, b, c, d⟩ := x
  intro i hi
  rcases (d i).1 hi with e | e
  · exact a.all i e
  · exact b.all i e
theorem Lf.off {w w' : World} {q : Qn} {k : List Int} {r : Int} {g h p : Nat} {l : List Ax} {nm : Nm} {S T : Nat → Prop} (x : Lf w q k r g h p l nm S) (hk : Kept T w w') (hd : ∀ b, T b → ¬ S b) : Lf w' q k r g h p l nm S := by
  obtain ⟨lg, txt, F, a, b, c, d⟩ := x
  exact ⟨lg, txt, F, a.off hk (fun i hi hF => hd i hi ((d i).2 (.inl hF))), b.off hk (fun i hi hs => hd i hi ((d i).2 (.inr hs))), c, d⟩
theorem Lf.later {w w' : World} {q : Qn} {k : List Int} {r : Int} {g h p : Nat} {l : List Ax} {nm : Nm} {S : Nat → Prop} (x : Lf w q k r g h p l nm S) (hb : Below w.heap.size w w') : Lf w' q k r g h p l nm S :=
  x.off (Kept.new (fun _ => False) hb) (fun _ h => h.elim)
structure Bnd (q : Qn) (l : List Ax) (nm : Nm) (m : Nat) : Prop where
  l : l.length ≤ m
  ord : nm.ord.length ≤ q.win
  log : nm.log.length ≤ 6 * m
  wr : nm.writes ≤ 6 * m
theorem qn_sl (q : Qn) (hq : q.Fit) (k : List Int) (r : Int) (p : Nat) (lg : Value) : SlN (q.sl p lg) (q.cf k r) := ⟨hq.per.2.1, hq.sz.1, hq.per.2.2.2, by
  have h1 := hq.n
  have h2 : q.pg * q.per ≤ 24 * 400 := Nat.mul_le_mul hq.pg.2 hq.per.2.2.1
  show q.n ≤ 1000000000
  omega, fun i hi => by
  have hi : i < q.n := hi
  show 0 + i / q.per < q.pg
  rw [Nat.zero_add]
  exact (Nat.div_lt_iff_lt_mul hq.per.2.1).2 (Nat.lt_of_lt_of_le hi hq.n)⟩
theorem load_bnd {q : Qn} (hq : q.Fit) {l : List Ax} {nm : Nm} {m : Nat} (b : Bnd q l nm m) (r : Int) (a : Nat) (x : Ax) : Bnd q (l ++ [x]) (nm.load (q.cf [] r) a) (m + 1) := by
  have h := load_len (q.cf [] r) nm a b.ord hq.win.1
  exact ⟨by have := b.l; simp; omega, h.1, by have := b.log; have := h.2.1; omega, by have := b.wr; have := h.2.2; omega⟩
theorem set_bnd {q : Qn} (hq : q.Fit) {l : List Ax} {nm : Nm} {m : Nat} (b : Bnd q l nm m) (r : Int) (a : Nat) (x : Ax) : Bnd q (l ++ [x]) ((nm.load (q.cf [] r) a).save (q.cf [] r) a) (m + 1) := by
  have h := load_len (q.cf [] r) nm a b.ord hq.win.1
  have h2 := save_len (q.cf [] r) (nm.load (q.cf [] r) a) a h.1 hq.win.1
  exact ⟨by have := b.l; simp; omega, h2.1, by have := b.log; have := h.2.1; have := h2.2.1; omega, by have := b.wr; have := h.2.2; have := h2.2.2; omega⟩
theorem pair_bnd {q : Qn} (hq : q.Fit) {l : List Ax} {nm : Nm} {m : Nat} (b : Bnd q l nm m) (r : Int) (a c : Nat) (x : Ax) : Bnd q (l ++ [x]) (nm.pair (q.cf [] r) a c) (m + 1) := by
  unfold Nm.pair
  split
  · exact set_bnd hq b r a x
  · have h := load_len (q.cf [] r) nm a b.ord hq.win.1
    have h1 := load_len (q.cf [] r) (nm.load (q.cf [] r) a) c h.1 hq.win.1
    have h2 := save_len (q.cf [] r) ((nm.load (q.cf [] r) a).load (q.cf [] r) c) a h1.1 hq.win.1
    have h3 := save_len (q.cf [] r) (((nm.load (q.cf [] r) a).load (q.cf [] r) c).save (q.cf [] r) a) c h2.1 hq.win.1
    exact ⟨by have := b.l; simp; omega, h3.1, by have := b.log; have := h.2.1; have := h1.2.1; have := h2.2.1; have := h3.2.1; omega, by have := b.wr; have := h.2.2; have := h1.2.2; have := h2.2.2; have := h3.2.2; omega⟩
theorem get_L {q : Qn} (hq : q.Fit) (k : List Int) (r : Int) (g h p i m : Nat) (l : List Ax) (nm : Nm) (S : Nat → Prop) (w : World) (x : Lf w q k r g h p l nm S) (b : Bnd q l nm m) (hm : m ≤ 1048576) (hi : i < q.n) :
    Calls Tryz.prog 28 #[.pointer (some ⟨g, 0, none⟩), .int .i64 (i : Int)] w fun e w' => (∃ v, e = .returned v) ∧ ∃ S', Lf w' q k r g h p (l ++ [⟨0, i, 0⟩]) (nm.load (q.cf [] r) (0 + i / q.per)) S' ∧ Kept S w w' ∧ ∀ b, S' b → S b ∨ w.heap.size ≤ b := by
  obtain ⟨lg, txt, F, a, y, c, d⟩ := x
  refine (get_S g (q.sl p lg) l h (q.cf k r) nm txt F i w a y c (qn_sl q hq k r p lg) hi (by have := b.l; omega) b.ord (by have := b.log; omega) (by have := b.wr; omega)).mono ?_
  rintro e w' ⟨rb, F', lg', rfl, _, x', y', c', k', f', _⟩
  exact ⟨⟨_, rfl⟩, fun b => F' b ∨ slF g (q.sl p lg') b, ⟨lg', txt, F', x', y', c', fun b => Iff.rfl⟩, k'.mono (fun b hb => (d b).2 hb), fun b hb => (f' b hb).elim (fun e => .inl ((d b).2 (.inl e))) (fun e => e.elim (fun e => .inl ((d b).2 (.inr e))) .inr)⟩
theorem set_L {q : Qn} (hq : q.Fit) (k : List Int) (r : Int) (g h p i m bb bc : Nat) (bs : List Int) (l : List Ax) (nm : Nm) (S : Nat → Prop) (w : World) (x : Lf w q k r g h p l nm S) (b : Bnd q l nm m) (hm : m ≤ 1048576) (hi : i < q.n) (hs : Blk w bb 5 (u8s bs)) (hl : bs.length = q.sz) (hbs : Bytes bs) (hbb : ¬ S bb) :
    Calls Tryz.prog 24 #[.pointer (some ⟨g, 0, none⟩), .int .i64 (i : Int), .slice (some ⟨bb, 0, none⟩) q.sz bc] w fun e w' => (∃ v, e = .returned v) ∧ ∃ S', Lf w' q k r g h p (l ++ [⟨1, i, 0⟩]) ((nm.load (q.cf [] r) (0 + i / q.per)).save (q.cf [] r) (0 + i / q.per)) S' ∧ Kept S w w' ∧ ∀ b, S' b → S b ∨ w.heap.size ≤ b := by
  obtain ⟨lg, txt, F, a, y, c, d⟩ := x
  refine (set_S g (q.sl p lg) l h (q.cf k r) nm txt F i (some ⟨bb, 0, none⟩) bc bs w a y c (qn_sl q hq k r p lg) hi (by have := b.l; omega) (by show Seen w _ q.sz bs; rw [← hl]; exact seen_blk hs hbs (by have := hq.sz.2; have := hq.tx.2; omega)) (fun b' o e => by cases e; exact ⟨hs.lt, fun hF => hbb ((d _).2 (.inl hF)), fun hF => hbb ((d _).2 (.inr hF))⟩) b.ord (by have := b.log; omega) (by have := b.wr; omega)).mono ?_
  rintro e w' ⟨rfl, F', lg', x', y', c', k', f'⟩
  exact ⟨⟨_, rfl⟩, fun b => F' b ∨ slF g (q.sl p lg') b, ⟨lg', _, F', x', y', c', fun b => Iff.rfl⟩, k'.mono (fun b hb => (d b).2 hb), fun b hb => (f' b hb).elim (fun e => .inl ((d b).2 (.inl e))) (fun e => e.elim (fun e => .inl ((d b).2 (.inr e))) .inr)⟩
theorem pair_L {q : Qn} (hq : q.Fit) (k : List Int) (r : Int) (g h p i j m : Nat) (B : FuncId) (caps : Array Value) (l : List Ax) (nm : Nm) (S : Nat → Prop) (w : World) (x : Lf w q k r g h p l nm S) (b : Bnd q l nm m) (hm : m ≤ 1048576) (hi : i < q.n) (hj : j < q.n) (hij : i ≠ j) (hent : ∀ args W, (callFunc B args).run Tryz.prog W = .ok (.enter B args) W)
    (HF : ∀ A0 B0 : List Int, A0.length = q.sz → B0.length = q.sz → Bytes A0 → Bytes B0 → ∃ A' B', A'.length = q.sz ∧ Bytes A' ∧ B'.length = q.sz ∧ Bytes B' ∧ ∀ W, Kept S w W → FPair W B caps q.sz A0 B0 A' B') :
    Calls Tryz.prog 25 #[.pointer (some ⟨g, 0, none⟩), .int .i64 (i : Int), .int .i64 (j : Int), .func (.func B) #[] caps] w fun e w' => (∃ v, e = .returned v) ∧ ∃ S', Lf w' q k r g h p (l ++ [⟨2, i, j⟩]) (nm.pair (q.cf [] r) (0 + i / q.per) (0 + j / q.per)) S' ∧ Kept S w w' ∧ ∀ b, S' b → S b ∨ w.heap.size ≤ b := by
  rw [← pair_key q k r]
  obtain ⟨lg, txt, F, a, y, c, d⟩ := x
  have hN := qn_sl q hq k r p lg
  have tl : ∀ s, (txt s).length = q.tx ∧ Bytes (txt s) := by
    obtain ⟨gh, gp, v', fh, fp, szp, Mh, s, Mt, z, hf, ha⟩ := a
    exact z.tl
  have rl : ∀ s, (recL txt (q.sl p lg) s).length = q.sz ∧ Bytes (recL txt (q.sl p lg) s) := fun s => by
    have h1 := hN.place s
    have h2 := tl ((q.sl p lg).first + s / (q.sl p lg).each)
    refine ⟨?_, fun z hz => h2.2 z (List.mem_of_mem_drop (List.mem_of_mem_take hz))⟩
    unfold recL
    rw [List.length_take, List.length_drop, h2.1]
    have h1 : s % (q.sl p lg).each * (q.sl p lg).size + q.sz ≤ q.tx := h1
    show min q.sz _ = q.sz
    omega
  obtain ⟨A', B', hA, hAb, hB, hBb, hff⟩ := HF _ _ (rl i).1 (rl j).1 (rl i).2 (rl j).2
  refine (pair_S g (q.sl p lg) l h (q.cf k r) nm txt F i j B caps A' B' w a y c hN hi hj hij (by have := b.l; omega) b.ord (by have := b.log; omega) (by have := b.wr; omega) hent ⟨hA, hAb, hB, hBb⟩ (fun W hW => hff W (hW.mono (fun b hb => (d b).2 hb)))).mono ?_
  rintro e w' ⟨rfl, F', lg', x', y', c', k', f'⟩
  exact ⟨⟨_, rfl⟩, fun b => F' b ∨ slF g (q.sl p lg') b, ⟨lg', _, F', x', y', c', fun b => Iff.rfl⟩, k'.mono (fun b hb => (d b).2 hb), fun b hb => (f' b hb).elim (fun e => .inl ((d b).2 (.inl e))) (fun e => e.elim (fun e => .inl ((d b).2 (.inr e))) .inr)⟩
end Go.Proofs.YtfhieacclifihaaGreat
namespace Go.Proofs.YtfhieacclifihaaGreat
open Go.RowKit
set_option linter.unusedVariables false
set_option linter.unusedSimpArgs false

theorem quiet_L (pages text window : Int) (key : List Int) (round : Int) (fv : Value) (f0 f1 n0 n1 s0 s1 : Int) (sv : Value) (k : List Int) (w : World) (hkey : key.length = 32) (hk : k.length = 32) (hkb : Bytes k) (hr : Word round) :
    Calls Tryz.prog 22 #[.agg (wldC pages text window key round fv f0 f1 n0 n1 s0 s1 sv).toArray, .agg (u8s k).toArray] w fun e w' => ∃ g h p S, e = .returned (.tuple #[.pointer (some ⟨g, 0, none⟩), .pointer (some ⟨h, 0, none⟩), .int .i64 ((qnOf pages text window n0 s0).sz : Int), .bool true]) ∧ Lf w' (qnOf pages text window n0 s0) k round g h p [] nm0 S ∧ (∀ b, S b → w.heap.size ≤ b) ∧ Below w.heap.size w w' := by
  refine (quiet_any pages text window key round fv f0 f1 n0 n1 s0 s1 sv k w hkey hk hkb hr).mono ?_
  rintro e w' ⟨g, h, p, F, rfl, x, y, hg, hF, hb⟩
  have hs : ∀ b, slF g ((qnOf pages text window n0 s0).sl p (.slice none 0 0)) b → b = g := fun b hb => by rcases hb with e | e; exact e; cases e
  refine ⟨g, h, p, fun b => F b ∨ slF g ((qnOf pages text window n0 s0).sl p (.slice none 0 0)) b, rfl, ⟨_, _, F, x, y, fun b hb hf => (hF b hf).2 (hs b hb), fun b => Iff.rfl⟩, fun b hb => ?_, hb⟩
  rcases hb with e | e
  · exact (hF b e).1
  · rw [hs b e]; exact hg
theorem len_L {w : World} {q : Qn} {k : List Int} {r : Int} {g h p : Nat} {l : List Ax} {nm : Nm} {S : Nat → Prop} (x : Lf w q k r g h p l nm S) : Calls Tryz.prog 18 #[.pointer (some ⟨g, 0, none⟩)] w fun e w' => e = .returned (.int .i64 (q.n : Int)) ∧ w = w' := by
  obtain ⟨lg, txt, F, a, y, c, d⟩ := x
  exact len_any g _ w y.blk
theorem range_later {w w' : World} {g o : Nat} {cs : List Value} (h : w.rangeAt g o cs) (hg : g < w.heap.size) (hb : Below w.heap.size w w') : w'.rangeAt g o cs := fun j v hv => (hb.cell (p := ⟨g, o + j, none⟩) hg).trans (h j v hv)
theorem AxS.later {w w' : World} {v : Value} {l : List Ax} (h : AxS w v l) (hb : Below w.heap.size w w') : AxS w' v l := by
  obtain ⟨a, c, e, hc⟩ := h.ex
  exact ⟨⟨a, c, e, fun i hi => by obtain ⟨g, o, h1, h2, h3⟩ := hc i hi; exact ⟨g, o, h1, Nat.lt_of_lt_of_le h2 hb.size, range_later h3 h2 hb⟩⟩⟩
theorem TcS.later {w w' : World} {v : Value} {l : List Tc} (h : TcS w v l) (hb : Below w.heap.size w w') : TcS w' v l := by
  obtain ⟨a, c, e, hc⟩ := h.ex
  exact ⟨h.good, a, c, e, fun i hi => by obtain ⟨g, o, h1, h2, h3⟩ := hc i hi; exact ⟨g, o, h1, Nat.lt_of_lt_of_le h2 hb.size, range_later h3 h2 hb⟩⟩
theorem slog_L {w : World} {q : Qn} {k : List Int} {r : Int} {g h p : Nat} {l : List Ax} {nm : Nm} {S : Nat → Prop} (x : Lf w q k r g h p l nm S) (hl : l.length ≤ 1000000000) : Calls Tryz.prog 20 #[.pointer (some ⟨g, 0, none⟩)] w fun e w' => ∃ v, e = .returned v ∧ AxS w' v l ∧ Below w.heap.size w w' := by
  obtain ⟨lg, txt, F, a, y, c, d⟩ := x
  refine (slog_any g _ l w y hl).mono ?_
  rintro e w' ⟨ao, c, rfl, ho, hb⟩
  exact ⟨_, rfl, axs_own ho, hb⟩
theorem hlog_L {w : World} {q : Qn} {k : List Int} {r : Int} {g h p : Nat} {l : List Ax} {nm : Nm} {S : Nat → Prop} (x : Lf w q k r g h p l nm S) : Calls Tryz.prog 16 #[.pointer (some ⟨h, 0, none⟩)] w fun e w' => ∃ v, e = .returned v ∧ TcS w' v nm.log ∧ Below w.heap.size w w' := by
  obtain ⟨lg, txt, F, a, y, c, d⟩ := x
  obtain ⟨gh, gp, v, fh, fp, szp, Mh, s, Mt, z, hf, ha⟩ := a
  have hh := z.o.m.ho
  have hsl := z.sl
  have hg : ∀ t ∈ s.log, t.Good := by
    obtain ⟨gl, gm, lg, rws, n, D, hi⟩ := hh
    exact hi.log.good
  refine (log_any h s Mh w hh).mono ?_
  rintro e w' ⟨v', rfl, ho, hb⟩
  rw [hsl] at ho hg
  exact ⟨_, rfl, tcs_own ho hg, hb⟩
structure Opr where
  k : Int
  wh : Int
  i : Int
  j : Int
  b : List Int
instance : Inhabited Opr := ⟨⟨0, 0, 0, 0, []⟩⟩
def oprC (x : Opr) (v : Value) : List Value := [.int .i64 x.k, .int .i64 x.wh, .int .i64 x.i, .int .i64 x.j, v]
/-- A script. -/
structure SeenO (w : World) (so : Option Addr) (ops : List Opr) : Prop where
  cells : ∀ i, i < ops.length → ∃ g o bo c, so = some ⟨g, o, none⟩ ∧ g < w.heap.size ∧ w.rangeAt g (o + i * 5) (oprC (ops.getD i default) (.slice bo (ops.getD i default).b.length c)) ∧ Seen w bo (ops.getD i default).b.length (ops.getD i default).b
theorem zeroOp15 : (Tryz.prog.info? 68).map (fun i => (i.zero, i.size)) = some (some (.agg [.int .i64 0, .int .i64 0, .int .i64 0, .int .i64 0, .slice none 0 0].toArray), 5) := by kernel_rfl
theorem sizeOp15 (x : Opr) (v : Value) : (Tryz.prog.info? 68).map (·.size) = some (oprC x v).length := by kernel_rfl
theorem sizeW44 : (Tryz.prog.info? 62).map (·.size) = some 44 := by kernel_rfl
theorem sizeWld (pages text window : Int) (key : List Int) (round : Int) (fv : Value) (f0 f1 n0 n1 s0 s1 : Int) (sv : Value) (hk : key.length = 32) : (Tryz.prog.info? 62).map (·.size) = some (wldC pages text window key round fv f0 f1 n0 n1 s0 s1 sv).length := by
  have e : (wldC pages text window key round fv f0 f1 n0 n1 s0 s1 sv).length = 44 := by simp [wldC, u8s_length, hk]
  rw [e]; exact sizeW44
theorem wld_key {w : World} {g : Nat} {t : TypeId} {pages text window : Int} {key : List Int} {round : Int} {fv : Value} {f0 f1 n0 n1 s0 s1 : Int} {sv : Value} (h : Blk w g t (wldC pages text window key round fv f0 f1 n0 n1 s0 s1 sv)) : w.rangeAt g 3 (u8s key) := by
  unfold wldC at h
  rw [List.append_assoc] at h
  exact Blk.range (xs := [.int .i64 pages, .int .i64 text, .int .i64 window]) h
theorem opr_one (x : Opr) (bo : Option Addr) (n c : Nat) : ∀ u ∈ oprC x (.slice bo n c), u.oneCell' = true := fun u h => by
  simp [oprC] at h
  rcases h with rfl | rfl | rfl | rfl | rfl <;> rfl
/-- Two lives side by side. -/
def Duo (w0 w : World) (q : Qn) (k1 k2 : List Int) (r : Int) (g1 h1 p1 g2 h2 p2 : Nat) (l1 l2 : List Ax) (n1 n2 : Nm) (S1 S2 : Nat → Prop) : Prop :=
  Lf w q k1 r g1 h1 p1 l1 n1 S1 ∧ Lf w q k2 r g2 h2 p2 l2 n2 S2 ∧ (∀ b, S1 b → ¬ S2 b) ∧ (∀ b, S1 b ∨ S2 b → w0.heap.size ≤ b) ∧ Below w0.heap.size w0 w
section
variable {w0 w w' : World} {q : Qn} {k1 k2 : List Int} {r : Int} {g1 h1 p1 g2 h2 p2 : Nat} {l1 l2 l' : List Ax} {n1 n2 n' : Nm} {S1 S2 S' : Nat → Prop}
theorem Duo.later (x : Duo w0 w q k1 k2 r g1 h1 p1 g2 h2 p2 l1 l2 n1 n2 S1 S2) (hb : Below w.heap.size w w') : Duo w0 w' q k1 k2 r g1 h1 p1 g2 h2 p2 l1 l2 n1 n2 S1 S2 :=
  ⟨x.1.later hb, x.2.1.later hb, x.2.2.1, x.2.2.2.1, below_chain x.2.2.2.2 hb x.2.2.2.2.size⟩
theorem Duo.one (x : Duo w0 w q k1 k2 r g1 h1 p1 g2 h2 p2 l1 l2 n1 n2 S1 S2) (a : Lf w' q k1 r g1 h1 p1 l' n' S') (kk : Kept S1 w w') (f : ∀ b, S' b → S1 b ∨ w.heap.size ≤ b) : Duo w0 w' q k1 k2 r g1 h1 p1 g2 h2 p2 l' l2 n' n2 S' S2 := by
  have hs := x.2.2.2.2.size
  refine ⟨a, x.2.1.off kk x.2.2.1, fun b hb h2 => ?_, fun b hb => ?_, below_chain x.2.2.2.2 (kk.below (B := w0.heap.size) hs (fun b hb => x.2.2.2.1 b (.inl hb))) (Nat.le_refl _)⟩
  · rcases f b hb with e | e
    · exact x.2.2.1 b e h2
    · have := x.2.1.lt b h2; omega
  · rcases hb with hb | hb
    · rcases f b hb with e | e
      · exact x.2.2.2.1 b (.inl e)
      · omega
    · exact x.2.2.2.1 b (.inr hb)
theorem Duo.flip (x : Duo w0 w q k1 k2 r g1 h1 p1 g2 h2 p2 l1 l2 n1 n2 S1 S2) : Duo w0 w q k2 k1 r g2 h2 p2 g1 h1 p1 l2 l1 n2 n1 S2 S1 :=
  ⟨x.2.1, x.1, fun b h1 h2 => x.2.2.1 b h2 h1, fun b hb => x.2.2.2.1 b hb.symm, x.2.2.2.2⟩
theorem Duo.two (x : Duo w0 w q k1 k2 r g1 h1 p1 g2 h2 p2 l1 l2 n1 n2 S1 S2) (a : Lf w' q k2 r g2 h2 p2 l' n' S') (kk : Kept S2 w w') (f : ∀ b, S' b → S2 b ∨ w.heap.size ≤ b) : Duo w0 w' q k1 k2 r g1 h1 p1 g2 h2 p2 l1 l' n1 n' S1 S' := (x.flip.one a kk f).flip
end
theorem pairE_L {w : World} {q : Qn} {k : List Int} {r : Int} {g h p : Nat} {l : List Ax} {nm : Nm} {S : Nat → Prop} (x : Lf w q k r g h p l nm S) (i : Nat) (hi : i < q.n) (B : FuncId) (caps : Array Value) : Calls Tryz.prog 25 #[.pointer (some ⟨g, 0, none⟩), .int .i64 (i : Int), .int .i64 (i : Int), .func (.func B) #[] caps] w fun e w' => (∃ v, e = .returned v) ∧ Below w.heap.size w w' := by
  obtain ⟨lg, txt, F, a, y, c, d⟩ := x
  refine (pair_same g _ l i B caps w y hi).mono ?_
  rintro e w' ⟨rfl, hb⟩
  exact ⟨⟨_, rfl⟩, hb⟩
theorem Bnd.up {q : Qn} {l : List Ax} {nm : Nm} {m : Nat} (b : Bnd q l nm m) : Bnd q l nm (m + 1) := ⟨by have := b.l; omega, b.ord, by have := b.log; omega, by have := b.wr; omega⟩
end Go.Proofs.YtfhieacclifihaaGreat
