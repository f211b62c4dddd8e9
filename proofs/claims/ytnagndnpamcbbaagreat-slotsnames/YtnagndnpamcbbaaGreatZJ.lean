/- Joined texts: SlSet. -/
import Derived.Test.YtnagndnpamcbbaaGreatZI
namespace Go.Proofs.YtnagndnpamcbbaaGreat
open Go.RowKit
set_option linter.unusedVariables false
set_option linter.unusedSimpArgs false

theorem enter_set1 : ∀ args w, (callFunc 83 args).run Tryz.prog w = .ok (.enter 83 args) w := fun args w => by kernel_rfl
/-- A page's text with a record laid in. -/
def setT (txt : Nat → List Int) (v : SlV) (i : Nat) (bs : List Int) : Nat → List Int := upn txt (v.first + i / v.each) (putL (txt (v.first + i / v.each)) (i % v.each * v.size) bs)
set_option maxRecDepth 20000 in
set_option maxHeartbeats 4000000 in
theorem set_S (g : Nat) (v : SlV) (l : List Ax) (h : Nat) (cf : Cf) (n : Nm) (txt : Nat → List Int) (F : Nat → Prop) (i : Nat) (bo : Option Addr) (bc : Nat) (bs : List Int) (w : World) (x : PagS w v.p h cf n.ord n txt F) (y : SlS w g v l) (hd : ∀ b, slF g v b → ¬ F b) (hn : SlN v cf) (hi : i < v.n) (hl : l.length ≤ 1000000000)
    (hs : Seen w bo v.size bs) (hbo : ∀ b o, bo = some ⟨b, o, none⟩ → b < w.heap.size ∧ ¬ F b ∧ ¬ slF g v b) (hol : n.ord.length ≤ cf.win) (hlog : n.log.length < 900000000) (hwr : n.writes < 900000000) :
    Calls Tryz.prog 33 #[.pointer (some ⟨g, 0, none⟩), .int .i64 (i : Int), .slice bo v.size bc] w fun e w' => e = .returned (.int .i64 0) ∧ ∃ F' lg, PagS w' v.p h cf ((n.load cf (v.first + i / v.each)).save cf (v.first + i / v.each)).ord ((n.load cf (v.first + i / v.each)).save cf (v.first + i / v.each)) (setT txt v i bs) F' ∧ SlS w' g { v with log := lg } (l ++ [⟨1, i, 0⟩]) ∧ (∀ b, slF g { v with log := lg } b → ¬ F' b) ∧ Kept (fun b => F b ∨ slF g v b) w w' ∧ (∀ b, F' b ∨ slF g { v with log := lg } b → F b ∨ slF g v b ∨ w.heap.size ≤ b) := by
  obtain ⟨q, hq⟩ : ∃ q, v.first + i / v.each = q := ⟨_, rfl⟩
  have HQ : Hid (v.first + i / v.each = q) := hq
  have hqp := hn.pages i hi
  have HT : Hid (setT txt v i bs = upn txt q (putL (txt q) (i % v.each * v.size) bs)) := by show _ = _; rw [setT, hq]
  rw [hq] at hqp ⊢
  rw [HT.out]
  have N : Hid (i < v.n ∧ 1 ≤ v.each ∧ 1 ≤ v.size ∧ i ≤ 1000000000 ∧ i % v.each * v.size + v.size ≤ cf.text ∧ cf.text ≤ 4096 ∧ q < 1000000 ∧ q < cf.pages) := ⟨hi, hn.each, hn.size, by have := hn.n; omega, hn.place i, x.good.text.2, by have := x.good.pages; omega, hqp⟩
  have X0 : Hid (PagS w v.p h cf n.ord n txt F ∧ SlS w g v l ∧ (∀ b, slF g v b → ¬ F b) ∧ Seen w bo v.size bs ∧ ∀ b o, bo = some ⟨b, o, none⟩ → b < w.heap.size ∧ ¬ F b ∧ ¬ slF g v b) := ⟨x, y, hd, hs, hbo⟩
  have HB : Hid (n.ord.length ≤ cf.win ∧ n.log.length < 900000000 ∧ n.writes < 900000000) := ⟨hol, hlog, hwr⟩
  have HTL : Hid ((txt q).length = cf.text ∧ Bytes (txt q)) := by
    obtain ⟨gh, gp, v', fh, fp, szp, Mh, s, Mt, y, hf, ha⟩ := x
    exact y.tl q
  have CN : Hid (∀ W, Below w.heap.size w W → Calls Tryz.prog 81 #[.pointer (some ⟨g, 0, none⟩), .int .i64 1, .int .i64 (i : Int), .int .i64 0] W fun e w' => e = .returned (.tuple #[]) ∧ ∃ lg, SlS w' g { v with log := lg } (l ++ [⟨1, i, 0⟩]) ∧ Kept (slF g v) W w' ∧ ∀ b, lg.ownBlock = some b → v.log.ownBlock = some b ∨ W.heap.size ≤ b) := fun W hW => note_any g v l 1 i 0 W (y.later hW) hl
  have CH : Hid (∀ W, Below w.heap.size w W → Calls Tryz.prog 80 #[.pointer (some ⟨g, 0, none⟩), .int .i64 (i : Int)] W fun e w' => e = .returned (.bool true) ∧ W = w') := fun W hW => has_yes g v i hi W (y.later hW).blk
  clear x y hd hn hi hl hs hbo hol hlog hwr hq hqp
  go_enter Tryz.func33, Tryz.ntmps33
  go_wp2_with (first | (refine wpList_boxV rfl 28 _ rfl (.pointer (some ⟨g, 0, none⟩)) rfl rfl ?_; intro w1 b1 s1 l1; have S1 : Hid (w1.heap.size = w.heap.size + 1) := s1; clear s1) | (refine wpList_boxV rfl 3 _ rfl (.int .i64 (i : Int)) rfl rfl ?_; intro w2 b2 s2 l2; have S2 : Hid (w2.heap.size = w1.heap.size + 1) := s2; clear s2) | (refine wpList_boxV rfl 67 _ rfl (.slice bo v.size bc) rfl rfl ?_; intro w3 b3 s3 l3; have S3 : Hid (w3.heap.size = w2.heap.size + 1) := s3; clear s3; have c1 : w3.cell? ⟨w.heap.size, 0, none⟩ = some (.pointer (some ⟨g, 0, none⟩)) := blk_c0 ((b1.later l2 b1.lt).later l3 (by have := S1.out; have := S2.out; omega)); have c2 : w3.cell? ⟨w1.heap.size, 0, none⟩ = some (.int .i64 (i : Int)) := blk_c0 (b2.later l3 (by have := S2.out; omega)); have c3 : w3.cell? ⟨w2.heap.size, 0, none⟩ = some (.slice bo v.size bc) := blk_c0 b3; have L : Below w.heap.size w w3 := below_chain (below_chain l1 l2 (by have := S1.out; omega)) l3 (by have := S1.out; have := S2.out; omega)) | (go_at_call 80; refine (CH.out w3 L).mono ?_; rintro e _ ⟨rfl, rfl⟩))
  obtain ⟨z1, hz1⟩ : ∃ z1, w1.heap.size = z1 := ⟨_, rfl⟩
  obtain ⟨z2, hz2⟩ : ∃ z2, w2.heap.size = z2 := ⟨_, rfl⟩
  have L3 : Hid (Below w.heap.size w w3) := L
  have Z : Hid (w.heap.size < w3.heap.size ∧ z1 < w3.heap.size ∧ z2 < w3.heap.size ∧ w3.cell? ⟨w.heap.size, 0, none⟩ = some (.pointer (some ⟨g, 0, none⟩)) ∧ w3.cell? ⟨z1, 0, none⟩ = some (.int .i64 (i : Int)) ∧ w3.cell? ⟨z2, 0, none⟩ = some (.slice bo v.size bc) ∧ w.heap.size < z1 ∧ w.heap.size < z2) := by
    have := S1.out; have := S2.out; have := S3.out
    exact ⟨by omega, by omega, by omega, c1, by rw [← hz1]; exact c2, by rw [← hz2]; exact c3, by omega, by omega⟩
  have Y : Hid (PagS w3 v.p h cf n.ord n txt F ∧ SlS w3 g v l) := ⟨X0.out.1.later L, X0.out.2.1.later L⟩
  rw [hz1, hz2]
  clear c1 c2 c3 b1 b2 b3 l1 l2 l3 L hz1 hz2
  refine region_invT [.val (.slice bo v.size bc), .val (.int .i64 (v.size : Int)), .val (.pointer (some ⟨g, 0, none⟩)), .val (.pointer (some ⟨g, 0, none⟩)), .val (.pointer (some ⟨g, 3, none⟩)), .val (.int .i64 (v.size : Int))] (by kernel_rfl) (by kernel_rfl) (by kernel_rfl) ?_ ?_
  · refine Steps'.cons ?_ (Steps'.cons ?_ (Steps'.cons ?_ (Steps'.cons ?_ (Steps'.cons ?_ (Steps'.cons ?_ (Steps'.one _ _ _ _ _ _ _))))))
    · intro ax wx hb hs hd
      have h5 : ax.tmps.getD 5 undef = (.pointer (some ⟨z2, 0, none⟩)) := hs 5 (by kernel_rfl)
      have c0 : wx.cell? ⟨z2, 0, none⟩ = some (.slice bo v.size bc) := (hb.cell (p := ⟨z2, 0, none⟩) Z.out.2.2.1).trans Z.out.2.2.2.2.2.1
      refine Does.value (.slice bo v.size bc) ?_ rfl
      clear hs hd
      go_simp
    · intro ax wx hb hs hd
      have h13 : ax.tmps.getD 13 undef = (.slice bo v.size bc) := hd 0 13 rfl (by kernel_rfl) (by decide)
      refine Does.value (.int .i64 (v.size : Int)) ?_ rfl
      clear hs hd
      go_simp
    · intro ax wx hb hs hd
      have h3 : ax.tmps.getD 3 undef = (.pointer (some ⟨w.heap.size, 0, none⟩)) := hs 3 (by kernel_rfl)
      have c0 : wx.cell? ⟨w.heap.size, 0, none⟩ = some (.pointer (some ⟨g, 0, none⟩)) := (hb.cell (p := ⟨w.heap.size, 0, none⟩) Z.out.1).trans Z.out.2.2.2.1
      refine Does.value (.pointer (some ⟨g, 0, none⟩)) ?_ rfl
      clear hs hd
      go_simp
    · intro ax wx hb hs hd
      have h15 : ax.tmps.getD 15 undef = (.pointer (some ⟨g, 0, none⟩)) := hd 2 15 rfl (by kernel_rfl) (by decide)
      refine Does.value (.pointer (some ⟨g, 0, none⟩)) ?_ rfl
      clear hs hd
      go_simp
    · intro ax wx hb hs hd
      have h16 : ax.tmps.getD 16 undef = (.pointer (some ⟨g, 0, none⟩)) := hd 3 16 rfl (by kernel_rfl) (by decide)
      refine Does.value (.pointer (some ⟨g, 3, none⟩)) ?_ rfl
      clear hs hd
      go_simp
    · intro ax wx hb hs hd
      have h17 : ax.tmps.getD 17 undef = (.pointer (some ⟨g, 3, none⟩)) := hd 4 17 rfl (by kernel_rfl) (by decide)
      have c0 : wx.cell? ⟨g, 3, none⟩ = some (.int .i64 (v.size : Int)) := (Y.out.2.blk.later hb Y.out.2.blk.lt).cellS 3 _ rfl
      refine Does.value (.int .i64 (v.size : Int)) ?_ rfl
      clear hs hd
      go_simp
  · intro wx hb
    refine @Ends.val _ _ _ _ _ _ _ _ _ (.slice bo v.size bc) rfl ?_
    refine @Ends.val _ _ _ _ _ _ _ _ _ (.int .i64 (v.size : Int)) rfl ?_
    refine @Ends.val _ _ _ _ _ _ _ _ _ (.pointer (some ⟨g, 0, none⟩)) rfl ?_
    refine @Ends.val _ _ _ _ _ _ _ _ _ (.pointer (some ⟨g, 0, none⟩)) rfl ?_
    refine @Ends.val _ _ _ _ _ _ _ _ _ (.pointer (some ⟨g, 3, none⟩)) rfl ?_
    refine @Ends.val _ _ _ _ _ _ _ _ _ (.int .i64 (v.size : Int)) rfl ?_
    refine @Ends.one _ _ _ _ _ _ _ ?_
    simp only [Act.put, List.setIfInBounds_toArray, List.set_cons_zero, List.set_cons_succ]
    refine last_valR (some 19) rfl (.bool false) (by go_simp) ?_
    have L5 : Hid (Below w3.heap.size w3 wx) := hb
    have d1 : wx.cell? ⟨w.heap.size, 0, none⟩ = some (.pointer (some ⟨g, 0, none⟩)) := (hb.cell (p := ⟨w.heap.size, 0, none⟩) Z.out.1).trans Z.out.2.2.2.1
    have d2 : wx.cell? ⟨z1, 0, none⟩ = some (.int .i64 (i : Int)) := (hb.cell (p := ⟨z1, 0, none⟩) Z.out.2.1).trans Z.out.2.2.2.2.1
    clear hb
    go_wp2_with (go_at_call 81; refine (CN.out wx (below_chain L3.out L5.out L3.out.size)).mono ?_; rintro e w6 ⟨rfl, lg, y6, k6, f6⟩)
    have LX : Below w.heap.size w wx := below_chain L3.out L5.out L3.out.size
    have nS : ∀ b, w.heap.size ≤ b → ¬ slF g v b := fun b hb hs => by have := X0.out.2.1.all b hs; omega
    have Y6 : Hid (PagS w6 v.p h cf n.ord n txt F ∧ SlS w6 g { v with log := lg } (l ++ [⟨1, i, 0⟩]) ∧ Kept (slF g v) w w6 ∧ (∀ b, lg.ownBlock = some b → v.log.ownBlock = some b ∨ w.heap.size ≤ b) ∧ (∀ b, slF g { v with log := lg } b → ¬ F b) ∧ Seen w6 bo v.size bs) := by
      refine ⟨(X0.out.1.later LX).off k6 (fun b hb hF => X0.out.2.2.1 b hb hF), y6, (Kept.new _ LX).trans k6, fun b hb => (f6 b hb).imp id (fun e => Nat.le_trans LX.size e), fun b hb hF => ?_, (X0.out.2.2.2.1.later LX (Nat.le_refl _)).off k6 (fun b o e hs => (X0.out.2.2.2.2 b o e).2.2 hs)⟩
      rcases hb with e | e
      · exact X0.out.2.2.1 b (.inl e) hF
      · rcases f6 b e with e | e
        · exact X0.out.2.2.1 b (.inr e) hF
        · have := X0.out.1.all b hF; have := LX.size; omega
    have Z6 : Hid (w.heap.size < w6.heap.size ∧ z1 < w6.heap.size ∧ z2 < w6.heap.size ∧ w6.cell? ⟨w.heap.size, 0, none⟩ = some (.pointer (some ⟨g, 0, none⟩)) ∧ w6.cell? ⟨z1, 0, none⟩ = some (.int .i64 (i : Int)) ∧ w6.cell? ⟨z2, 0, none⟩ = some (.slice bo v.size bc)) := by
      have hz := Z.out
      have h5 := L5.out.size
      have h6 := k6.size
      exact ⟨by omega, by omega, by omega, kept_cell k6 _ _ (by omega) (nS _ (by omega)) d1, kept_cell k6 _ _ (by omega) (nS _ (by omega)) d2, kept_cell k6 _ _ (by omega) (nS _ (by omega)) ((L5.out.cell (p := ⟨z2, 0, none⟩) hz.2.2.1).trans hz.2.2.2.2.2.1)⟩
    clear y6 k6 f6 nS d1 d2 LX
    go_wp2_with fail
    refine region_invP 6 ((.val (.pointer (some ⟨g, 0, none⟩))) :: (.val (.func (.func 83) #[] #[.pointer (some ⟨w.heap.size, 0, none⟩), .pointer (some ⟨z1, 0, none⟩), .pointer (some ⟨z2, 0, none⟩)])) :: (.val (.pointer (some ⟨g, 0, none⟩))) :: (.val (.int .i64 (i : Int))) :: (.val (.int .i64 (q : Int))) :: (.any (isZ1 w6.heap.size q) (isZ1_later _ _)) :: []) (by kernel_rfl) (by kernel_rfl) (by kernel_rfl) [] ⟨.inl rfl, .inl rfl, .inl rfl, .inl rfl, .inl rfl, .inl rfl, trivial⟩ (by kernel_rfl) ?_ ?_
    · refine Steps'.cons ?_ (Steps'.cons ?_ (Steps'.cons ?_ (Steps'.cons ?_ (Steps'.cons ?_ (Steps'.cons ?_ (Steps'.one _ _ _ _ _ _ _))))))
      · intro ax wx hb hs hd
        have h3 : ax.tmps.getD 3 undef = (.pointer (some ⟨w.heap.size, 0, none⟩)) := hs 3 (by kernel_rfl)
        have c0 : wx.cell? ⟨w.heap.size, 0, none⟩ = some (.pointer (some ⟨g, 0, none⟩)) := (hb.cell (p := ⟨w.heap.size, 0, none⟩) Z6.out.1).trans Z6.out.2.2.2.1
        refine Does.value (.pointer (some ⟨g, 0, none⟩)) ?_ rfl
        clear hs hd
        go_simp
      · intro ax wx hb hs hd
        have h3 : ax.tmps.getD 3 undef = (.pointer (some ⟨w.heap.size, 0, none⟩)) := hs 3 (by kernel_rfl)
        have h4 : ax.tmps.getD 4 undef = (.pointer (some ⟨z1, 0, none⟩)) := hs 4 (by kernel_rfl)
        have h5 : ax.tmps.getD 5 undef = (.pointer (some ⟨z2, 0, none⟩)) := hs 5 (by kernel_rfl)
        refine Does.value (.func (.func 83) #[] #[.pointer (some ⟨w.heap.size, 0, none⟩), .pointer (some ⟨z1, 0, none⟩), .pointer (some ⟨z2, 0, none⟩)]) ?_ rfl
        clear hs hd
        go_simp
      · intro ax wx hb hs hd
        have h3 : ax.tmps.getD 3 undef = (.pointer (some ⟨w.heap.size, 0, none⟩)) := hs 3 (by kernel_rfl)
        have c0 : wx.cell? ⟨w.heap.size, 0, none⟩ = some (.pointer (some ⟨g, 0, none⟩)) := (hb.cell (p := ⟨w.heap.size, 0, none⟩) Z6.out.1).trans Z6.out.2.2.2.1
        refine Does.value (.pointer (some ⟨g, 0, none⟩)) ?_ rfl
        clear hs hd
        go_simp
      · intro ax wx hb hs hd
        have h4 : ax.tmps.getD 4 undef = (.pointer (some ⟨z1, 0, none⟩)) := hs 4 (by kernel_rfl)
        have c0 : wx.cell? ⟨z1, 0, none⟩ = some (.int .i64 (i : Int)) := (hb.cell (p := ⟨z1, 0, none⟩) Z6.out.2.1).trans Z6.out.2.2.2.2.1
        refine Does.value (.int .i64 (i : Int)) ?_ rfl
        clear hs hd
        go_simp
      · intro ax wx hb hs hd
        have h25 : ax.tmps.getD 25 undef = (.pointer (some ⟨g, 0, none⟩)) := hd 2 25 rfl (by kernel_rfl) (by decide)
        have h26 : ax.tmps.getD 26 undef = (.int .i64 (i : Int)) := hd 3 26 rfl (by kernel_rfl) (by decide)
        refine Does.call 85 #[(.pointer (some ⟨g, 0, none⟩)), .int .i64 (i : Int)] (by clear hs hd; go_simp) ?_
        refine (page_any g { v with log := lg } i wx (Y6.out.2.1.blk.later hb Y6.out.2.1.blk.lt) N.out.2.1 (by have := HQ.out; have := N.out.2.2.2.2.2.2.1; show v.first + i / v.each ≤ 1000000; omega) N.out.2.2.2.1).mono ?_
        rintro e w' ⟨rfl, l⟩
        exact ⟨_, rfl, by show Value.int .i64 ((v.first + i / v.each : Nat) : Int) = _; rw [HQ.out], l⟩
      · intro ax wx hb hs hd
        have h27 : ax.tmps.getD 27 undef = (.int .i64 (q : Int)) := hd 4 27 rfl (by kernel_rfl) (by decide)
        exact Does.int1 (.tmp 27) rfl q h27 (isZ1_made wx q hb.size)
    · intro wx hb
      refine @EndsP.val _ _ _ _ _ _ _ _ (.pointer (some ⟨g, 0, none⟩)) rfl ?_
      refine @EndsP.val _ _ _ _ _ _ _ _ (.func (.func 83) #[] #[.pointer (some ⟨w.heap.size, 0, none⟩), .pointer (some ⟨z1, 0, none⟩), .pointer (some ⟨z2, 0, none⟩)]) rfl ?_
      refine @EndsP.val _ _ _ _ _ _ _ _ (.pointer (some ⟨g, 0, none⟩)) rfl ?_
      refine @EndsP.val _ _ _ _ _ _ _ _ (.int .i64 (i : Int)) rfl ?_
      refine @EndsP.val _ _ _ _ _ _ _ _ (.int .i64 (q : Int)) rfl ?_
      refine @EndsP.any _ _ _ _ _ _ _ _ (isZ1 w6.heap.size q) (isZ1_later _ _) rfl ?_
      intro v28 p28
      intro hD nf hn
      obtain ⟨bp, rfl, cb, hbp, hbl⟩ := p28
      obtain ⟨mf, rfl⟩ : ∃ mf, nf = mf + 2 := ⟨nf - 2, by have h3 : 2 ≤ nf := hn; omega⟩
      clear hD hn
      simp only [Act.put, List.setIfInBounds_toArray, List.set_cons_zero, List.set_cons_succ]
      have hF0 := X0.out.1.all
      have nF : ∀ b, w.heap.size ≤ b → ¬ F b := fun b hb hF => by have := hF0 b hF; omega
      have h6w := Z6.out.1
      have W7 : Hid (PagS wx v.p h cf n.ord n txt F ∧ SlS wx g { v with log := lg } (l ++ [⟨1, i, 0⟩]) ∧ Below w6.heap.size w6 wx ∧ wx.cell? ⟨bp, 0, none⟩ = some (.int .i64 (q : Int)) ∧ bp < wx.heap.size ∧ ¬ F bp) := ⟨Y6.out.1.later hb, Y6.out.2.1.later hb, hb, cb, hbl, nF bp (by omega)⟩
      have hpl : (putL (txt q) (i % v.each * v.size) bs).length = cf.text := by rw [putL_length (by have := N.out; rw [Y6.out.2.2.2.2.2.len, HTL.out.1]; omega)]; exact HTL.out.1
      have CO : Hid (Calls Tryz.prog 82 #[.pointer (some ⟨g, 0, none⟩), (.func (.func 83) #[] #[.pointer (some ⟨w.heap.size, 0, none⟩), .pointer (some ⟨z1, 0, none⟩), .pointer (some ⟨z2, 0, none⟩)]), .slice (some ⟨bp, 0, none⟩) 1 1] wx fun e w' => e = .returned (.int .i64 0) ∧ ∃ F', PagS w' v.p h cf ((n.load cf q).save cf q).ord ((n.load cf q).save cf q) (upn txt q (putL (txt q) (i % v.each * v.size) bs)) F' ∧ Ev F F' wx w') := by
        refine change_one g { v with log := lg } h cf n txt F q bp 1 83 _ (putL (txt q) (i % v.each * v.size) bs) wx W7.out.1 W7.out.2.1.blk (fun hF => Y6.out.2.2.2.2.1 g (.inl rfl) hF) W7.out.2.2.2.1 W7.out.2.2.2.2 N.out.2.2.2.2.2.2.2 HB.out.1 HB.out.2.1 HB.out.2.2 enter_set1 hpl (putL_bytes HTL.out.2 Y6.out.2.2.2.2.2.bytes) ?_
        intro w1' F1 ub uc T tc rest ev hubF hr ct huc hub hT hTu
        have hz := Z6.out
        have h0 := Z.out
        have h6x := W7.out.2.2.1.size
        have hev := ev.kept.size
        have gg : Go.Proofs.YtnagndnpamcbbaaGreat.S1 w1' g { v with log := lg } i w.heap.size z1 z2 ub T cf.text uc (txt q) rest bo bc bs := by
          refine ⟨kept_cell ev.kept _ _ (by omega) (nF _ (by omega)) ((W7.out.2.2.1.cell (p := ⟨w.heap.size, 0, none⟩) hz.1).trans hz.2.2.2.1), kept_cell ev.kept _ _ (by omega) (nF _ (by omega)) ((W7.out.2.2.1.cell (p := ⟨z1, 0, none⟩) hz.2.1).trans hz.2.2.2.2.1), kept_cell ev.kept _ _ (by omega) (nF _ (by omega)) ((W7.out.2.2.1.cell (p := ⟨z2, 0, none⟩) hz.2.2.1).trans hz.2.2.2.2.2), ct, W7.out.2.1.blk.kept ev.kept (fun hF => Y6.out.2.2.2.2.1 g (.inl rfl) hF), hr, (Y6.out.2.2.2.2.2.later W7.out.2.2.1 (Nat.le_refl _)).off ev.kept (fun b o e hF => (X0.out.2.2.2.2 b o e).2.1 hF), ⟨by omega, by omega, by omega, hT⟩⟩
        show Calls Tryz.prog 83 #[.slice (some ⟨T, 0, none⟩) 1 tc, .pointer (some ⟨w.heap.size, 0, none⟩), .pointer (some ⟨z1, 0, none⟩), .pointer (some ⟨z2, 0, none⟩)] w1' _
        exact set1_any g { v with log := lg } i w.heap.size z1 z2 ub T tc cf.text uc (txt q) rest bo bc bs w1' gg N.out.2.1 N.out.2.2.2.2.1 N.out.2.2.2.2.2.1 huc N.out.2.2.2.1 N.out.2.2.1 HTL.out.1
      clear cb hbp hbl hb hpl
      refine wpAny_ready (rs := [6]) (by kernel_rfl) (by simp) (AllReady.cons rfl (fun K hK => ?_) AllReady.nil)
      go_simp
      go_wp2_with (go_at_call 82; refine CO.out.mono ?_; rintro e w8 ⟨rfl, F8, x8, e8⟩)
      refine take_op 7 (some 6) (.int .i64 0) rfl rfl (by kernel_rfl) (by kernel_rfl) (by kernel_rfl) (fun _ _ _ h => h) (by rfl) (fun W' => by go_simp) ?_
      simp only [Act.put, List.setIfInBounds_toArray, List.set_cons_zero, List.set_cons_succ]
      refine wpAny_done (by kernel_rfl) (NoPanic.normal ?_) _
      have h6x := W7.out.2.2.1.size
      have E8 : Hid (PagS w8 v.p h cf ((n.load cf q).save cf q).ord ((n.load cf q).save cf q) (upn txt q (putL (txt q) (i % v.each * v.size) bs)) F8 ∧ SlS w8 g { v with log := lg } (l ++ [⟨1, i, 0⟩]) ∧ (∀ b, slF g { v with log := lg } b → ¬ F8 b) ∧ Kept (fun b => F b ∨ slF g v b) w w8 ∧ (∀ b, F8 b ∨ slF g { v with log := lg } b → F b ∨ slF g v b ∨ w.heap.size ≤ b)) := by
        refine ⟨x8, W7.out.2.1.off e8.kept (fun b hb hs => Y6.out.2.2.2.2.1 b hs hb), fun b hs hF => ?_, ?_, fun b hb => ?_⟩
        · rcases e8.new b hF with e | e
          · exact Y6.out.2.2.2.2.1 b hs e
          · have := Y6.out.2.1.all b hs; omega
        · have lx := W7.out.2.2.1
          refine ⟨e8.kept.os.trans (lx.os.trans Y6.out.2.2.1.os), e8.kept.tape.trans (lx.tape.trans Y6.out.2.2.1.tape), e8.kept.output.trans (lx.output.trans Y6.out.2.2.1.output), by have := e8.kept.size; omega, fun b hb hn => ?_⟩
          rw [e8.kept.block b (by omega) (fun e => hn (.inl e)), lx.block b (by omega), Y6.out.2.2.1.block b hb (fun e => hn (.inr e))]
        · rcases hb with hb | hb
          · rcases e8.new b hb with e | e
            · exact .inl e
            · exact .inr (.inr (by omega))
          · rcases hb with e | e
            · exact .inr (.inl (.inl e))
            · rcases Y6.out.2.2.2.1 b e with e | e
              · exact .inr (.inl (.inr e))
              · exact .inr (.inr e)
      clear x8 e8 nF hF0
      go_wp2
      go_ret
      exact ⟨rfl, F8, lg, E8.out⟩
end Go.Proofs.YtnagndnpamcbbaaGreat
