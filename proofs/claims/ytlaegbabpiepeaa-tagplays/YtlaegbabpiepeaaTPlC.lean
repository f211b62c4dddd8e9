/- TagPlays: a pair in memory; one step with a pair. -/
import Derived.Test.YtlaegbabpiepeaaTPlB
namespace Go.Proofs.Ytlaegbabpiepeaa
open Go.RowKit
set_option linter.unusedVariables false
set_option linter.unusedSimpArgs false

theorem two_puts {md : Region.Mode} {ops : Array Oper} {Q : Exit → Act → World → Prop} {fuel : Nat} {listed : Array Bool} {a : Act} {w : World} (i j : Nat) {oi oj : Oper} (d1 d2 : Option Tmp) (v1 v2 : Value) (hi : ops[i]? = some oi) (hj : ops[j]? = some oj) (hij : i ≠ j)
    (hr : Region.ready md ops listed = [i, j]) (hr1 : Region.ready md ops (listed.setIfInBounds i true) = [j]) (hr2 : Region.ready md ops (listed.setIfInBounds j true) = [i])
    (s1 : Stp ops Q oi a w (a.put d1 v1) w) (s2 : Stp ops Q oj (a.put d1 v1) w ((a.put d1 v1).put d2 v2) w) (t1 : Stp ops Q oj a w (a.put d2 v2) w) (t2 : Stp ops Q oi (a.put d2 v2) w ((a.put d2 v2).put d1 v1) w)
    (hc : (a.put d2 v2).put d1 v1 = (a.put d1 v1).put d2 v2)
    (h : wpAny Try.prog md ops Q fuel ((listed.setIfInBounds i true).setIfInBounds j true) ((a.put d1 v1).put d2 v2) w) : wpAny Try.prog md ops Q (fuel + 2) listed a w := by
  rw [hc] at t2
  exact two_steps i j hi hj hij hr hr1 hr2 s1 s2 t1 t2 h
theorem Kept.fresh {S : Nat → Prop} {w w1 w2 : World} {g : Nat} (h : Kept S w w1) (k : Kept (fun b => b = g) w1 w2) (hg : w.heap.size ≤ g) : Kept S w w2 := by
  have H := (h.mono (T := fun b => S b ∨ b = g) fun k e => .inl e).trans (k.mono fun k e => .inr e)
  exact ⟨H.os, H.tape, H.output, H.size, fun b hb hs => H.block b hb (by rintro (h1 | h1); exact hs h1; omega)⟩
set_option maxRecDepth 20000 in
set_option maxHeartbeats 2000000 in
theorem stepped_1s (a : Int) (bo : Option Addr) (c : Nat) (zs ky : List Int) (P h : Nat) (key : List Int) (so : Option Addr) (pc : Nat) (m : List Int) (w : World) (hp : PairAt w P h key so pc (some m)) (hx : Seen w bo zs.length zs) (hc : zs.length ≤ c) (hz : zs.length ≤ 1048576) (hky : ky.length = 32) (hne : P ≠ h) (hbh : ∀ b o, 0 < zs.length → bo = some ⟨b, o, none⟩ → b ≠ h) (hm : m.length + zs.length ≤ 1048576) :
    Calls Try.prog 4 #[.pointer (some ⟨P, 0, none⟩), .agg (opV 1 a bo zs.length c ky).toArray] w fun e w' => e = .returned (.bool true) ∧ Stepped w w' P h (stepF 1 (some m) zs) := by
  have HP : Hid (PairAt w P h key so pc (some m)) := hp
  have HX : Hid (Seen w bo zs.length zs ∧ zs.length ≤ c ∧ ky.length = 32) := ⟨hx, hc, hky⟩
  clear hp hx hc hky
  go_enter Try.func4, Try.ntmps4
  have hml : (m.length : Int) + 0 = m.length := by omega
  go_wp2_with (first | (refine wpList_box_new rfl 33 _ rfl (opV 1 a bo zs.length c ky) rfl ?_; intro w1 b1 s1 l1; have cK : w1.cell? ⟨w.heap.size, 0, none⟩ = some (.int .i64 1) := b1.cell 0; have cB : w1.cell? ⟨w.heap.size, 2, none⟩ = some (.slice bo zs.length c) := b1.cell 2; have p1 := HP.out.grow l1; have d0 := p1.blk.cell 0; have d1 := p1.blk.cell 33; have d2 := p1.blk.cell 34; simp only [pairC, pc33 HP.out.klen, pc34 HP.out.klen, pcC, List.getElem?_cons_zero] at d0; simp only [pairC, pc33 HP.out.klen] at d1; simp only [pairC, pc34 HP.out.klen] at d2) | (go_at_call 7; refine (spare_any bo zs.length c zs _ (HX.out.1.later l1 (Nat.le_refl _)) (by omega)).mono ?_; rintro e w2 ⟨rfl, b2, s2, l2⟩; rw [s1] at b2; have p2 := p1.grow l2; have g0 := p2.blk.cell 0; simp only [pairC, pcC, List.getElem?_cons_zero] at g0; have z1 := l1.size; have hlt := (p1.held m rfl).1.lt; have hPlt := p1.blk.lt) | (go_at_call 8; refine (write_any h (rLow key) (rHigh key) (sOf key) m _ zs.length (zs.length + 80) zs _ (p2.held m rfl).1 (spared_seen b2 HX.out.1.bytes (by omega)) (by omega) (fun bb oo hb e => by cases e; omega)).mono ?_; rintro e w3 ⟨rfl, h3, k3⟩; have pb := p2.blk.kept k3 hne; have g2 := pb.cell 34; simp only [pairC, pc34 HP.out.klen] at g2; have b3 := b2.kept k3 (by omega); have cB3 : w3.cell? ⟨w.heap.size, 2, none⟩ = some (.slice bo zs.length c) := ((b1.later l2 b1.lt).kept k3 (by have := HP.out.blk.lt; have := (HP.out.held m rfl).1.lt; omega)).cell 2; have x3 := ((HX.out.1.later l1 (Nat.le_refl _)).later l2 (Nat.le_refl _)).kept k3 hbh) | (go_at_call 9; refine (kept_yes _ bo zs.length c zs _ b3 x3 (by omega)).mono ?_; rintro e w4 ⟨rfl, q, rfl⟩))
  have q1 := HP.out.blk.lt
  have q2 := (HP.out.held m rfl).1.lt
  have q3 := b3.lt
  have A3 : AllAt w3 so m := (p2.held m rfl).2.1.kept k3 (fun b e => by subst e; exact ⟨_, _, (p2.held m rfl).1.at_.blk, by decide⟩)
  have Y4 : Hid (Blk (w3.drewN q) P 30 (pairC h key so pc (some m)) ∧ KHolds (w3.drewN q) h key (m ++ zs) ∧ Blk (w3.drewN q) (w.heap.size + 1) 5 (u8s (spared zs)) ∧ Seen (w3.drewN q) so m.length m ∧ Seen (w3.drewN q) bo zs.length zs ∧ Kept (fun b => b = P ∨ b = h) w (w3.drewN q)) := ⟨pb, h3.drewN q, b3, ((AllAt.seen A3 (p2.held m rfl).2.2.1 (by omega)).drewN q), x3.drewN q, ((Kept.new _ (below_chain l1 l2 l1.size)).trans (k3.mono fun k e => .inr e)).drewN q⟩
  have HB : Hid (Bytes (m ++ zs) ∧ m.length ≤ pc ∧ zs.length ≤ c) := ⟨(fun z hz => by rcases List.mem_append.mp hz with h1 | h1; exact (HP.out.held m rfl).2.2.1 z h1; exact HX.out.1.bytes z h1), (HP.out.held m rfl).2.2.2.1, HX.out.2.1⟩
  have HS : Hid (∀ W, Below (w3.drewN q).heap.size (w3.drewN q) W → W.cell? ⟨P, 33, none⟩ = some (.slice so m.length pc) ∧ W.cell? ⟨w.heap.size, 2, none⟩ = some (.slice bo zs.length c)) := fun W hW => ⟨((Y4.out.1.later hW Y4.out.1.lt).cell 33).trans (pc33 HP.out.klen), (World.cell?_of_block (w := w3.drewN q) (a := ⟨w.heap.size, 2, none⟩) (hW.block w.heap.size (by show w.heap.size < w3.heap.size; omega))).trans cB3⟩
  obtain ⟨mz, hmz⟩ : ∃ mz, m ++ zs = mz := ⟨_, rfl⟩
  have HM : Hid (m ++ zs = mz ∧ mz.length ≤ 1048576) := ⟨hmz, by rw [← hmz, List.length_append]; exact hm⟩
  rw [hmz] at Y4 HB
  obtain ⟨w4, hw4⟩ : ∃ w4, w3.drewN q = w4 := ⟨_, rfl⟩
  have q4 : w.heap.size + 1 < w4.heap.size := by rw [← hw4]; exact q3
  rw [hw4] at Y4 HS ⊢
  clear hw4 hmz A3 x3 cB3 b3 g2 pb k3 h3 hPlt hlt g0 p2 l2 s2 b2 d0 d1 d2 p1 cB cK b1 l1 q3
  have d1 := (HS.out _ (Below.refl _ _)).1
  have d3 := (HS.out _ (Below.refl _ _)).2
  refine wp_region_noPanic (wp_region_any (by kernel_rfl) ?_)
  refine take_op 0 (some 59) (.pointer (some ⟨P, 0, none⟩)) rfl rfl (by kernel_rfl) (by kernel_rfl) (by kernel_rfl) (fun _ _ _ h => h) (by rfl) (fun _ => by rfl) ?_
  refine take_op 1 (some 60) (.pointer (some ⟨P, 0, none⟩)) rfl rfl (by kernel_rfl) (by kernel_rfl) (by kernel_rfl) (fun _ _ _ h => h) (by rfl) (fun _ => by rfl) ?_
  refine take_op 2 (some 61) (.pointer (some ⟨P, 0, none⟩)) rfl rfl (by kernel_rfl) (by kernel_rfl) (by kernel_rfl) (fun _ _ _ h => h) (by rfl) (fun _ => by rfl) ?_
  refine take_op 3 (some 62) (.pointer (some ⟨P, 33, none⟩)) rfl rfl (by kernel_rfl) (by kernel_rfl) (by kernel_rfl) (fun _ _ _ h => h) (by rfl) (fun _ => by rfl) ?_
  refine take_op 5 (some 64) (.pointer (some ⟨w.heap.size, 2, none⟩)) rfl rfl (by kernel_rfl) (by kernel_rfl) (by kernel_rfl) (fun _ _ _ h => h) (by rfl) (fun _ => by rfl) ?_
  simp only [Act.put, List.setIfInBounds_toArray, List.set_cons_zero, List.set_cons_succ]
  refine two_puts 4 6 (some 63) (some 65) (.slice so m.length pc) (.slice bo zs.length c) rfl rfl (by decide) (by kernel_rfl) (by kernel_rfl) (by kernel_rfl) (fun K h => ?s1) (fun K h => ?s2) (fun K h => ?s3) (fun K h => ?s4) rfl ?_
  case s1 => go_simp; exact h
  case s2 => go_simp; exact h
  case s3 => go_simp; exact h
  case s4 => go_simp; exact h
  simp only [Act.put, List.setIfInBounds_toArray, List.set_cons_zero, List.set_cons_succ]
  refine wpAny_ready (rs := [7]) (by kernel_rfl) (by simp) (AllReady.cons rfl (fun K hK => ?_) AllReady.nil)
  go_simp
  go_wp2_with (go_at_call 10; refine (two_any so bo m.length zs.length pc c m zs w4.drew Y4.out.2.2.2.1.drew Y4.out.2.2.2.2.1.drew HB.out.2.1 HB.out.2.2 (by omega)).mono ?_; rintro e w5 ⟨v5, rfl, o5, l5⟩; rw [HM.out.1] at o5; obtain ⟨x5, c5, rfl, s5, r5, _, a5, _⟩ := own_data HB.out.1 (by have := HM.out.2; omega) o5; have G5 : Hid (Below w4.heap.size w4 w5) := below_chain (below_dn (Below.refl w4.heap.size w4) 1) l5 (Nat.le_refl _); have A5 : Hid (AllAt w5 x5 mz ∧ mz.length ≤ c5 ∧ ∀ b o, x5 = some ⟨b, o, none⟩ → w4.heap.size ≤ b) := ⟨(by rcases Nat.eq_zero_or_pos mz.length with h0 | h0; exact .inl (List.eq_nil_of_length_eq_zero h0); obtain ⟨b, o, e, _⟩ := s5.cells h0; subst e; obtain ⟨_, _, rfl, hr⟩ := a5 b o rfl; exact .inr ⟨b, rfl, hr⟩), r5, fun b o e => (a5 b o e).1⟩; clear l5 o5 s5 r5 a5; have f5 : w5.frozen? ⟨P, 33, none⟩ = false := (Y4.out.1.later G5.out Y4.out.1.lt).frozen 33; have d5 := (HS.out _ G5.out).1)
  refine take_op 8 (some 67) (.pointer (some ⟨P, 0, none⟩)) rfl rfl (by kernel_rfl) (by kernel_rfl) (by kernel_rfl) (fun _ _ _ h => h) (by rfl) (fun _ => by rfl) ?_
  refine take_op 9 (some 68) (.pointer (some ⟨P, 33, none⟩)) rfl rfl (by kernel_rfl) (by kernel_rfl) (by kernel_rfl) (fun _ _ _ h => h) (by rfl) (fun _ => by rfl) ?_
  simp only [Act.put, List.setIfInBounds_toArray, List.set_cons_zero, List.set_cons_succ]
  refine wpAny_ready (rs := [10]) (by kernel_rfl) (by simp) (AllReady.cons rfl (fun K hK => ?_) AllReady.nil)
  go_simp
  refine hK _ _ ?_
  clear hK K
  refine wpAny_done (by kernel_rfl) (NoPanic.normal ?_) _
  obtain ⟨w6, hw6, Y6⟩ : ∃ w6, w5.setCell ⟨P, 33, none⟩ (.slice x5 mz.length c5) = w6 ∧ Hid (PairAt w6 P h key x5 c5 (some mz) ∧ Blk w6 (w.heap.size + 1) 5 (u8s (spared zs)) ∧ Kept (fun b => b = P ∨ b = h) w w6 ∧ ∀ b o, x5 = some ⟨b, o, none⟩ → w4.heap.size ≤ b) := by
    have B5 := Y4.out.1.later G5.out Y4.out.1.lt
    have K6 := (Kept.refl (fun b => b = P) w5).setCell (p := ⟨P, 33, none⟩) rfl (.slice x5 mz.length c5)
    exact ⟨_, rfl, ⟨(by have R := B5.set 33 (.slice x5 mz.length c5); simp only [pairC] at R; rw [pcs33 _ _ _ _ _ HP.out.klen] at R; exact R), HP.out.klen, HP.out.kb, fun m' e => by
      cases e
      exact ⟨(Y4.out.2.1.later G5.out Y4.out.2.1.lt).kept K6 (fun e => hne e.symm), A5.out.1.kept K6 (fun b e => by subst e; exact ⟨_, _, B5, by decide⟩), HB.out.1, A5.out.2.1, HM.out.2⟩⟩, (Y4.out.2.2.1.later G5.out Y4.out.2.2.1.lt).kept K6 (by omega), (Y4.out.2.2.2.2.2.trans (Kept.new _ G5.out)).setCell (.inl rfl) _, A5.out.2.2⟩
  rw [hw6]
  clear hw6 d1 d3 d5 f5 G5 A5 HS
  go_wp2
  go_loopw [8] (fun i wr => ∃ (k : Nat) (ys : List Int), k ≤ zs.length ∧ i = .int .i64 k ∧ Blk wr (w.heap.size + 1) 5 (u8s ys) ∧ ys.length = zs.length + 80 ∧ Kept (fun b => b = w.heap.size + 1) w6 wr) (fun i _ => zs.length - (intOf i).toNat)
  case atStart => exact ⟨0, spared zs, Nat.zero_le _, rfl, Y6.out.2.1, spared_length _, Kept.refl _ _⟩
  case round =>
    obtain ⟨k, ys, hk, rfl, hbk, hyl, hkk⟩ := hrel
    by_cases hlt : k < zs.length
    · have cR := u8s_cell hbk k (by omega)
      have fR := hbk.frozen k
      obtain ⟨y, hy⟩ : ∃ y, ys.getD k 0 = y := ⟨_, rfl⟩
      rw [hy] at cR
      have j1 : (0 : Int) ≤ (k : Int) := by omega
      have j2 : (k : Int) < (zs.length : Int) := by omega
      have Y1 : Hid (Blk wr (w.heap.size + 1) 5 (u8s ys) ∧ ys.length = zs.length + 80 ∧ Kept (fun b => b = w.heap.size + 1) w6 wr) := ⟨hbk, hyl, hkk⟩
      clear hbk hyl hkk hy
      go_wp2
      refine ⟨⟨k + 1, _, by omega, by go_num, by have := Y1.out.1.set k (.int .u8 (bits .xor .u8 y 90)); rw [u8s_set] at this; exact this, by rw [List.length_set]; exact Y1.out.2.1, Y1.out.2.2.setCell rfl _⟩, by simp [intOf]; omega⟩
    · obtain rfl : k = zs.length := by omega
      have Y1 : Hid (Kept (fun b => b = w.heap.size + 1) w6 wr) := hkk
      clear hbk hyl hkk
      go_wp2
      go_ret
      rw [show stepF 1 (some m) zs = some mz from by rw [← HM.out.1]; rfl]
      refine ⟨rfl, ⟨h, key, x5, c5, ⟨Y6.out.1.blk.kept Y1.out (by omega), HP.out.klen, HP.out.kb, fun m' e => ?_⟩, .inl rfl⟩, Y6.out.2.2.1.fresh Y1.out (by omega)⟩
      cases e
      obtain ⟨g1, g2, g3⟩ := Y6.out.1.held _ rfl
      refine ⟨g1.kept Y1.out (by omega), ?_, g3⟩
      rcases g2 with g2 | ⟨bb, e1, hr⟩
      · exact .inl g2
      · exact .inr ⟨bb, e1, hr.kept Y1.out (by have := Y6.out.2.2.2 bb 0 e1; omega)⟩
end Go.Proofs.Ytlaegbabpiepeaa
