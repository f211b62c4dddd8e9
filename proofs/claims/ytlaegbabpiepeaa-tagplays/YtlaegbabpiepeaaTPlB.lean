/- TagPlays: a pair in memory; one step with a pair. -/
import Derived.Test.YtlaegbabpiepeaaTPlA
import Derived.Test.YtlaegbabpiepeaaRInv
namespace Go.Proofs.Ytlaegbabpiepeaa
open Go.RowKit
set_option linter.unusedVariables false
set_option linter.unusedSimpArgs false

set_option maxRecDepth 20000 in
set_option maxHeartbeats 2000000 in
theorem stepped_2n (a : Int) (bo : Option Addr) (c : Nat) (zs ky : List Int) (P h : Nat) (key : List Int) (so : Option Addr) (pc : Nat) (w : World) (hp : PairAt w P h key so pc (none)) (hx : Seen w bo zs.length zs) (hc : zs.length ≤ c) (hz : zs.length ≤ 1048576) (hky : ky.length = 32) (hne : P ≠ h) :
    Calls Try.prog 4 #[.pointer (some ⟨P, 0, none⟩), .agg (opV 2 a bo zs.length c ky).toArray] w fun e w' => e = .returned (.bool true) ∧ Stepped w w' P h (stepF 2 (none) zs) := by
  have HP : Hid (PairAt w P h key so pc (none)) := hp
  have HX : Hid (Seen w bo zs.length zs ∧ zs.length ≤ c ∧ ky.length = 32) := ⟨hx, hc, hky⟩
  clear hp hx hc hky
  go_enter Try.func4, Try.ntmps4
  have heq : ∀ wx, (Op.equalIn 10000 46 (.agg (u8s (zs0 16)).toArray) (.agg (u8s (zs0 16)).toArray)).run Try.prog wx = .ok true wx := equal_self 9998 (zs0 16) rfl
  have u2 : (Try.prog.info? 46).map (·.size) = some (u8s (zs0 16)).length := sizeTag
  go_wp2_with (first | (refine wpList_box_new rfl 33 _ rfl (opV 2 a bo zs.length c ky) rfl ?_; intro w1 b1 s1 l1; have cK : w1.cell? ⟨w.heap.size, 0, none⟩ = some (.int .i64 2) := b1.cell 0; have cB : w1.cell? ⟨w.heap.size, 2, none⟩ = some (.slice bo zs.length c) := b1.cell 2; have p1 := HP.out.grow l1; have d0 := p1.blk.cell 0; have d1 := p1.blk.cell 33; have d2 := p1.blk.cell 34; simp only [pairC, pc33 HP.out.klen, pc34 HP.out.klen, pcC, List.getElem?_cons_zero] at d0; simp only [pairC, pc33 HP.out.klen] at d1; simp only [pairC, pc34 HP.out.klen] at d2) | (go_at_call 11; refine (psum_nil _).mono ?_; rintro e w2 ⟨rfl, l2⟩) | (refine wpList_alloc_new rfl 46 rfl 16 _ zeroTag ?_; intro w3 b3 s3 l3) | (refine wpList_store_blk rfl 46 46 _ _ rfl _ rfl _ (u8s (zs0 16)) rfl b3 rfl u2 (u8s_one _) ?_; intro w4 b4 s4 k4; have k0 : Below w1.heap.size w1 w4 := below_chain l2 (below_kept l3 k4 (by omega) (fun j hj => by omega)) l2.size; have p4 := p1.grow k0; have e2 := p4.blk.cell 34; simp only [pairC, pc34 HP.out.klen] at e2) | (refine wpList_load_blk rfl 46 _ rfl _ rfl (u8s (zs0 16)) _ b4 Try.underlying46 rfl u2 ?_) | (refine wpList_build rfl 46 _ rfl #[] (by simp) _ (buildTag _) ?_))
  go_ret
  exact ⟨rfl, ⟨h, key, so, pc, p4, .inl rfl⟩, Kept.new _ (below_chain l1 k0 l1.size)⟩
set_option maxRecDepth 20000 in
set_option maxHeartbeats 2000000 in
theorem stepped_2s (a : Int) (bo : Option Addr) (c : Nat) (zs ky : List Int) (P h : Nat) (key : List Int) (so : Option Addr) (pc : Nat) (m : List Int) (w : World) (hp : PairAt w P h key so pc (some m)) (hx : Seen w bo zs.length zs) (hc : zs.length ≤ c) (hz : zs.length ≤ 1048576) (hky : ky.length = 32) (hne : P ≠ h) (hm : m.length + zs.length ≤ 1048576) :
    Calls Try.prog 4 #[.pointer (some ⟨P, 0, none⟩), .agg (opV 2 a bo zs.length c ky).toArray] w fun e w' => e = .returned (.bool true) ∧ Stepped w w' P h (stepF 2 (some m) zs) := by
  have HP : Hid (PairAt w P h key so pc (some m)) := hp
  have HX : Hid (Seen w bo zs.length zs ∧ zs.length ≤ c ∧ ky.length = 32) := ⟨hx, hc, hky⟩
  clear hp hx hc hky
  go_enter Try.func4, Try.ntmps4
  obtain ⟨tg, htg⟩ : ∃ tg, tagB key m = tg := ⟨_, rfl⟩
  have HT : Hid (tagB key m = tg ∧ tg.length = 16) := ⟨htg, by rw [← htg]; exact tagB_length _ _⟩
  have heq : ∀ wx, (Op.equalIn 10000 46 (.agg (u8s tg).toArray) (.agg (u8s tg).toArray)).run Try.prog wx = .ok true wx := equal_self 9998 tg HT.out.2
  have u2 : (Try.prog.info? 46).map (·.size) = some (u8s tg).length := by rw [u8s_length, HT.out.2]; exact sizeTag
  have u1 := Try.underlying46
  clear htg
  go_wp2_with (first | (refine wpList_box_new rfl 33 _ rfl (opV 2 a bo zs.length c ky) rfl ?_; intro w1 b1 s1 l1; have cK : w1.cell? ⟨w.heap.size, 0, none⟩ = some (.int .i64 2) := b1.cell 0; have cB : w1.cell? ⟨w.heap.size, 2, none⟩ = some (.slice bo zs.length c) := b1.cell 2; have p1 := HP.out.grow l1; have d0 := p1.blk.cell 0; have d1 := p1.blk.cell 33; have d2 := p1.blk.cell 34; simp only [pairC, pc33 HP.out.klen, pc34 HP.out.klen, pcC, List.getElem?_cons_zero] at d0; simp only [pairC, pc33 HP.out.klen] at d1; simp only [pairC, pc34 HP.out.klen] at d2) | (go_at_call 11; refine (psum_key h key m _ (p1.held m rfl).1).mono ?_; rintro e w2 ⟨rfl, l2⟩; rw [HT.out.1]) | (refine wpList_alloc_new rfl 46 rfl 16 _ zeroTag ?_; intro w3 b3 s3 l3) | (refine wpList_store_blk rfl 46 46 _ _ rfl _ rfl _ (u8s tg) rfl b3 (by rw [u8s_length, HT.out.2]; rfl) u2 (u8s_one _) ?_; intro w4 b4 s4 k4; have k0 : Below w1.heap.size w1 w4 := below_chain l2 (below_kept l3 k4 (by omega) (fun j hj => by omega)) l2.size; have p4 := p1.grow k0; have e2 := p4.blk.cell 34; simp only [pairC, pc34 HP.out.klen] at e2))
  have u3 : (Try.prog.info? 27).map (·.size) = some (u8s key).length := by rw [u8s_length, HP.out.klen]; exact tsizeK
  have u4 := Try.underlying27
  have PP : Hid (PairAt w4 P h key so pc (some m) ∧ Below w.heap.size w w4) := ⟨p4, below_chain l1 k0 l1.size⟩
  have HS : Hid (∀ W, Below w4.heap.size w4 W → W.rangeAt w2.heap.size 0 (u8s tg) ∧ W.rangeAt P 1 (u8s key) ∧ W.cell? ⟨P, 33, none⟩ = some (.slice so m.length pc)) := fun W hW => ⟨fun j v hv => by rw [Nat.zero_add, (b4.later hW b4.lt).cell]; exact hv, pc_key (p4.grow hW).blk, ((p4.grow hW).blk.cell 33).trans (pc33 HP.out.klen)⟩
  have HA : Hid (Seen w4 so m.length m) := (p4.held m rfl).2.1.seen (p4.held m rfl).2.2.1 (by omega)
  clear p4 k0 b4 s4 k4 b3 s3 l3 l2 p1 d0 d1 d2 b1 s1 l1 cK cB e2
  refine region_inv [.val (.agg (u8s tg).toArray), .val (.pointer (some ⟨P, 0, none⟩)), .val (.pointer (some ⟨P, 0, none⟩)), .val (.pointer (some ⟨P, 1, none⟩)), .val (.agg (u8s key).toArray), .val (.pointer (some ⟨P, 0, none⟩)), .val (.pointer (some ⟨P, 0, none⟩)), .val (.pointer (some ⟨P, 33, none⟩)), .val (.slice so m.length pc), .val (.agg (u8s tg).toArray), .val (.bool true)] (by kernel_rfl) (by kernel_rfl) (by kernel_rfl) ?_ ?_
  · refine Steps'.cons ?_ (Steps'.cons ?_ (Steps'.cons ?_ (Steps'.cons ?_ (Steps'.cons ?_ (Steps'.cons ?_ (Steps'.cons ?_ (Steps'.cons ?_ (Steps'.cons ?_ (Steps'.cons ?_ (Steps'.cons ?_ (Steps'.one _ _ _ _ _ _ _)))))))))))
    · intro ax wx hb hs hd
      have h9 : ax.tmps.getD 9 undef = (.pointer (some ⟨w2.heap.size, 0, none⟩)) := hs 9 (by kernel_rfl)
      exact Does.load 46 (.tmp 9) rfl w2.heap.size 0 h9 (u8s tg) _ (HS.out _ hb).1 Try.underlying46 rfl u2
    · intro ax wx hb hs hd
      have h0 : ax.tmps.getD 0 undef = (.pointer (some ⟨P, 0, none⟩)) := hs 0 (by kernel_rfl)
      refine Does.value (.pointer (some ⟨P, 0, none⟩)) ?_ rfl
      clear hs hd
      go_simp
    · intro ax wx hb hs hd
      have h98 : ax.tmps.getD 98 undef = (.pointer (some ⟨P, 0, none⟩)) := hd 1 98 rfl (by kernel_rfl) (by decide)
      refine Does.value (.pointer (some ⟨P, 0, none⟩)) ?_ rfl
      clear hs hd
      go_simp
    · intro ax wx hb hs hd
      have h99 : ax.tmps.getD 99 undef = (.pointer (some ⟨P, 0, none⟩)) := hd 2 99 rfl (by kernel_rfl) (by decide)
      refine Does.value (.pointer (some ⟨P, 1, none⟩)) ?_ rfl
      clear hs hd
      go_simp
    · intro ax wx hb hs hd
      have h100 : ax.tmps.getD 100 undef = (.pointer (some ⟨P, 1, none⟩)) := hd 3 100 rfl (by kernel_rfl) (by decide)
      exact Does.load 27 (.tmp 100) rfl P 1 h100 (u8s key) _ (HS.out _ hb).2.1 Try.underlying27 rfl u3
    · intro ax wx hb hs hd
      have h0 : ax.tmps.getD 0 undef = (.pointer (some ⟨P, 0, none⟩)) := hs 0 (by kernel_rfl)
      refine Does.value (.pointer (some ⟨P, 0, none⟩)) ?_ rfl
      clear hs hd
      go_simp
    · intro ax wx hb hs hd
      have h102 : ax.tmps.getD 102 undef = (.pointer (some ⟨P, 0, none⟩)) := hd 5 102 rfl (by kernel_rfl) (by decide)
      refine Does.value (.pointer (some ⟨P, 0, none⟩)) ?_ rfl
      clear hs hd
      go_simp
    · intro ax wx hb hs hd
      have h103 : ax.tmps.getD 103 undef = (.pointer (some ⟨P, 0, none⟩)) := hd 6 103 rfl (by kernel_rfl) (by decide)
      refine Does.value (.pointer (some ⟨P, 33, none⟩)) ?_ rfl
      clear hs hd
      go_simp
    · intro ax wx hb hs hd
      have h104 : ax.tmps.getD 104 undef = (.pointer (some ⟨P, 33, none⟩)) := hd 7 104 rfl (by kernel_rfl) (by decide)
      have hc := (HS.out _ hb).2.2
      refine Does.value (.slice so m.length pc) ?_ rfl
      clear hs hd
      go_simp
    · intro ax wx hb hs hd
      have h101 : ax.tmps.getD 101 undef = (.agg (u8s key).toArray) := hd 4 101 rfl (by kernel_rfl) (by decide)
      have h105 : ax.tmps.getD 105 undef = (.slice so m.length pc) := hd 8 105 rfl (by kernel_rfl) (by decide)
      refine Does.call 12 #[.agg (u8s key).toArray, .slice so m.length pc] (by clear hs hd; go_simp) ?_
      refine (rtsum_any key HP.out.klen HP.out.kb so m.length pc m wx (HA.out.later hb (Nat.le_refl _))).mono ?_
      rintro e w5 ⟨rfl, l5⟩
      rw [HT.out.1]
      exact ⟨_, rfl, rfl, l5⟩
    · intro ax wx hb hs hd
      have h97 : ax.tmps.getD 97 undef = (.agg (u8s tg).toArray) := hd 0 97 rfl (by kernel_rfl) (by decide)
      have h106 : ax.tmps.getD 106 undef = (.agg (u8s tg).toArray) := hd 9 106 rfl (by kernel_rfl) (by decide)
      refine Does.value (.bool true) ?_ rfl
      clear hs hd
      go_simp
  · intro wx hb
    refine @Ends.val _ _ _ _ _ _ _ _ _ (.agg (u8s tg).toArray) rfl ?_
    refine @Ends.val _ _ _ _ _ _ _ _ _ (.pointer (some ⟨P, 0, none⟩)) rfl ?_
    refine @Ends.val _ _ _ _ _ _ _ _ _ (.pointer (some ⟨P, 0, none⟩)) rfl ?_
    refine @Ends.val _ _ _ _ _ _ _ _ _ (.pointer (some ⟨P, 1, none⟩)) rfl ?_
    refine @Ends.val _ _ _ _ _ _ _ _ _ (.agg (u8s key).toArray) rfl ?_
    refine @Ends.val _ _ _ _ _ _ _ _ _ (.pointer (some ⟨P, 0, none⟩)) rfl ?_
    refine @Ends.val _ _ _ _ _ _ _ _ _ (.pointer (some ⟨P, 0, none⟩)) rfl ?_
    refine @Ends.val _ _ _ _ _ _ _ _ _ (.pointer (some ⟨P, 33, none⟩)) rfl ?_
    refine @Ends.val _ _ _ _ _ _ _ _ _ (.slice so m.length pc) rfl ?_
    refine @Ends.val _ _ _ _ _ _ _ _ _ (.agg (u8s tg).toArray) rfl ?_
    refine @Ends.val _ _ _ _ _ _ _ _ _ (.bool true) rfl ?_
    refine @Ends.one _ _ _ _ _ _ _ ?_
    simp only [Act.put, List.setIfInBounds_toArray, List.set_cons_zero, List.set_cons_succ]
    refine last_assign (.tmp 107) rfl (some 4) rfl (.bool true) rfl ?_
    have G5 : Hid (Below w4.heap.size w4 wx) := hb
    clear hb
    simp only [Act.put, List.setIfInBounds_toArray, List.set_cons_zero, List.set_cons_succ]
    go_wp2
    go_ret
    exact ⟨rfl, ⟨h, key, so, pc, PP.out.1.grow G5.out, .inl rfl⟩, Kept.new _ (below_chain PP.out.2 G5.out PP.out.2.size)⟩
theorem infoErrno : (Try.prog.info? 42).map (·.comparable) = some true := by kernel_rfl
set_option maxRecDepth 20000 in
set_option maxHeartbeats 2000000 in
theorem stepped_1n (a : Int) (bo : Option Addr) (c : Nat) (zs ky : List Int) (P h : Nat) (key : List Int) (so : Option Addr) (pc : Nat) (w : World) (hp : PairAt w P h key so pc (none)) (hx : Seen w bo zs.length zs) (hc : zs.length ≤ c) (hz : zs.length ≤ 1048576) (hky : ky.length = 32) (hne : P ≠ h) :
    Calls Try.prog 4 #[.pointer (some ⟨P, 0, none⟩), .agg (opV 1 a bo zs.length c ky).toArray] w fun e w' => e = .returned (.bool true) ∧ Stepped w w' P h (stepF 1 (none) zs) := by
  have HP : Hid (PairAt w P h key so pc (none)) := hp
  have HX : Hid (Seen w bo zs.length zs ∧ zs.length ≤ c ∧ ky.length = 32) := ⟨hx, hc, hky⟩
  clear hp hx hc hky
  go_enter Try.func4, Try.ntmps4
  have hie : ∀ wx, (binOp .eql 39 (.iface 42 (.int .i64 1)) (.iface 42 (.int .i64 1))).run Try.prog wx = .ok (.bool true) wx := fun wx => Go.Lib.run_eql_iface_int wx 1 1 Try.underlying39 infoErrno Try.underlying42
  go_wp2_with (first | (refine wpList_box_new rfl 33 _ rfl (opV 1 a bo zs.length c ky) rfl ?_; intro w1 b1 s1 l1; have cK : w1.cell? ⟨w.heap.size, 0, none⟩ = some (.int .i64 1) := b1.cell 0; have cB : w1.cell? ⟨w.heap.size, 2, none⟩ = some (.slice bo zs.length c) := b1.cell 2; have p1 := HP.out.grow l1; have d0 := p1.blk.cell 0; have d1 := p1.blk.cell 33; have d2 := p1.blk.cell 34; simp only [pairC, pc33 HP.out.klen, pc34 HP.out.klen, pcC, List.getElem?_cons_zero] at d0; simp only [pairC, pc33 HP.out.klen] at d1; simp only [pairC, pc34 HP.out.klen] at d2) | (go_at_call 7; refine (spare_any bo zs.length c zs _ (HX.out.1.later l1 (Nat.le_refl _)) (by omega)).mono ?_; rintro e w2 ⟨rfl, b2, s2, l2⟩; rw [s1] at b2; have p2 := p1.grow l2; have g0 := p2.blk.cell 0; have g2 := p2.blk.cell 34; simp only [pairC, pcC, List.getElem?_cons_zero] at g0; simp only [pairC, pc34 HP.out.klen] at g2; have cB2 : w2.cell? ⟨w.heap.size, 2, none⟩ = some (.slice bo zs.length c) := (b1.later l2 b1.lt).cell 2) | (go_at_call 8; refine (write_nil _ _ _ _).mono ?_; rintro e w3 ⟨rfl, rfl⟩) | (go_at_call 9; refine (kept_yes _ bo zs.length c zs _ b2 ((HX.out.1.later l1 (Nat.le_refl _)).later l2 (Nat.le_refl _)) (by omega)).mono ?_; rintro e w4 ⟨rfl, q, rfl⟩))
  go_ret
  exact ⟨rfl, ⟨h, key, so, pc, p2.drewN q, .inl rfl⟩, (Kept.new _ (below_chain l1 l2 l1.size)).drewN q⟩
end Go.Proofs.Ytlaegbabpiepeaa
