/- Layer codec: Reader.Bytes at a place; bytes.Equal of the same bytes; ParseDial, ParseReply of what was laid. -/
import Derived.Test.YtmgkjldjeomcmaaDoorCcPut
import Derived.Shelf.Bytes.SlSmallAll
namespace Go.Proofs.YtmgkjldjeomcmaaDoor
open Go.RowKit
set_option linter.unusedVariables false
set_option linter.unusedSimpArgs false


/-- So many bytes taken out of a reader. -/
theorem rb_in (r : Nat) (ao : Option Addr) (c : Nat) (zs : List Int) (p m : Nat) (hp : p + m ≤ zs.length) (hm : m ≤ 1000000) (w : World) (h : Rd w r ao c zs p 0) :
    Calls Tryd.prog 61 #[.pointer (some ⟨r, 0, none⟩), .int .i64 m] w fun e w' => ∃ vo, e = .returned (.slice vo m m) ∧ Seen w' vo m ((zs.drop p).take m) ∧ (vo = none → m = 0) ∧ (∀ b o, vo = some ⟨b, o, none⟩ → w.heap.size ≤ b) ∧ (∀ a, vo = some a → a = ⟨a.block, 0, none⟩) ∧ Rd w' r ao c zs (p + m) 0 ∧ Kept (fun k => k = r) w w' := by
  obtain ⟨e1, e2, e3⟩ := @nx_ok zs p m hp
  have hl : ((zs.drop p).take m).length = m := by simp; omega
  have hb := bytes_take (bytes_drop h.hb p) m
  refine (rdbytes_any r ao c zs p 0 m (by omega) w h).mono ?_
  rintro e w' ⟨vo, cv, rfl, ho, rd, kp⟩
  rw [e1, hl] at ho
  rw [e2, e3] at rd
  rw [e1, hl]
  generalize (zs.drop p).take m = L at *
  rcases ho.2 with ⟨h1, h0⟩ | ⟨g, cap, cur, h1, hg, hh, hc, _⟩
  · cases h1
    exact ⟨none, rfl, ⟨hl, by decide, hb, fun h => by omega⟩, fun _ => rfl, (fun _ _ h => by cases h), (fun _ h => by cases h), rd, kp⟩
  · cases h1
    refine ⟨some ⟨g, 0, none⟩, rfl, ⟨hl, by omega, hb, fun _ => ⟨g, 0, rfl, lt_of_block hh, fun i hi => ?_⟩⟩, (fun h => by cases h), (fun b o h => by cases h; exact hg), (fun a h => by cases h; rfl), rd, kp⟩
    rw [Nat.zero_add, ho.cellAt i (by omega)]
    simp [List.getD, hl ▸ hi]
theorem conv_seen (ao : Option Addr) (n c : Nat) (zs : List Int) (w : World) (h : Seen w ao n zs) : (Go.convert 24 9 (.slice ao n c)).run Tryd.prog w = .ok (.string (strOfNums zs)) w := by
  rcases Nat.eq_zero_or_pos n with rfl | h0
  · obtain rfl : zs = [] := List.length_eq_zero_iff.1 h.len
    exact run_convert_bytes_zero w 24 5 Tryd.underlying24 Tryd.underlying5 ao c 9 Tryd.underlying9
  · obtain ⟨b, o, rfl, _, hc⟩ := h.cells h0
    exact run_convert_bytes_arg w 24 5 Tryd.underlying24 Tryd.underlying5 b o n c zs h.len hc 9 Tryd.underlying9
set_option maxRecDepth 20000 in
theorem equal_same (ao bo : Option Addr) (n c m d : Nat) (zs : List Int) (w : World) (hx : Seen w ao n zs) (hy : Seen w bo m zs) :
    Calls Tryd.prog 64 #[.slice ao n c, .slice bo m d] w fun e w' => e = .returned (.bool true) ∧ w = w' := by
  have c1 := conv_seen ao n c zs w hx
  have c2 := conv_seen bo m d zs w hy
  generalize strOfNums zs = T at *
  clear hx hy
  go_enter Tryd.func64, Tryd.ntmps64
  go_wp2
  go_ret
  exact ⟨by simp, rfl⟩
set_option maxRecDepth 20000 in
set_option maxHeartbeats 2000000 in
theorem parseDial_ok (c : Cg) (hok : c.ok = true) (ao : Option Addr) (cap : Nat) (zs : List Int) (w : World) (hx : Seen w ao 92 zs) (hin : inB (num4 zs 0) 0 (c.bk - 1) = true) :
    Calls Tryd.prog 31 #[c.v, .slice ao 92 cap] w fun e w' => ∃ vo, e = .returned (.tuple #[.int .i64 (num4 zs 0), .slice vo 88 88, .int .i64 0]) ∧ Seen w' vo 88 (zs.drop 4) ∧ Below w.heap.size w w' := by
  have hl : zs.length = 92 := hx.len
  have hf := ok_fields hok
  have HQ : Hid (∀ W, Seen W ao 92 zs → Calls Tryd.prog 60 #[.agg c.cs.toArray, .int .i64 2, .slice ao 92 cap] W fun e w' => ∃ r ao' c', e = .returned (.tuple #[.pointer (some ⟨r, 0, none⟩), .int .i64 0]) ∧ Rd w' r ao' c' zs 0 0 ∧ W.heap.size ≤ r ∧ (∀ g, ao' = some ⟨g, 0, none⟩ → W.heap.size ≤ g) ∧ Below W.heap.size W w') := fun W h => requestOf_yes c 2 ao 92 cap zs (by simp [szE, hok]) (by simp [szQ, hok]) W h
  have HI : Hid (∀ W, Calls Tryd.prog 52 #[.int .i64 (num4 zs 0), .int .i64 0, .int .i64 (c.bk - 1)] W fun e w' => e = .returned (.bool true) ∧ W = w') := fun W => hin ▸ within_any _ _ _ W
  have w1 : wrap64 (c.bk - 1) = c.bk - 1 := by simp [wrap64]; omega
  have HX : Hid (Seen w ao 92 zs ∧ zs.length = 92) := ⟨hx, hl⟩
  have HT : Hid ((zs.drop 4).take 88 = zs.drop 4) := List.take_of_length_le (by simp; omega)
  obtain ⟨N, hN⟩ : ∃ N, num4 zs 0 = N := ⟨_, rfl⟩
  have HN : Hid (num4 zs 0 = N) := hN
  rw [hN] at HI ⊢
  clear hok hf hin hx hl hN
  go_enter Tryd.func31, Tryd.ntmps31
  go_wp2_with (first | ((with_reducible show wpList _ _ _ (({ dst := some 2, op := _, type := _, pos := _, after := _, guard := _ } : Oper) :: _) _ _); refine wpList_box_new rfl 23 _ rfl c.cs rfl ?_; intro w1 b1 s1 l1; have z1 : Hid (w1.heap.size = w.heap.size + 1) := s1; clear s1) | ((with_reducible show wpList _ _ _ (({ dst := some 11, op := _, type := _, pos := _, after := _, guard := _ } : Oper) :: _) _ _); refine wpList_load_blk rfl 23 (.tmp 2) rfl _ rfl c.cs _ (b1) Tryd.underlying23 rfl (cg_size c) ?_))
  refine (HQ.out w1 (HX.out.1.later l1 (Nat.le_refl _))).mono ?_
  rintro e w2 ⟨r, ro, rc, rfl, rd, hr, hg, l2⟩
  have c2 : w2.cell? ⟨w.heap.size, 2, none⟩ = some (.int .i64 c.bk) := by
    have B : Blk w2 w.heap.size 23 c.cs := b1.later l2 (by have := z1.out; omega)
    rw [B.cell]; rfl
  have D2 : Hid (Rd w2 r ro rc zs 0 0 ∧ Below w.heap.size w w2 ∧ w.heap.size < r ∧ w.heap.size < w2.heap.size) := (by have q := z1.out; have q2 := l2.size; exact ⟨rd, below_chain l1 l2 (by omega), by omega, by omega⟩)
  clear b1 l1 l2 rd hr hg HQ
  have HNu := number_in r ro rc zs 0 (by rw [HX.out.2]; decide) w2 D2.out.1
  rw [HN.out] at HNu
  go_wp2_with (first | (go_at_call 65; refine HNu.mono ?_; rintro e w3 ⟨rfl, rd, kp⟩; have c3 : w3.cell? ⟨w.heap.size, 2, none⟩ = some (.int .i64 c.bk) := (kp.cell (p := ⟨w.heap.size, 2, none⟩) D2.out.2.2.2 (by have := D2.out.2.2.1; show ¬ w.heap.size = r; omega)).trans c2; have D3 : Hid (Rd w3 r ro rc zs 4 0 ∧ Below w.heap.size w w3 ∧ w.heap.size < r ∧ w.heap.size ≤ w3.heap.size) := (by have q := D2.out.2.2.2; have q3 := kp.size; exact ⟨rd, below_kept D2.out.2.1 kp (by omega) (fun j hj => by have := D2.out.2.2.1; omega), D2.out.2.2.1, by omega⟩); have HB := rb_in r ro rc zs 4 88 (by rw [HX.out.2]; decide) (by decide) w3 D3.out.1; clear rd kp c2 HNu D2) | (go_at_call 52; refine (HI.out _).mono ?_; rintro e _ ⟨rfl, rfl⟩) | (go_at_call 61; refine HB.mono ?_; rintro e w4 ⟨vo, rfl, s4, _, _, _, _, k4⟩))
  rw [HT.out] at s4
  have F4 : Hid (Seen w4 vo 88 (zs.drop 4) ∧ Below w.heap.size w w4) := ⟨s4, below_kept D3.out.2.1 k4 D3.out.2.2.2 (fun j hj => by have := D3.out.2.2.1; omega)⟩
  clear s4 k4
  go_wp2
  go_ret3
  exact ⟨vo, rfl, F4.out⟩
set_option maxRecDepth 20000 in
set_option maxHeartbeats 2000000 in
theorem parseReply_ok (c : Cg) (hok : c.ok = true) (b : Bool) (ao : Option Addr) (n cap : Nat) (zs : List Int) (hn : (n : Int) = 1 + c.ms) (w : World) (hx : Seen w ao n zs) (hb : zs.getD 0 0 = if b then 1 else 0)
    (hrt : (if b then [1] ++ zs.drop 1 else List.replicate n 0) = zs) :
    Calls Tryd.prog 27 #[c.v, .slice ao n cap] w fun e w' => ∃ vo m, e = .returned (.tuple #[.bool b, .slice vo m m, .int .i64 0]) ∧ (m : Int) = c.ms ∧ Seen w' vo m (zs.drop 1) ∧ Below w.heap.size w w' := by
  have hl : zs.length = n := hx.len
  have hf := ok_fields hok
  obtain ⟨m, hm⟩ : ∃ m : Nat, c.ms = (m : Int) := ⟨c.ms.toNat, by omega⟩
  have hnm : n = m + 1 := by omega
  subst hnm
  have HQ : Hid (∀ W, Calls Tryd.prog 15 #[.agg c.cs.toArray, .int .i64 1] W fun e w' => e = .returned (.tuple #[.int .i64 ((m + 1 : Nat) : Int), .int .i64 0]) ∧ Below W.heap.size W w') := fun W => by
    have := replySize_any c 1 W
    rw [show szP c 1 = ((m + 1 : Nat) : Int) by simp [szP, hok]; omega, show szE c 1 = 0 by simp [szE, hok]] at this
    exact this
  have HRp : Hid (∀ W, Seen W ao (m + 1) zs → Calls Tryd.prog 62 #[.slice ao (m + 1) cap, .int .i64 ((m + 1 : Nat) : Int)] W fun e w' => ∃ r ao' c', e = .returned (.tuple #[.pointer (some ⟨r, 0, none⟩), .int .i64 0]) ∧ Rd w' r ao' c' zs 0 0 ∧ W.heap.size ≤ r ∧ (∀ g, ao' = some ⟨g, 0, none⟩ → W.heap.size ≤ g) ∧ Below W.heap.size W w') := fun W h => readerOf_yes ao (m + 1) cap zs W h
  have HTR : Hid (∀ (W : World) (vo : Option Addr), Seen W vo m (zs.drop 1) → (vo = none → m = 0) → Calls Tryd.prog 23 #[.agg c.cs.toArray, .bool b, .slice vo m m] W fun e w' => ∃ uo k uc, e = .returned (.tuple #[.slice uo k uc, .int .i64 0]) ∧ Seen w' uo k zs ∧ Below W.heap.size W w') := fun W vo hs hv => by
    cases b with
    | true =>
      refine (talkReply_yes c vo m m (zs.drop 1) hm.symm hok W hs hv).mono ?_
      rintro e w' ⟨uo, uc, rfl, ho, hbl⟩
      simp only [if_true] at hrt
      rw [hrt] at ho
      rw [show ([1] ++ zs.drop 1 : List Int) = zs from hrt]
      obtain ⟨qo, qc, e, hs2, _⟩ := own_seen8 ho rfl hx.bytes (by rw [hl]; omega)
      cases e
      exact ⟨_, _, _, rfl, hs2, hbl⟩
    | false =>
      refine (talkReply_not c vo m m (zs.drop 1) hm.symm hok W hs hv).mono ?_
      rintro e w' ⟨uo, uc, rfl, ho, hbl⟩
      simp only [if_false, Bool.false_eq_true] at hrt
      have e1 : List.replicate (1 + m) (0 : Int) = zs := by rw [Nat.add_comm]; exact hrt
      rw [e1] at ho
      rw [e1]
      obtain ⟨qo, qc, e, hs2, _⟩ := own_seen8 ho rfl hx.bytes (by rw [hl]; omega)
      cases e
      exact ⟨_, _, _, rfl, hs2, hbl⟩
  have HX : Hid (Seen w ao (m + 1) zs ∧ zs.length = m + 1 ∧ m ≤ 512) := ⟨hx, hl, by omega⟩
  have HT : Hid ((zs.drop 1).take m = zs.drop 1) := List.take_of_length_le (by simp; omega)
  have HU : Hid (leV 1 ((zs.drop 0).take 1).length ((zs.drop 0).take 1) = if b then 1 else 0) := by
    show _ = _
    rw [← hb]
    obtain ⟨z, rest, rfl⟩ : ∃ z rest, zs = z :: rest := by
      cases zs with
      | nil => simp at hl
      | cons z rest => exact ⟨z, rest, rfl⟩
    simp [leV, le]
  have HM : Hid (c.cs = [.int .i64 c.bt, .int .i64 (m : Int), .int .i64 c.bk, .int .i64 c.tx, .int .i64 c.wi, .int .i64 c.wk]) := by show _ = _; unfold Cg.cs; rw [hm]
  rw [hm]
  clear hok hf hx hl hn hb hrt hm
  go_enter Tryd.func27, Tryd.ntmps27
  go_wp2_with (first | ((with_reducible show wpList _ _ _ (({ dst := some 2, op := _, type := _, pos := _, after := _, guard := _ } : Oper) :: _) _ _); refine wpList_box_new rfl 23 _ rfl c.cs rfl ?_; intro w1 b1 s1 l1; have z1 : Hid (w1.heap.size = w.heap.size + 1) := s1; clear s1) | ((with_reducible show wpList _ _ _ (({ dst := some 14, op := _, type := _, pos := _, after := _, guard := _ } : Oper) :: _) _ _); refine wpList_load_blk rfl 23 (.tmp 2) rfl _ rfl c.cs _ (b1) Tryd.underlying23 rfl (cg_size c) ?_))
  refine (HQ.out _).mono ?_
  rintro e w2 ⟨rfl, l2⟩
  have D2 : Hid (Blk w2 w.heap.size 23 c.cs ∧ Below w.heap.size w w2 ∧ w.heap.size < w2.heap.size) := (by have q := z1.out; have q2 := l2.size; exact ⟨b1.later l2 (by omega), below_chain l1 l2 (by omega), by omega⟩)
  clear b1 l1 l2 HQ
  go_wp2_with fail
  refine (HRp.out w2 (HX.out.1.later D2.out.2.1 (Nat.le_refl _))).mono ?_
  rintro e w3 ⟨r, ro, rc, rfl, rd, hr, hg, l3⟩
  have D3 : Hid (Rd w3 r ro rc zs 0 0 ∧ Blk w3 w.heap.size 23 c.cs ∧ Below w.heap.size w w3 ∧ w.heap.size < r ∧ w.heap.size < w3.heap.size) := (by have q := D2.out.2.2; have q2 := l3.size; exact ⟨rd, D2.out.1.later l3 D2.out.1.lt, below_chain D2.out.2.1 l3 (by omega), by omega, by omega⟩)
  have H8 := ru_8 r ro rc zs 0 0 w3 rd
  obtain ⟨e1, e2, e3⟩ := @nx_ok zs 0 1 (by rw [HX.out.2.1]; omega)
  have e4 : ((1 : Nat) : Int) = 1 := rfl
  rw [e4] at e1 e2 e3
  obtain ⟨V, hV⟩ : ∃ V : Int, (if b = true then (1 : Int) else 0) = V := ⟨_, rfl⟩
  have hV1 : (V == 1) = b := by rw [← hV]; cases b <;> rfl
  rw [e1, e2, e3, HU.out, hV] at H8
  clear hV
  clear l3 rd hr hg D2 HRp e1 e2 e3 e4
  go_wp2_with fail
  refine H8.mono ?_
  rintro e w4 ⟨rfl, rd, kp⟩
  have D4 : Hid (Rd w4 r ro rc zs 1 0 ∧ Blk w4 w.heap.size 23 c.cs ∧ Below w.heap.size w w4 ∧ w.heap.size < r ∧ w.heap.size < w4.heap.size) := (by have q := D3.out.2.2.2.2; have q3 := kp.size; have q4 := D3.out.2.2.2.1; exact ⟨rd, D3.out.2.1.kept kp (by omega), below_kept D3.out.2.2.1 kp (by omega) (fun j hj => by omega), q4, by omega⟩)
  have cm : w4.cell? ⟨w.heap.size, 1, none⟩ = some (.int .i64 (m : Int)) := by rw [D4.out.2.1.cell, HM.out]; rfl
  have HB := rb_in r ro rc zs 1 m (by rw [HX.out.2.1]; omega) (by have := HX.out.2.2; omega) w4 D4.out.1
  clear rd kp D3 H8
  go_wp2_with (first | (go_at_call 61; refine HB.mono ?_; rintro e w5 ⟨vo, rfl, s5, hv5, _, _, _, k5⟩; rw [HT.out] at s5; have D5 : Hid (Seen w5 vo m (zs.drop 1) ∧ (vo = none → m = 0) ∧ Blk w5 w.heap.size 23 c.cs ∧ Below w.heap.size w w5 ∧ w.heap.size < w5.heap.size) := (by have q := D4.out.2.2.2.2; have q3 := k5.size; have q4 := D4.out.2.2.2.1; exact ⟨s5, hv5, D4.out.2.1.kept k5 (by omega), below_kept D4.out.2.2.1 k5 (by omega) (fun j hj => by omega), by omega⟩); clear s5 hv5 k5 D4 cm HB) | ((with_reducible show wpList _ _ _ (({ dst := some 38, op := _, type := _, pos := _, after := _, guard := _ } : Oper) :: _) _ _); refine wpList_load_blk rfl 23 (.tmp 2) rfl _ rfl c.cs _ D5.out.2.2.1 Tryd.underlying23 rfl (cg_size c) ?_) | (go_at_call 23; refine (HTR.out w5 vo D5.out.1 D5.out.2.1).mono ?_; rintro e w6 ⟨uo, k, uc, rfl, s6, l6⟩; have D6 : Hid (Seen w6 vo m (zs.drop 1) ∧ Seen w6 uo k zs ∧ Seen w6 ao (m + 1) zs ∧ Below w.heap.size w w6) := (by have q := D5.out.2.2.2.2; have b6 := below_chain D5.out.2.2.2.1 l6 (by omega); exact ⟨D5.out.1.later l6 (Nat.le_refl _), s6, HX.out.1.later b6 (Nat.le_refl _), b6⟩); clear s6 l6 D5) | (go_at_call 64; refine (equal_same uo ao k uc (m + 1) cap zs w6 D6.out.2.1 D6.out.2.2.1).mono ?_; rintro e _ ⟨rfl, rfl⟩))
  go_ret3
  exact ⟨vo, m, rfl, rfl, D6.out.1, D6.out.2.2.2⟩
end Go.Proofs.YtmgkjldjeomcmaaDoor
