/- Layer codec: the ways on which ParseTalk, ParseDial, ParseReply answer an error. -/
import Derived.Test.YtmgkjldjeomcmaaDoorCcPTalk
import Derived.Lib.Bytes
namespace Go.Proofs.YtmgkjldjeomcmaaDoor
open Go.RowKit
set_option linter.unusedVariables false
set_option linter.unusedSimpArgs false

/-- What a request is refused with, before it is read. -/
def reqE (c : Cg) (k : Int) (n : Nat) : Int := if szE c k = 0 then if (n : Int) = szQ c k then 0 else 4 else szE c k
theorem requestOf_no (c : Cg) (k : Int) (ao : Option Addr) (n cap : Nat) (E : Int) (h : reqE c k n = E) (hE : E ≠ 0) (w : World) :
    Calls Tryd.prog 60 #[c.v, .int .i64 k, .slice ao n cap] w fun e w' => e = .returned (.tuple #[.pointer none, .int .i64 E]) ∧ Below w.heap.size w w' := by
  unfold reqE at h
  by_cases h0 : szE c k = 0
  · rw [if_pos h0] at h
    by_cases h1 : (n : Int) = szQ c k
    · rw [if_pos h1] at h; exact absurd h.symm hE
    · rw [if_neg h1] at h; subst h; exact requestOf_len c k ao n cap h0 h1 w
  · rw [if_neg h0] at h; subst h; exact requestOf_err c k ao n cap h0 w
set_option maxRecDepth 20000 in
set_option maxHeartbeats 1000000 in
theorem parseTalk_no (c : Cg) (ao : Option Addr) (n cap : Nat) (E : Int) (h : reqE c 1 n = E) (hE : E ≠ 0) (w : World) :
    Calls Tryd.prog 25 #[c.v, .slice ao n cap] w fun e w' => e = .returned (.tuple #[.agg (u8s (zer 16)).toArray, .slice none 0 0, .int .i64 E]) ∧ Below w.heap.size w w' := by
  have HQ : Hid (∀ W, Calls Tryd.prog 60 #[.agg c.cs.toArray, .int .i64 1, .slice ao n cap] W fun e w' => e = .returned (.tuple #[.pointer none, .int .i64 E]) ∧ Below W.heap.size W w') := fun W => requestOf_no c 1 ao n cap E h hE W
  have n1 : (E != 0) = true := by simpa using hE
  clear h hE
  go_enter Tryd.func25, Tryd.ntmps25
  go_wp2_with (first | ((with_reducible show wpList _ _ _ (({ dst := some 2, op := _, type := _, pos := _, after := _, guard := _ } : Oper) :: _) _ _); refine wpList_box_new rfl 23 _ rfl c.cs rfl ?_; intro w1 b1 s1 l1; have z1 : Hid (w1.heap.size = w.heap.size + 1) := s1; clear s1) | ((with_reducible show wpList _ _ _ (({ dst := some 4, op := _, type := _, pos := _, after := _, guard := _ } : Oper) :: _) _ _); refine wpList_alloc_new rfl 35 rfl 16 _ zero_Drop ?_; intro w2 b2 s2 l2; have z2 : Hid (w2.heap.size = w1.heap.size + 1) := s2; clear s2) | ((with_reducible show wpList _ _ _ (({ dst := some 11, op := _, type := _, pos := _, after := _, guard := _ } : Oper) :: _) _ _); refine wpList_load_blk rfl 23 (.tmp 2) rfl _ rfl c.cs _ (b1.later l2 (by have := z1.out; omega)) Tryd.underlying23 rfl (cg_size c) ?_))
  refine (HQ.out w2).mono ?_
  rintro e w3 ⟨rfl, l3⟩
  have D3 : Hid (Blk w3 w1.heap.size 35 (u8s (zer 16)) ∧ Below w.heap.size w w3 ∧ w.heap.size < w1.heap.size ∧ w1.heap.size < w3.heap.size) := (by have q1 := z1.out; have q2 := z2.out; have q3 := l3.size; exact ⟨b2.later l3 (by omega), below_chain (below_chain l1 l2 (by omega)) l3 (by omega), by omega, by omega⟩)
  clear b1 b2 l1 l2 l3 HQ
  go_wp2_with (first | (refine wpList_store_blk rfl 35 35 (.tmp 4) (.tmp 18) rfl _ rfl _ (u8s (zer 16)) rfl D3.out.1 rfl (by rw [u8s_length]; exact size_Drop) (u8s_one _) ?_; intro w4 b4 s4 k4; have z4 : Hid (w4.heap.size = w3.heap.size) := s4; clear s4))
  exact ret_btt rfl w1.heap.size (u8s (zer 16)) _ _ _ rfl rfl rfl b4 Tryd.underlying35 rfl (by rw [u8s_length]; exact size_Drop) rfl ⟨rfl, below_kept D3.out.2.1 k4 (by have := D3.out.2.2; omega) (fun j hj => by have := D3.out.2.2; omega)⟩
set_option maxRecDepth 20000 in
set_option maxHeartbeats 1000000 in
theorem parseDial_no (c : Cg) (ao : Option Addr) (n cap : Nat) (E : Int) (h : reqE c 2 n = E) (hE : E ≠ 0) (w : World) :
    Calls Tryd.prog 31 #[c.v, .slice ao n cap] w fun e w' => e = .returned (.tuple #[.int .i64 0, .slice none 0 0, .int .i64 E]) ∧ Below w.heap.size w w' := by
  have HQ : Hid (∀ W, Calls Tryd.prog 60 #[.agg c.cs.toArray, .int .i64 2, .slice ao n cap] W fun e w' => e = .returned (.tuple #[.pointer none, .int .i64 E]) ∧ Below W.heap.size W w') := fun W => requestOf_no c 2 ao n cap E h hE W
  have n1 : (E != 0) = true := by simpa using hE
  clear h hE
  go_enter Tryd.func31, Tryd.ntmps31
  go_wp2_with (first | ((with_reducible show wpList _ _ _ (({ dst := some 2, op := _, type := _, pos := _, after := _, guard := _ } : Oper) :: _) _ _); refine wpList_box_new rfl 23 _ rfl c.cs rfl ?_; intro w1 b1 s1 l1; have z1 : Hid (w1.heap.size = w.heap.size + 1) := s1; clear s1) | ((with_reducible show wpList _ _ _ (({ dst := some 11, op := _, type := _, pos := _, after := _, guard := _ } : Oper) :: _) _ _); refine wpList_load_blk rfl 23 (.tmp 2) rfl _ rfl c.cs _ b1 Tryd.underlying23 rfl (cg_size c) ?_))
  refine (HQ.out w1).mono ?_
  rintro e w2 ⟨rfl, l2⟩
  have D : Hid (Below w.heap.size w w2) := below_chain l1 l2 (by have := z1.out; omega)
  clear b1 l1 l2 HQ
  go_wp2_with fail
  go_ret3
  exact ⟨rfl, D.out⟩
set_option maxRecDepth 20000 in
set_option maxHeartbeats 2000000 in
theorem parseDial_bucket (c : Cg) (hok : c.ok = true) (ao : Option Addr) (cap : Nat) (zs : List Int) (w : World) (hx : Seen w ao 92 zs) (hin : inB (num4 zs 0) 0 (c.bk - 1) = false) :
    Calls Tryd.prog 31 #[c.v, .slice ao 92 cap] w fun e w' => e = .returned (.tuple #[.int .i64 0, .slice none 0 0, .int .i64 201]) ∧ Below w.heap.size w w' := by
  have hl : zs.length = 92 := hx.len
  have hf := ok_fields hok
  have HQ : Hid (∀ W, Seen W ao 92 zs → Calls Tryd.prog 60 #[.agg c.cs.toArray, .int .i64 2, .slice ao 92 cap] W fun e w' => ∃ r ao' c', e = .returned (.tuple #[.pointer (some ⟨r, 0, none⟩), .int .i64 0]) ∧ Rd w' r ao' c' zs 0 0 ∧ W.heap.size ≤ r ∧ (∀ g, ao' = some ⟨g, 0, none⟩ → W.heap.size ≤ g) ∧ Below W.heap.size W w') := fun W h => requestOf_yes c 2 ao 92 cap zs (by simp [szE, hok]) (by simp [szQ, hok]) W h
  have HI : Hid (∀ W, Calls Tryd.prog 52 #[.int .i64 (num4 zs 0), .int .i64 0, .int .i64 (c.bk - 1)] W fun e w' => e = .returned (.bool false) ∧ W = w') := fun W => hin ▸ within_any _ _ _ W
  have w1 : wrap64 (c.bk - 1) = c.bk - 1 := by simp [wrap64]; omega
  have HX : Hid (Seen w ao 92 zs ∧ zs.length = 92) := ⟨hx, hl⟩
  obtain ⟨N, hN⟩ : ∃ N, num4 zs 0 = N := ⟨_, rfl⟩
  have HN : Hid (num4 zs 0 = N) := hN
  rw [hN] at HI
  clear hok hf hin hx hl hN
  go_enter Tryd.func31, Tryd.ntmps31
  go_wp2_with (first | ((with_reducible show wpList _ _ _ (({ dst := some 2, op := _, type := _, pos := _, after := _, guard := _ } : Oper) :: _) _ _); refine wpList_box_new rfl 23 _ rfl c.cs rfl ?_; intro w1 b1 s1 l1; have z1 : Hid (w1.heap.size = w.heap.size + 1) := s1; clear s1) | ((with_reducible show wpList _ _ _ (({ dst := some 11, op := _, type := _, pos := _, after := _, guard := _ } : Oper) :: _) _ _); refine wpList_load_blk rfl 23 (.tmp 2) rfl _ rfl c.cs _ b1 Tryd.underlying23 rfl (cg_size c) ?_))
  refine (HQ.out w1 (HX.out.1.later l1 (Nat.le_refl _))).mono ?_
  rintro e w2 ⟨r, ro, rc, rfl, rd, hr, hg, l2⟩
  have c2 : w2.cell? ⟨w.heap.size, 2, none⟩ = some (.int .i64 c.bk) := by
    have B : Blk w2 w.heap.size 23 c.cs := b1.later l2 (by have := z1.out; omega)
    rw [B.cell]; rfl
  have D2 : Hid (Rd w2 r ro rc zs 0 0 ∧ Below w.heap.size w w2 ∧ w.heap.size < r ∧ w.heap.size < w2.heap.size) := (by have q := z1.out; have q2 := l2.size; exact ⟨rd, below_chain l1 l2 (by omega), by omega, by omega⟩)
  clear b1 l1 l2 rd hr hg HQ
  have HNu := number_in r ro rc zs 0 (by rw [HX.out.2]; decide) w2 D2.out.1
  rw [HN.out] at HNu
  go_wp2_with (first | (go_at_call 65; refine HNu.mono ?_; rintro e w3 ⟨rfl, rd, kp⟩; have c3 : w3.cell? ⟨w.heap.size, 2, none⟩ = some (.int .i64 c.bk) := (kp.cell (p := ⟨w.heap.size, 2, none⟩) D2.out.2.2.2 (by have := D2.out.2.2.1; show ¬ w.heap.size = r; omega)).trans c2; have D3 : Hid (Below w.heap.size w w3) := (by have q := D2.out.2.2.2; exact below_kept D2.out.2.1 kp (by omega) (fun j hj => by have := D2.out.2.2.1; omega)); clear rd kp c2 HNu D2) | (go_at_call 52; refine (HI.out _).mono ?_; rintro e _ ⟨rfl, rfl⟩))
  go_ret3
  exact ⟨rfl, D3.out⟩
set_option maxRecDepth 20000 in
set_option maxHeartbeats 1000000 in
theorem parseReply_bad (c : Cg) (hok : c.ok = false) (ao : Option Addr) (n cap : Nat) (w : World) :
    Calls Tryd.prog 27 #[c.v, .slice ao n cap] w fun e w' => e = .returned (.tuple #[.bool false, .slice none 0 0, .int .i64 200]) ∧ Below w.heap.size w w' := by
  have HQ : Hid (∀ W, Calls Tryd.prog 15 #[.agg c.cs.toArray, .int .i64 1] W fun e w' => e = .returned (.tuple #[.int .i64 0, .int .i64 200]) ∧ Below W.heap.size W w') := fun W => by
    have := replySize_any c 1 W
    rwa [show szP c 1 = 0 by simp [szP, hok], show szE c 1 = 200 by simp [szE, hok]] at this
  clear hok
  go_enter Tryd.func27, Tryd.ntmps27
  go_wp2_with (first | ((with_reducible show wpList _ _ _ (({ dst := some 2, op := _, type := _, pos := _, after := _, guard := _ } : Oper) :: _) _ _); refine wpList_box_new rfl 23 _ rfl c.cs rfl ?_; intro w1 b1 s1 l1; have z1 : Hid (w1.heap.size = w.heap.size + 1) := s1; clear s1) | ((with_reducible show wpList _ _ _ (({ dst := some 14, op := _, type := _, pos := _, after := _, guard := _ } : Oper) :: _) _ _); refine wpList_load_blk rfl 23 (.tmp 2) rfl _ rfl c.cs _ b1 Tryd.underlying23 rfl (cg_size c) ?_))
  refine (HQ.out _).mono ?_
  rintro e w2 ⟨rfl, l2⟩
  have D : Hid (Below w.heap.size w w2) := below_chain l1 l2 (by have := z1.out; omega)
  clear b1 l1 l2 HQ
  go_wp2_with fail
  go_ret3
  exact ⟨rfl, D.out⟩
set_option maxRecDepth 20000 in
set_option maxHeartbeats 1000000 in
theorem parseReply_len (c : Cg) (hok : c.ok = true) (ao : Option Addr) (n cap : Nat) (hn : ¬ (n : Int) = 1 + c.ms) (w : World) :
    Calls Tryd.prog 27 #[c.v, .slice ao n cap] w fun e w' => e = .returned (.tuple #[.bool false, .slice none 0 0, .int .i64 4]) ∧ Below w.heap.size w w' := by
  have HQ : Hid (∀ W, Calls Tryd.prog 15 #[.agg c.cs.toArray, .int .i64 1] W fun e w' => e = .returned (.tuple #[.int .i64 (1 + c.ms), .int .i64 0]) ∧ Below W.heap.size W w') := fun W => by
    have := replySize_any c 1 W
    rwa [show szP c 1 = 1 + c.ms by simp [szP, hok], show szE c 1 = 0 by simp [szE, hok]] at this
  have HR : Hid (∀ W, Calls Tryd.prog 62 #[.slice ao n cap, .int .i64 (1 + c.ms)] W fun e w' => e = .returned (.tuple #[.pointer none, .int .i64 4]) ∧ W = w') := fun W => readerOf_no ao n cap _ hn W
  generalize 1 + c.ms = M at *
  clear hok hn
  go_enter Tryd.func27, Tryd.ntmps27
  go_wp2_with (first | ((with_reducible show wpList _ _ _ (({ dst := some 2, op := _, type := _, pos := _, after := _, guard := _ } : Oper) :: _) _ _); refine wpList_box_new rfl 23 _ rfl c.cs rfl ?_; intro w1 b1 s1 l1; have z1 : Hid (w1.heap.size = w.heap.size + 1) := s1; clear s1) | ((with_reducible show wpList _ _ _ (({ dst := some 14, op := _, type := _, pos := _, after := _, guard := _ } : Oper) :: _) _ _); refine wpList_load_blk rfl 23 (.tmp 2) rfl _ rfl c.cs _ b1 Tryd.underlying23 rfl (cg_size c) ?_))
  refine (HQ.out _).mono ?_
  rintro e w2 ⟨rfl, l2⟩
  have D : Hid (Below w.heap.size w w2) := below_chain l1 l2 (by have := z1.out; omega)
  clear b1 l1 l2 HQ
  go_wp2_with fail
  refine (HR.out _).mono ?_
  rintro e _ ⟨rfl, rfl⟩
  go_wp2_with fail
  go_ret3
  exact ⟨rfl, D.out⟩
theorem str_inj {xs ys : List Int} (hx : Bytes xs) (hy : Bytes ys) (h1 : (xs.map fun n => UInt8.ofNat n.toNat) = ys.map fun n => UInt8.ofNat n.toNat) : xs = ys := by
  induction xs generalizing ys with
  | nil => cases ys with
    | nil => rfl
    | cons y ys => simp at h1
  | cons x xs ih => cases ys with
    | nil => simp at h1
    | cons y ys =>
      simp only [List.map_cons, List.cons.injEq] at h1
      have a := hx x (by simp)
      have b := hy y (by simp)
      have c := congrArg UInt8.toNat h1.1
      simp only [UInt8.toNat_ofNat'] at c
      have e : x = y := by omega
      rw [e, ih (fun z hz => hx z (List.mem_cons_of_mem _ hz)) (fun z hz => hy z (List.mem_cons_of_mem _ hz)) h1.2]
set_option maxRecDepth 20000 in
theorem equal_diff (ao bo : Option Addr) (n c m d : Nat) (xs ys : List Int) (hne : xs ≠ ys) (w : World) (hx : Seen w ao n xs) (hy : Seen w bo m ys) :
    Calls Tryd.prog 64 #[.slice ao n c, .slice bo m d] w fun e w' => e = .returned (.bool false) ∧ w = w' := by
  have c1 := conv_seen ao n c xs w hx
  have c2 := conv_seen bo m d ys w hy
  have hs : ¬ (strOfNums xs).toList = (strOfNums ys).toList := fun h => hne (str_inj hx.bytes hy.bytes (by rw [Go.Lib.strOfNums_toList, Go.Lib.strOfNums_toList] at h; exact h))
  generalize strOfNums xs = T at *
  generalize strOfNums ys = U at *
  clear hx hy hne
  go_enter Tryd.func64, Tryd.ntmps64
  go_wp2
  go_ret
  exact ⟨by simp [hs], rfl⟩
set_option maxRecDepth 20000 in
set_option maxHeartbeats 2000000 in
theorem parseReply_odd (c : Cg) (hok : c.ok = true) (ao : Option Addr) (n cap : Nat) (zs : List Int) (hn : (n : Int) = 1 + c.ms) (w : World) (hx : Seen w ao n zs) (hb : zs.getD 0 0 ≠ 1) (hrt : List.replicate n 0 ≠ zs) :
    Calls Tryd.prog 27 #[c.v, .slice ao n cap] w fun e w' => e = .returned (.tuple #[.bool false, .slice none 0 0, .int .i64 203]) ∧ Below w.heap.size w w' := by
  have hl : zs.length = n := hx.len
  have hf := ok_fields hok
  obtain ⟨m, hm⟩ : ∃ m : Nat, c.ms = (m : Int) := ⟨c.ms.toNat, by omega⟩
  have hnm : n = m + 1 := by omega
  subst hnm
  have HQ : Hid (∀ W, Calls Tryd.prog 15 #[.agg c.cs.toArray, .int .i64 1] W fun e w' => e = .returned (.tuple #[.int .i64 ((m + 1 : Nat) : Int), .int .i64 0]) ∧ Below W.heap.size W w') := fun W => by
    have := replySize_any c 1 W
    rw [show szP c 1 = ((m + 1 : Nat) : Int) by simp [szP, hok]; omega, show szE c 1 = 0 by simp [szE, hok]] at this
    exact this
  have HRp : Hid (∀ W, Seen W ao (m + 1) zs → Calls Tryd.prog 62 #[.slice ao (m + 1) cap, .int .i64 ((m + 1 : Nat) : Int)] W fun e w' => ∃ r ao' c', e = .returned (.tuple #[.pointer (some ⟨r, 0, none⟩), .int .i64 0]) ∧ Rd w' r ao' c' zs 0 0 ∧ W.heap.size ≤ r ∧ (∀ g, ao' = some ⟨g, 0, none⟩ → W.heap.size ≤ g) ∧ Below W.heap.size W w') := fun W h => readerOf_yes ao (m + 1) cap zs W h
  have HTR : Hid (∀ (W : World) (vo : Option Addr), Seen W vo m (zs.drop 1) → (vo = none → m = 0) → Calls Tryd.prog 23 #[.agg c.cs.toArray, .bool false, .slice vo m m] W fun e w' => ∃ uo k uc, e = .returned (.tuple #[.slice uo k uc, .int .i64 0]) ∧ Seen w' uo k (List.replicate (1 + m) 0) ∧ Below W.heap.size W w') := fun W vo hs hv => by
    refine (talkReply_not c vo m m (zs.drop 1) hm.symm hok W hs hv).mono ?_
    rintro e w' ⟨uo, uc, rfl, ho, hbl⟩
    obtain ⟨qo, qc, e, hs2, _⟩ := own_seen8 ho rfl (fun z hz => by rw [List.eq_of_mem_replicate hz]; omega) (by simp; omega)
    cases e
    exact ⟨_, _, _, rfl, hs2, hbl⟩
  have HEQ : Hid (∀ (a b : Option Addr) (k uc l d : Nat) W, Seen W a k (List.replicate (1 + m) 0) → Seen W b l zs → Calls Tryd.prog 64 #[.slice a k uc, .slice b l d] W fun e w' => e = .returned (.bool false) ∧ W = w') := fun a b k uc l d W h1 h2 => equal_diff a b k uc l d _ zs (by rw [Nat.add_comm]; exact hrt) W h1 h2
  have HX : Hid (Seen w ao (m + 1) zs ∧ zs.length = m + 1 ∧ m ≤ 512) := ⟨hx, hl, by omega⟩
  have HT : Hid ((zs.drop 1).take m = zs.drop 1) := List.take_of_length_le (by simp; omega)
  obtain ⟨V, hV⟩ : ∃ V, zs.getD 0 0 = V := ⟨_, rfl⟩
  rw [hV] at hb
  have HU : Hid (leV 1 ((zs.drop 0).take 1).length ((zs.drop 0).take 1) = V) := by
    show _ = _
    rw [← hV]
    obtain ⟨z, rest, rfl⟩ : ∃ z rest, zs = z :: rest := by
      cases zs with
      | nil => simp at hl
      | cons z rest => exact ⟨z, rest, rfl⟩
    simp [leV, le]
  have hV1 : (V == 1) = false := by simpa using hb
  have HM : Hid (c.cs = [.int .i64 c.bt, .int .i64 (m : Int), .int .i64 c.bk, .int .i64 c.tx, .int .i64 c.wi, .int .i64 c.wk]) := by show _ = _; unfold Cg.cs; rw [hm]
  clear hok hf hx hl hn hb hrt hm hV
  go_enter Tryd.func27, Tryd.ntmps27
  go_wp2_with (first | ((with_reducible show wpList _ _ _ (({ dst := some 2, op := _, type := _, pos := _, after := _, guard := _ } : Oper) :: _) _ _); refine wpList_box_new rfl 23 _ rfl c.cs rfl ?_; intro w1 b1 s1 l1; have z1 : Hid (w1.heap.size = w.heap.size + 1) := s1; clear s1) | ((with_reducible show wpList _ _ _ (({ dst := some 14, op := _, type := _, pos := _, after := _, guard := _ } : Oper) :: _) _ _); refine wpList_load_blk rfl 23 (.tmp 2) rfl _ rfl c.cs _ (b1) Tryd.underlying23 rfl (cg_size c) ?_))
  refine (HQ.out _).mono ?_
  rintro e w2 ⟨rfl, l2⟩
  have D2 : Hid (Blk w2 w.heap.size 23 c.cs ∧ Below w.heap.size w w2 ∧ w.heap.size < w2.heap.size) := (by have q := z1.out; have q2 := l2.size; exact ⟨b1.later l2 (by omega), below_chain l1 l2 (by omega), by omega⟩)
  clear b1 l1 l2 HQ
  go_wp2_with fail
  refine (HRp.out w2 (HX.out.1.later D2.out.2.1 (Nat.le_refl _))).mono ?_
  rintro e w3 ⟨r, ro, rc, rfl, rd, hr, hg, l3⟩
  have D3 : Hid (Rd w3 r ro rc zs 0 0 ∧ Blk w3 w.heap.size 23 c.cs ∧ Below w.heap.size w w3 ∧ w.heap.size < r ∧ w.heap.size < w3.heap.size) := (by have q := D2.out.2.2; have q2 := l3.size; exact ⟨rd, D2.out.1.later l3 D2.out.1.lt, below_chain D2.out.2.1 l3 (by omega), by omega, by omega⟩)
  have H8 := ru_8 r ro rc zs 0 0 w3 rd
  obtain ⟨e1, e2, e3⟩ := @nx_ok zs 0 1 (by rw [HX.out.2.1]; omega)
  have e4 : ((1 : Nat) : Int) = 1 := rfl
  rw [e4] at e1 e2 e3
  rw [e1, e2, e3, HU.out] at H8
  clear l3 rd hr hg D2 HRp e1 e2 e3 e4
  go_wp2_with fail
  refine H8.mono ?_
  rintro e w4 ⟨rfl, rd, kp⟩
  have D4 : Hid (Rd w4 r ro rc zs 1 0 ∧ Blk w4 w.heap.size 23 c.cs ∧ Below w.heap.size w w4 ∧ w.heap.size < r ∧ w.heap.size < w4.heap.size) := (by have q := D3.out.2.2.2.2; have q3 := kp.size; have q4 := D3.out.2.2.2.1; exact ⟨rd, D3.out.2.1.kept kp (by omega), below_kept D3.out.2.2.1 kp (by omega) (fun j hj => by omega), q4, by omega⟩)
  have cm : w4.cell? ⟨w.heap.size, 1, none⟩ = some (.int .i64 (m : Int)) := by rw [D4.out.2.1.cell, HM.out]; rfl
  have HB := rb_in r ro rc zs 1 m (by rw [HX.out.2.1]; omega) (by have := HX.out.2.2; omega) w4 D4.out.1
  clear rd kp D3 H8
  go_wp2_with (first | (go_at_call 61; refine HB.mono ?_; rintro e w5 ⟨vo, rfl, s5, hv5, _, _, _, k5⟩; rw [HT.out] at s5; have D5 : Hid (Seen w5 vo m (zs.drop 1) ∧ (vo = none → m = 0) ∧ Blk w5 w.heap.size 23 c.cs ∧ Below w.heap.size w w5 ∧ w.heap.size < w5.heap.size) := (by have q := D4.out.2.2.2.2; have q3 := k5.size; have q4 := D4.out.2.2.2.1; exact ⟨s5, hv5, D4.out.2.1.kept k5 (by omega), below_kept D4.out.2.2.1 k5 (by omega) (fun j hj => by omega), by omega⟩); clear s5 hv5 k5 D4 cm HB) | ((with_reducible show wpList _ _ _ (({ dst := some 38, op := _, type := _, pos := _, after := _, guard := _ } : Oper) :: _) _ _); refine wpList_load_blk rfl 23 (.tmp 2) rfl _ rfl c.cs _ D5.out.2.2.1 Tryd.underlying23 rfl (cg_size c) ?_) | (go_at_call 23; refine (HTR.out w5 vo D5.out.1 D5.out.2.1).mono ?_; rintro e w6 ⟨uo, k, uc, rfl, s6, l6⟩; have D6 : Hid (Seen w6 vo m (zs.drop 1) ∧ Seen w6 uo k (List.replicate (1 + m) 0) ∧ Seen w6 ao (m + 1) zs ∧ Below w.heap.size w w6) := (by have q := D5.out.2.2.2.2; have b6 := below_chain D5.out.2.2.2.1 l6 (by omega); exact ⟨D5.out.1.later l6 (Nat.le_refl _), s6, HX.out.1.later b6 (Nat.le_refl _), b6⟩); clear s6 l6 D5) | (go_at_call 64; refine (HEQ.out uo ao k uc (m + 1) cap w6 D6.out.2.1 D6.out.2.2.1).mono ?_; rintro e _ ⟨rfl, rfl⟩))
  go_ret3
  exact ⟨rfl, D6.out.2.2.2⟩
end Go.Proofs.YtmgkjldjeomcmaaDoor
