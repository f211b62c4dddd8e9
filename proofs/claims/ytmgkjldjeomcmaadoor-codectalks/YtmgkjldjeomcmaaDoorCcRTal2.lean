/- Layer codec: the document's TalkRequest of what is good; its ParseTalk. -/
import Derived.Test.YtmgkjldjeomcmaaDoorCcRTalk
namespace Go.Proofs.YtmgkjldjeomcmaaDoor
open Go.RowKit
set_option linter.unusedVariables false
set_option linter.unusedSimpArgs false

theorem take_nextT (xs : List Int) (k : Nat) (hk : k < xs.length) (n : Nat) : (xs.take k ++ List.replicate (n + 1) 0).set k (xs.getD k 0) = xs.take (k + 1) ++ List.replicate n 0 := by
  have e : (xs.take k).length = k := by simp; omega
  have h := set_next (xs.take k) n (xs.getD k 0) 0
  rw [e] at h
  rw [h, List.take_succ_eq_append_getElem hk]
  simp [List.getD, hk]

set_option maxRecDepth 20000 in
set_option maxHeartbeats 2000000 in
theorem rtalkReq_ok (c : Cg) (d : List Int) (hd : d.length = 16) (hdb : Bytes d) (ao : Option Addr) (n cap : Nat) (zs : List Int) (hcap : n ≤ cap) (hok : c.ok = true) (hn : (n : Int) = c.ms) (w : World) (hx : Seen w ao n zs) : Calls Tryd.prog 21 #[c.v, .agg (u8s d).toArray, .slice ao n cap] w (LayR w (d ++ zs)) := by
  have HC : Hid (∀ W, Calls Tryd.prog 11 #[.agg c.cs.toArray] W fun e w' => e = .returned (.int .i64 0) ∧ Below W.heap.size W w') := fun W => ok_err hok ▸ rcheck_any c W
  have n1 : ((n : Int) != c.ms) = false := by simpa using hn
  have hn5 : n ≤ 512 := by have := ok_fields hok; omega
  have HX : Hid (Seen w ao n zs ∧ d.length = 16 ∧ Bytes d) := ⟨hx, hd, hdb⟩
  obtain ⟨i0, hi, hz0, hz1, hz2⟩ := info_parts info_byte
  clear hok hn hx hd
  go_enter Tryd.func21, Tryd.ntmps21
  go_wp2_with (first | ((with_reducible show wpList _ _ _ (({ dst := some 3, op := _, type := _, pos := _, after := _, guard := _ } : Oper) :: _) _ _); refine wpList_box_new rfl 23 _ rfl c.cs rfl ?_; intro w1 b1 s1 l1; have z1 : Hid (w1.heap.size = w.heap.size + 1) := s1; clear s1) | ((with_reducible show wpList _ _ _ (({ dst := some 4, op := _, type := _, pos := _, after := _, guard := _ } : Oper) :: _) _ _); refine wpList_box_new rfl 35 _ rfl (u8s d) rfl ?_; intro w2 b2 s2 l2; have z2 : Hid (w2.heap.size = w1.heap.size + 1) := s2; clear s2) | ((with_reducible show wpList _ _ _ (({ dst := some 10, op := _, type := _, pos := _, after := _, guard := _ } : Oper) :: _) _ _); refine wpList_load_blk rfl 23 (.tmp 3) rfl _ rfl c.cs _ (b1.later l2 (by have := z1.out; omega)) Tryd.underlying23 rfl (cg_size c) ?_))
  have D2 : Hid (Blk w2 w.heap.size 23 c.cs ∧ Blk w2 w1.heap.size 35 (u8s d) ∧ Below w.heap.size w w2) := ⟨b1.later l2 (by have := z1.out; omega), b2, below_chain l1 l2 (by have := z1.out; omega)⟩
  clear b1 b2 l1 l2
  refine (HC.out _).mono ?_
  rintro e w3 ⟨rfl, l3⟩
  have D3 : Hid (Blk w3 w.heap.size 23 c.cs ∧ Blk w3 w1.heap.size 35 (u8s d) ∧ Below w.heap.size w w3) := ⟨D2.out.1.later l3 D2.out.1.lt, D2.out.2.1.later l3 D2.out.2.1.lt, below_chain D2.out.2.2 l3 D2.out.2.2.size⟩
  have cm : w3.cell? ⟨w.heap.size, 1, none⟩ = some (.int .i64 c.ms) := by rw [D3.out.1.cell]; rfl
  have cb : w3.cell? ⟨w.heap.size, 2, none⟩ = some (.int .i64 c.bk) := by rw [D3.out.1.cell]; rfl
  clear l3 D2 HC
  go_wp2_with fail
  go_loopw [8, 9] (fun v i wr => ∃ k : Nat, k ≤ 16 ∧ i = .int .i64 k ∧ wr.ownsRow w3.heap.size 5 1 v k ((d.map (Value.int .u8)).take k) ∧ Below w3.heap.size w3 wr) (fun _ i _ => 16 - (intOf i).toNat)
  case atStart => exact ⟨0, Nat.zero_le _, rfl, World.ownsRow_nil _ _ _ _, Below.refl _ _⟩
  case round =>
    obtain ⟨k, hk, rfl, hown, hbel⟩ := hrel
    have hsz := hbel.size
    by_cases hlt : k < 16
    · obtain ⟨Z, hZ⟩ : ∃ Z, d.getD k 0 = Z := ⟨_, rfl⟩
      have ck : wr.cell? ⟨w1.heap.size, k, none⟩ = some (.int .u8 Z) := by
        rw [← hZ, u8s_cell (D3.out.2.1.later hbel D3.out.2.1.lt) k (by rw [HX.out.2.1]; exact hlt)]
      have i1 : (k : Int) < 16 := by omega
      have i2 : (0 : Int) ≤ (k : Int) := by omega
      go_wp2_with (at_builtin; refine wpList_append_own _ rfl _ _ 24 rfl w3.heap.size 5 i0 (.int .u8 0) 1 1 Tryd.underlying24 hi hz0 hz1 hz2 rfl (by decide) _ _ _ rfl (hown.alloc _) ⟨wr.heap.size, 0, none⟩ 1 1 [.int .u8 Z] rfl rfl ?c1 ?c2 ?c3 ?c4 ?c5 ?_)
      try case c1 => exact one_new _ _ _
      case c2 => first | rfl | (intro u hu; simp at hu; subst hu; rfl)
      case c3 => unfold maxLen; omega
      case c4 => omega
      case c5 => first | omega | (simp; omega)
      · intro v' w5 hown' hgrow _
        have R := step_own hbel hown (by rw [HX.out.2.1]; exact hlt) hZ hown' hgrow
        clear hown' hgrow hown hbel
        go_wp2_with fail
        exact ⟨⟨k + 1, by omega, by go_num, R.1, R.2⟩, by simp [intOf]; omega⟩
    · obtain rfl : k = 16 := by omega
      have ho : wr.ownsRow w3.heap.size 5 1 u8 16 (d.map (Value.int .u8)) := by have h := hown; rwa [List.take_of_length_le (by simp [HX.out.2.1])] at h
      obtain ⟨g, c4, rfl, s4, hc4, _⟩ := own_some8L ho HX.out.2.1 HX.out.2.2 (by decide) (by decide)
      have D4 : Hid (Seen wr (some ⟨g, 0, none⟩) 16 d ∧ 16 ≤ c4 ∧ Seen wr ao n zs ∧ Below w.heap.size w wr) := (by have l := below_chain D3.out.2.2 hbel D3.out.2.2.size; exact ⟨s4, hc4, HX.out.1.later l (Nat.le_refl _), l⟩)
      clear hown hbel ho s4 hc4
      go_wp2_with fail
      refine (two_any _ _ _ _ _ _ _ _ _ D4.out.1 D4.out.2.2.1 D4.out.2.1 hcap (by omega)).mono ?_
      rintro e w5 ⟨v, rfl, o5, l5⟩
      have HO : Hid (w5.ownsRow w.heap.size 5 1 v (d ++ zs).length ((d ++ zs).map (Value.int .u8)) ∧ Below w.heap.size w w5) := ⟨ownsRow_base o5 D4.out.2.2.2.size, below_chain D4.out.2.2.2 l5 D4.out.2.2.2.size⟩
      clear o5 l5 D4
      go_wp2
      go_ret2
      exact ⟨_, rfl, HO.out⟩
set_option maxRecDepth 20000 in
set_option maxHeartbeats 2000000 in
theorem rparseTalk_bad (c : Cg) (ao : Option Addr) (n cap : Nat) (hok : c.ok = false) (w : World) : Calls Tryd.prog 26 #[c.v, .slice ao n cap] w fun e w' => e = .returned (.tuple #[.agg (u8s (zer 16)).toArray, .slice none 0 0, .int .i64 200]) ∧ Below w.heap.size w w' := by
  have HC : Hid (∀ W, Calls Tryd.prog 11 #[.agg c.cs.toArray] W fun e w' => e = .returned (.int .i64 200) ∧ Below W.heap.size W w') := fun W => no_err hok ▸ rcheck_any c W
  clear hok
  go_enter Tryd.func26, Tryd.ntmps26
  go_wp2_with (first | ((with_reducible show wpList _ _ _ (({ dst := some 2, op := _, type := _, pos := _, after := _, guard := _ } : Oper) :: _) _ _); refine wpList_box_new rfl 23 _ rfl c.cs rfl ?_; intro w1 b1 s1 l1; have z1 : Hid (w1.heap.size = w.heap.size + 1) := s1; clear s1) | ((with_reducible show wpList _ _ _ (({ dst := some 4, op := _, type := _, pos := _, after := _, guard := _ } : Oper) :: _) _ _); refine wpList_alloc_new rfl 35 rfl 16 _ zero_Drop ?_; intro w2 b2 s2 l2; have z2 : Hid (w2.heap.size = w1.heap.size + 1) := s2; clear s2) | ((with_reducible show wpList _ _ _ (({ dst := some 9, op := _, type := _, pos := _, after := _, guard := _ } : Oper) :: _) _ _); refine wpList_load_blk rfl 23 (.tmp 2) rfl _ rfl c.cs _ (b1.later l2 (by have := z1.out; omega)) Tryd.underlying23 rfl (cg_size c) ?_))
  refine (HC.out _).mono ?_
  rintro e w3 ⟨rfl, l3⟩
  have D3 : Hid (Blk w3 w.heap.size 23 c.cs ∧ Blk w3 w1.heap.size 35 (u8s (zer 16)) ∧ Below w.heap.size w w3 ∧ w.heap.size < w1.heap.size ∧ w1.heap.size < w3.heap.size) := (by have q1 := z1.out; have q2 := z2.out; have q3 := l3.size; exact ⟨(b1.later l2 (by omega)).later l3 (by omega), b2.later l3 (by omega), below_chain (below_chain l1 l2 (by omega)) l3 (by omega), by omega, by omega⟩)
  have cm : w3.cell? ⟨w.heap.size, 1, none⟩ = some (.int .i64 c.ms) := by rw [D3.out.1.cell]; rfl
  clear b1 b2 l1 l2 l3 HC
  go_wp2_with (first | (refine wpList_store_blk rfl 35 35 (.tmp 4) (.tmp 12) rfl _ rfl _ (u8s (zer 16)) rfl D3.out.2.1 rfl (by rw [u8s_length]; exact size_Drop) (u8s_one _) ?_; intro w4 b4 s4 k4; have z4 : Hid (w4.heap.size = w3.heap.size) := s4; clear s4))
  exact ret_btt rfl w1.heap.size (u8s (zer 16)) _ _ _ rfl rfl rfl b4 Tryd.underlying35 rfl (by rw [u8s_length]; exact size_Drop) rfl ⟨rfl, below_kept D3.out.2.2.1 k4 (by have := D3.out.2.2.2; omega) (fun j hj => by have := D3.out.2.2.2; omega)⟩
set_option maxRecDepth 20000 in
set_option maxHeartbeats 2000000 in
theorem rparseTalk_len (c : Cg) (ao : Option Addr) (n cap : Nat) (hok : c.ok = true) (hne : ¬ (n : Int) = 16 + c.ms) (w : World) : Calls Tryd.prog 26 #[c.v, .slice ao n cap] w fun e w' => e = .returned (.tuple #[.agg (u8s (zer 16)).toArray, .slice none 0 0, .int .i64 4]) ∧ Below w.heap.size w w' := by
  have HC : Hid (∀ W, Calls Tryd.prog 11 #[.agg c.cs.toArray] W fun e w' => e = .returned (.int .i64 0) ∧ Below W.heap.size W w') := fun W => ok_err hok ▸ rcheck_any c W
  have hf := ok_fields hok
  have n1 : ((n : Int) != 16 + c.ms) = true := by simpa using hne
  have n2 : wrap64 (16 + c.ms) = 16 + c.ms := by simp [wrap64]; omega
  clear hok hne hf
  go_enter Tryd.func26, Tryd.ntmps26
  go_wp2_with (first | ((with_reducible show wpList _ _ _ (({ dst := some 2, op := _, type := _, pos := _, after := _, guard := _ } : Oper) :: _) _ _); refine wpList_box_new rfl 23 _ rfl c.cs rfl ?_; intro w1 b1 s1 l1; have z1 : Hid (w1.heap.size = w.heap.size + 1) := s1; clear s1) | ((with_reducible show wpList _ _ _ (({ dst := some 4, op := _, type := _, pos := _, after := _, guard := _ } : Oper) :: _) _ _); refine wpList_alloc_new rfl 35 rfl 16 _ zero_Drop ?_; intro w2 b2 s2 l2; have z2 : Hid (w2.heap.size = w1.heap.size + 1) := s2; clear s2) | ((with_reducible show wpList _ _ _ (({ dst := some 9, op := _, type := _, pos := _, after := _, guard := _ } : Oper) :: _) _ _); refine wpList_load_blk rfl 23 (.tmp 2) rfl _ rfl c.cs _ (b1.later l2 (by have := z1.out; omega)) Tryd.underlying23 rfl (cg_size c) ?_))
  refine (HC.out _).mono ?_
  rintro e w3 ⟨rfl, l3⟩
  have D3 : Hid (Blk w3 w.heap.size 23 c.cs ∧ Blk w3 w1.heap.size 35 (u8s (zer 16)) ∧ Below w.heap.size w w3 ∧ w.heap.size < w1.heap.size ∧ w1.heap.size < w3.heap.size) := (by have q1 := z1.out; have q2 := z2.out; have q3 := l3.size; exact ⟨(b1.later l2 (by omega)).later l3 (by omega), b2.later l3 (by omega), below_chain (below_chain l1 l2 (by omega)) l3 (by omega), by omega, by omega⟩)
  have cm : w3.cell? ⟨w.heap.size, 1, none⟩ = some (.int .i64 c.ms) := by rw [D3.out.1.cell]; rfl
  clear b1 b2 l1 l2 l3 HC
  go_wp2_with (first | (refine wpList_store_blk rfl 35 35 (.tmp 4) (.tmp 19) rfl _ rfl _ (u8s (zer 16)) rfl D3.out.2.1 rfl (by rw [u8s_length]; exact size_Drop) (u8s_one _) ?_; intro w4 b4 s4 k4; have z4 : Hid (w4.heap.size = w3.heap.size) := s4; clear s4))
  exact ret_btt rfl w1.heap.size (u8s (zer 16)) _ _ _ rfl rfl rfl b4 Tryd.underlying35 rfl (by rw [u8s_length]; exact size_Drop) rfl ⟨rfl, below_kept D3.out.2.2.1 k4 (by have := D3.out.2.2.2; omega) (fun j hj => by have := D3.out.2.2.2; omega)⟩
set_option maxRecDepth 20000 in
set_option maxHeartbeats 2000000 in
theorem rparseTalk_ok (c : Cg) (ao : Option Addr) (n cap : Nat) (zs : List Int) (hcap : n ≤ cap) (hok : c.ok = true) (hn : (n : Int) = 16 + c.ms) (w : World) (hx : Seen w ao n zs) : Calls Tryd.prog 26 #[c.v, .slice ao n cap] w fun e w' => ∃ v, e = .returned (.tuple #[.agg (u8s (zs.take 16)).toArray, v, .int .i64 0]) ∧ w'.ownsRow w.heap.size 5 1 v (zs.drop 16).length ((zs.drop 16).map (Value.int .u8)) ∧ Below w.heap.size w w' := by
  have HC : Hid (∀ W, Calls Tryd.prog 11 #[.agg c.cs.toArray] W fun e w' => e = .returned (.int .i64 0) ∧ Below W.heap.size W w') := fun W => ok_err hok ▸ rcheck_any c W
  have hf := ok_fields hok
  have n1 : ((n : Int) != 16 + c.ms) = false := by simpa using hn
  have n2 : wrap64 (16 + c.ms) = 16 + c.ms := by simp [wrap64]; omega
  have hn16 : 16 ≤ n := by omega
  have HX : Hid (Seen w ao n zs ∧ zs.length = n ∧ (∀ W, (Instr.sliceAt 24 (.slice ao n cap) (some (.int .i64 16)) none none).run Tryd.prog W = .ok (.slice (subA ao 16 cap) (n - 16) (cap - 16)) W) ∧ Seen w (subA ao 16 cap) (n - 16) (zs.drop 16)) := ⟨hx, hx.len, fun W => sl_l ao n cap 16 hn16 W, by
    have := hx.sub 16 n cap hn16 (Nat.le_refl _) hcap
    rwa [List.take_of_length_le (by simp [hx.len])] at this⟩
  clear hok hn hf hx
  go_enter Tryd.func26, Tryd.ntmps26
  go_wp2_with (first | ((with_reducible show wpList _ _ _ (({ dst := some 2, op := _, type := _, pos := _, after := _, guard := _ } : Oper) :: _) _ _); refine wpList_box_new rfl 23 _ rfl c.cs rfl ?_; intro w1 b1 s1 l1; have z1 : Hid (w1.heap.size = w.heap.size + 1) := s1; clear s1) | ((with_reducible show wpList _ _ _ (({ dst := some 4, op := _, type := _, pos := _, after := _, guard := _ } : Oper) :: _) _ _); refine wpList_alloc_new rfl 35 rfl 16 _ zero_Drop ?_; intro w2 b2 s2 l2; have z2 : Hid (w2.heap.size = w1.heap.size + 1) := s2; clear s2) | ((with_reducible show wpList _ _ _ (({ dst := some 9, op := _, type := _, pos := _, after := _, guard := _ } : Oper) :: _) _ _); refine wpList_load_blk rfl 23 (.tmp 2) rfl _ rfl c.cs _ (b1.later l2 (by have := z1.out; omega)) Tryd.underlying23 rfl (cg_size c) ?_))
  refine (HC.out _).mono ?_
  rintro e w3 ⟨rfl, l3⟩
  have D3 : Hid (Blk w3 w.heap.size 23 c.cs ∧ Blk w3 w1.heap.size 35 (u8s (zer 16)) ∧ Below w.heap.size w w3 ∧ w.heap.size < w1.heap.size ∧ w1.heap.size < w3.heap.size) := (by have q1 := z1.out; have q2 := z2.out; have q3 := l3.size; exact ⟨(b1.later l2 (by omega)).later l3 (by omega), b2.later l3 (by omega), below_chain (below_chain l1 l2 (by omega)) l3 (by omega), by omega, by omega⟩)
  have cm : w3.cell? ⟨w.heap.size, 1, none⟩ = some (.int .i64 c.ms) := by rw [D3.out.1.cell]; rfl
  clear b1 b2 l1 l2 l3 HC
  go_wp2_with (first | ((with_reducible show wpList _ _ _ (({ dst := some 7, op := _, type := _, pos := _, after := _, guard := _ } : Oper) :: _) _ _); refine wpList_alloc_new rfl 35 rfl 16 _ zero_Drop ?_; intro w4 b4 s4 l4; have z4 : Hid (w4.heap.size = w3.heap.size + 1) := s4; clear s4))
  have D4 : Hid (Blk w4 w1.heap.size 35 (u8s (zer 16)) ∧ Below w.heap.size w w4 ∧ w.heap.size < w1.heap.size ∧ w1.heap.size < w3.heap.size ∧ w3.heap.size < w4.heap.size) := (by have q := z4.out; exact ⟨D3.out.2.1.later l4 (by have := D3.out.2.2.2; omega), below_chain D3.out.2.2.1 l4 D3.out.2.2.1.size, D3.out.2.2.2.1, D3.out.2.2.2.2, by omega⟩)
  have HB4 : Hid (Blk w4 w3.heap.size 35 (u8s ((zs.take 0) ++ List.replicate 16 0))) := b4
  clear b4 l4 D3 cm
  go_loopw [8] (fun i wr => ∃ k : Nat, k ≤ 16 ∧ i = .int .i64 k ∧ Blk wr w3.heap.size 35 (u8s (zs.take k ++ List.replicate (16 - k) 0)) ∧ Kept (fun b => b = w3.heap.size) w4 wr) (fun i _ => 16 - (intOf i).toNat)
  case atStart => exact ⟨0, Nat.zero_le _, rfl, HB4.out, Kept.refl _ _⟩
  case round =>
    obtain ⟨k, hk, rfl, hb, hkp⟩ := hrel
    have X0 : Hid (Blk wr w3.heap.size 35 (u8s (zs.take k ++ List.replicate (16 - k) 0)) ∧ Kept (fun b => b = w3.heap.size) w4 wr) := ⟨hb, hkp⟩
    by_cases hlt : k < 16
    · have SX := HX.out.1.later D4.out.2.1 (Nat.le_refl _)
      obtain ⟨b, o, rfl, hbl, hc⟩ := HX.out.1.cells (by omega)
      have c1 : wr.cell? ⟨b, o + k, none⟩ = some (.int .u8 (zs.getD k 0)) := (hkp.cell (p := ⟨b, o + k, none⟩) (by show b < _; have := D4.out.2.1.size; omega) (by show ¬ b = _; have := D4.out.2.2; omega)).trans ((D4.out.2.1.cell (p := ⟨b, o + k, none⟩) hbl).trans (hc k (by omega)))
      have cs := u8s_cell hb k (by have := HX.out.2.1; simp; omega)
      have fs := hb.frozen k
      have HE : Hid ((zs.take k ++ List.replicate (16 - k) 0).set k (zs.getD k 0) = zs.take (k + 1) ++ List.replicate (16 - (k + 1)) 0) := by
        have := take_nextT zs k (by rw [HX.out.2.1]; omega) (16 - (k + 1))
        rwa [show 16 - (k + 1) + 1 = 16 - k by omega] at this
      obtain ⟨Z, hZ⟩ : ∃ Z, zs.getD k 0 = Z := ⟨_, rfl⟩
      rw [hZ] at c1 HE
      have i1 : (0 : Int) ≤ (k : Int) := by omega
      have i2 : (k : Int) < 16 := by omega
      have i3 : (k : Int) < (n : Int) := by omega
      clear hb hkp hZ hc SX
      go_wp2
      have R1 := X0.out.1.set k (.int .u8 Z)
      rw [u8s_set, HE.out] at R1
      exact ⟨⟨k + 1, by omega, by go_num, R1, X0.out.2.setCell (S := fun b => b = w3.heap.size) rfl _⟩, by simp [intOf]; omega⟩
    · obtain rfl : k = 16 := by omega
      obtain ⟨d, hd⟩ : ∃ d, zs.take 16 = d := ⟨_, rfl⟩
      have HD : Hid (d.length = 16) := by show _ = _; rw [← hd]; have := HX.out.2.1; simp; omega
      have D5 : Hid (Blk wr w3.heap.size 35 (u8s d) ∧ Blk wr w1.heap.size 35 (u8s (zer 16)) ∧ Below w.heap.size w wr ∧ w.heap.size < w1.heap.size ∧ w1.heap.size < w3.heap.size ∧ w3.heap.size < wr.heap.size) := (by
        have q := D4.out.2.2
        have q2 := hkp.size
        exact ⟨by rw [Nat.sub_self, List.replicate_zero, List.append_nil, hd] at hb; exact hb, D4.out.1.kept hkp (by omega), below_kept D4.out.2.1 hkp (by omega) (fun j hj => by omega), q.1, q.2.1, by omega⟩)
      have HDD : Hid (zs.take 16 = d) := hd
      clear hb hkp X0 HB4 D4 hd
      go_wp2_with fail
      have HS := HX.out.2.2.1
      have SC := (HX.out.2.2.2.later D5.out.2.2.1 (Nat.le_refl _)).drew
      refine wp_region_noPanic (wp_region_held_drew (S := fun W => Blk W w3.heap.size 35 (u8s d)) (by kernel_rfl) D5.out.1.drew (fun hH => ?_))
      refine hLoad 0 (some 30) (u8s d) rfl rfl (by kernel_rfl) (by kernel_rfl) (by kernel_rfl) (fun _ _ _ h => h) (by rfl) 35 (.tmp 7) rfl w3.heap.size 0 rfl _ (fun _ h => wholeT h) Tryd.underlying35 rfl (by rw [u8s_length, HD.out]; exact size_Drop) hH ?_
      simp only [Act.put, List.setIfInBounds_toArray, List.set_cons_zero, List.set_cons_succ]
      refine hTake 1 (some 31) (.slice ao n cap) rfl rfl (by kernel_rfl) (by kernel_rfl) (by kernel_rfl) (fun _ _ _ h => h) (by rfl) (fun W' hS' => by go_simp) hH ?_
      simp only [Act.put, List.setIfInBounds_toArray, List.set_cons_zero, List.set_cons_succ]
      refine hTake 2 (some 32) (.slice (subA ao 16 cap) (n - 16) (cap - 16)) rfl rfl (by kernel_rfl) (by kernel_rfl) (by kernel_rfl) (fun _ _ _ h => h) (by rfl) (fun W' hS' => by go_simp) hH ?_
      simp only [Act.put, List.setIfInBounds_toArray, List.set_cons_zero, List.set_cons_succ]
      refine wpAnyH_ready (rs := [3]) (by kernel_rfl) (by simp) (AllReadyH.cons rfl (fun K hK => ?_) AllReadyH.nil)
      go_simp
      go_wp2_with (go_at_call 44; refine (copyB_any _ _ _ (zs.drop 16) _ SC).mono ?_; rintro e w7 ⟨v, rfl, o7, l7⟩)
      have q1 := D5.out.2.2.2.1
      have q2 := D5.out.2.2.2.2.1
      have q3 := D5.out.2.2.2.2.2
      have q4 : wr.heap.size ≤ w7.heap.size := l7.size
      have D7 : Hid (Blk w7 w3.heap.size 35 (u8s d) ∧ Blk w7 w1.heap.size 35 (u8s (zer 16)) ∧ Below w.heap.size w w7 ∧ w7.ownsRow wr.heap.size 5 1 v (n - 16) ((zs.drop 16).map (Value.int .u8))) := ⟨D5.out.1.drew.later l7 (by show _ < wr.heap.size; omega), D5.out.2.1.drew.later l7 (by show _ < wr.heap.size; omega), below_chain (below_dn D5.out.2.2.1 1) l7 (by show _ ≤ wr.heap.size; omega), o7⟩
      clear o7 l7 SC HS D5
      refine hK.out _ _ D7.out.1 (fun hH => ?_)
      clear hK K
      refine wpAnyH_ready (rs := [4]) (by kernel_rfl) (by simp) (AllReadyH.cons rfl (fun K hK => ?_) AllReadyH.nil)
      rw [if_pos (by rfl)]
      refine last_store 35 (.tmp 4) (.tmp 30) rfl rfl w1.heap.size rfl 35 _ (u8s d) rfl D7.out.2.1 (by rw [u8s_length, HD.out]; rfl) (by rw [u8s_length, HD.out]; exact size_Drop) (u8s_one _) ?_
      intro w8 b8 s8 k8
      have q8 := k8.size
      refine hK.out _ _ (D7.out.1.kept k8 (by omega)) (fun hH => ?_)
      clear hK K
      refine hTake 5 (some 5) v rfl rfl (by kernel_rfl) (by kernel_rfl) (by kernel_rfl) (fun _ _ _ h => h) (by rfl) (fun W' hS' => by go_simp) hH ?_
      simp only [Act.put, List.setIfInBounds_toArray, List.set_cons_zero, List.set_cons_succ]
      refine hTake 6 (some 6) (.int .i64 0) rfl rfl (by kernel_rfl) (by kernel_rfl) (by kernel_rfl) (fun _ _ _ h => h) (by rfl) (fun W' hS' => by go_simp) hH ?_
      simp only [Act.put, List.setIfInBounds_toArray, List.set_cons_zero, List.set_cons_succ]
      refine wpAnyH_done (by kernel_rfl) (NoPanic.normal ?_) _
      have F8 : Hid (w8.ownsRow w.heap.size 5 1 v (zs.drop 16).length ((zs.drop 16).map (Value.int .u8)) ∧ Below w.heap.size w w8) := ⟨by
        have e : (zs.drop 16).length = n - 16 := by have := HX.out.2.1; simp; omega
        rw [e]
        exact ownsRow_base (own_block D7.out.2.2.2 (fun j hj => k8.block j (D7.out.2.2.2.lt j hj).2 (by have := (D7.out.2.2.2.lt j hj).1; show ¬ j = _; omega))) (by omega), below_kept D7.out.2.2.1 k8 (by omega) (fun j hj => by omega)⟩
      clear hH k8 s8 D7
      go_wp2
      exact ret_btt rfl w1.heap.size (u8s d) _ _ _ rfl rfl rfl b8 Tryd.underlying35 rfl (by rw [u8s_length, HD.out]; exact size_Drop) rfl ⟨v, by rw [HDD.out]; rfl, F8.out⟩
end Go.Proofs.YtmgkjldjeomcmaaDoor
