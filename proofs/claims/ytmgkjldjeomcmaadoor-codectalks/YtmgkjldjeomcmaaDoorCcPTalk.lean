/- Layer codec: ParseTalk of what is long enough; the statements' sized. -/
import Derived.Test.YtmgkjldjeomcmaaDoorCcPar2
import Derived.Test.YtmgkjldjeomcmaaDoorDHeld
import Derived.Test.YtmgkjldjeomcmaaDoorRInv
import Derived.Laws.OwnMore
namespace Go.Proofs.YtmgkjldjeomcmaaDoor
open Go.RowKit
set_option linter.unusedVariables false
set_option linter.unusedSimpArgs false


theorem seenKT {S : Nat} {w w' : World} {ao : Option Addr} {n : Nat} {zs : List Int} (h : Seen w ao n zs) (hk : Kept (fun k => k = S) w w') (hne : ∀ b o, ao = some ⟨b, o, none⟩ → b ≠ S) : Seen w' ao n zs :=
  ⟨h.len, h.top, h.bytes, fun h0 => by
    obtain ⟨b, o, e, hb, hc⟩ := h.cells h0
    exact ⟨b, o, e, Nat.lt_of_lt_of_le hb hk.size, fun i hi => (hk.cell (p := ⟨b, o + i, none⟩) hb (hne b o e)).trans (hc i hi)⟩⟩
theorem made_zero8 (n : Nat) : (madeCells #[Value.int .u8 0] n) = (u8s (List.replicate n 0)).toArray := by
  apply Array.ext'
  rw [toList_madeCells_one]
  simp [u8s]
theorem bytes_set8 {us : List Int} (h : Bytes us) (k : Nat) {z : Int} (hz : 0 ≤ z ∧ z < 256) : Bytes (us.set k z) := by
  intro y hy
  rcases List.mem_or_eq_of_mem_set hy with h1 | rfl
  · exact h y h1
  · exact hz
theorem vo_some {vo : Option Addr} {m : Nat} (hv : vo = none → m = 0) (ha : ∀ a, vo = some a → a = ⟨a.block, 0, none⟩) (hm : 0 < m) : ∃ g, vo = some ⟨g, 0, none⟩ := by
  cases vo with
  | none => have := hv rfl; omega
  | some a => exact ⟨a.block, by rw [← ha a rfl]⟩
theorem atDrop8 (g : Nat) (w : World) : (Instr.arrayAt 35 (.slice (some ⟨g, 0, none⟩) 16 16)).run Tryd.prog w = .ok (.pointer (some ⟨g, 0, none⟩)) w := by kernel_rfl
theorem wholeT {w : World} {g : Nat} {t : TypeId} {vs : List Value} (h : Blk w g t vs) : w.rangeAt g 0 vs := fun j v hv => by rw [Nat.zero_add, h.cell]; exact hv
theorem range_seen {w : World} {g n : Nat} {zs : List Int} (h : Seen w (some ⟨g, 0, none⟩) n zs) : w.rangeAt g 0 (u8s zs) := fun j v hv => by
  have hj : j < n := by
    rcases Nat.lt_or_ge j n with h1 | h1
    · exact h1
    · rw [List.getElem?_eq_none (by rw [u8s_length, h.len]; exact h1)] at hv; cases hv
  obtain ⟨b, o, e, _, hc⟩ := h.cells (by omega)
  cases e
  rw [hc j hj, ← hv]
  simp [u8s, List.getD, show j < zs.length by rw [h.len]; exact hj]
set_option maxRecDepth 20000 in
set_option maxHeartbeats 4000000 in
theorem parseTalk_ok (c : Cg) (hok : c.ok = true) (ao : Option Addr) (n cap : Nat) (zs : List Int) (hn : (n : Int) = 16 + c.ms) (w : World) (hx : Seen w ao n zs) :
    Calls Tryd.prog 25 #[c.v, .slice ao n cap] w fun e w' => ∃ vo m, e = .returned (.tuple #[.agg (u8s (zs.take 16)).toArray, .slice vo m m, .int .i64 0]) ∧ (m : Int) = c.ms ∧ Seen w' vo m (zs.drop 16) ∧ Below w.heap.size w w' := by
  have hl : zs.length = n := hx.len
  have hf := ok_fields hok
  obtain ⟨m, hm⟩ : ∃ m : Nat, c.ms = (m : Int) := ⟨c.ms.toNat, by omega⟩
  have hnm : n = 16 + m := by omega
  subst hnm
  have HQ : Hid (∀ W, Seen W ao (16 + m) zs → Calls Tryd.prog 60 #[.agg c.cs.toArray, .int .i64 1, .slice ao (16 + m) cap] W fun e w' => ∃ r ao' c', e = .returned (.tuple #[.pointer (some ⟨r, 0, none⟩), .int .i64 0]) ∧ Rd w' r ao' c' zs 0 0 ∧ W.heap.size ≤ r ∧ (∀ g, ao' = some ⟨g, 0, none⟩ → W.heap.size ≤ g) ∧ Below W.heap.size W w') := fun W h => requestOf_yes c 1 ao (16 + m) cap zs (by simp [szE, hok]) (by simp [szQ, hok]; omega) W h
  obtain ⟨d, hd⟩ : ∃ d, zs.take 16 = d := ⟨_, rfl⟩
  have HX : Hid (Seen w ao (16 + m) zs ∧ zs.length = 16 + m ∧ m ≤ 512 ∧ d.length = 16 ∧ 1 ≤ m ∧ (zs.drop 0).take 16 = d ∧ (zs.drop 16).take m = zs.drop 16) := ⟨hx, hl, by omega, by rw [← hd]; simp; omega, by omega, by rw [← hd]; rfl, List.take_of_length_le (by simp; omega)⟩
  have HM : Hid (c.cs = [.int .i64 c.bt, .int .i64 (m : Int), .int .i64 c.bk, .int .i64 c.tx, .int .i64 c.wi, .int .i64 c.wk]) := by show _ = _; unfold Cg.cs; rw [hm]
  rw [hd, hm]
  clear hok hf hx hl hn hm hd
  go_enter Tryd.func25, Tryd.ntmps25
  go_wp2_with (first | ((with_reducible show wpList _ _ _ (({ dst := some 2, op := _, type := _, pos := _, after := _, guard := _ } : Oper) :: _) _ _); refine wpList_box_new rfl 23 _ rfl c.cs rfl ?_; intro w1 b1 s1 l1; have z1 : Hid (w1.heap.size = w.heap.size + 1) := s1; clear s1) | ((with_reducible show wpList _ _ _ (({ dst := some 4, op := _, type := _, pos := _, after := _, guard := _ } : Oper) :: _) _ _); refine wpList_alloc_new rfl 35 rfl 16 _ zero_Drop ?_; intro w2 b2 s2 l2; have z2 : Hid (w2.heap.size = w1.heap.size + 1) := s2; clear s2) | ((with_reducible show wpList _ _ _ (({ dst := some 11, op := _, type := _, pos := _, after := _, guard := _ } : Oper) :: _) _ _); refine wpList_load_blk rfl 23 (.tmp 2) rfl _ rfl c.cs _ (b1.later l2 (by have := z1.out; omega)) Tryd.underlying23 rfl (cg_size c) ?_))
  refine (HQ.out w2 (HX.out.1.later (below_chain l1 l2 (by have := z1.out; omega)) (Nat.le_refl _))).mono ?_
  rintro e w3 ⟨r, ro, rc, rfl, rd, hr, hg, l3⟩
  have D3 : Hid (Rd w3 r ro rc zs 0 0 ∧ Blk w3 w.heap.size 23 c.cs ∧ Blk w3 w1.heap.size 35 (u8s (zer 16)) ∧ Below w.heap.size w w3 ∧ w.heap.size < w1.heap.size ∧ w1.heap.size < r ∧ w1.heap.size < w3.heap.size) := (by have q1 := z1.out; have q2 := z2.out; have q3 := l3.size; exact ⟨rd, (b1.later l2 (by omega)).later l3 (by omega), b2.later l3 (by omega), below_chain (below_chain l1 l2 (by omega)) l3 (by omega), by omega, by omega, by omega⟩)
  have HB := rb_in r ro rc zs 0 16 (by rw [HX.out.2.1]; omega) (by decide) w3 rd
  rw [HX.out.2.2.2.2.2.1] at HB
  clear b1 b2 l1 l2 l3 rd hr hg HQ
  go_wp2_with (first | (go_at_call 61; refine HB.mono ?_; rintro e w4 ⟨vo, rfl, s4, hv4, hb4, ha4, rd4, k4⟩; obtain ⟨g, rfl⟩ : ∃ g, vo = some ⟨g, 0, none⟩ := vo_some hv4 ha4 (by decide); have D4 : Hid (Rd w4 r ro rc zs 16 0 ∧ Blk w4 w.heap.size 23 c.cs ∧ Blk w4 w1.heap.size 35 (u8s (zer 16)) ∧ Below w.heap.size w w4 ∧ w.heap.size < w1.heap.size ∧ w1.heap.size < r ∧ w1.heap.size < w4.heap.size ∧ w4.rangeAt g 0 (u8s d)) := (by have q1 := D3.out.2.2.2.2.1; have q2 := D3.out.2.2.2.2.2.1; have q3 := D3.out.2.2.2.2.2.2; have q4 := k4.size; exact ⟨rd4, D3.out.2.1.kept k4 (by omega), D3.out.2.2.1.kept k4 (by omega), below_kept D3.out.2.2.2.1 k4 (by omega) (fun j hj => by omega), q1, q2, by omega, range_seen s4⟩); have hat := atDrop8 g; clear s4 hv4 hb4 ha4 rd4 k4 D3 HB) | ((with_reducible show wpList _ _ _ (({ dst := some 23, op := _, type := _, pos := _, after := _, guard := _ } : Oper) :: _) _ _); refine wpList_load_mid rfl 35 _ rfl g 0 rfl (u8s d) _ D4.out.2.2.2.2.2.2.2 Tryd.underlying35 rfl (by rw [u8s_length, HX.out.2.2.2.1]; exact size_Drop) ?_) | ((with_reducible show wpList _ _ _ (({ dst := some 9, op := _, type := _, pos := _, after := _, guard := _ } : Oper) :: _) _ _); refine wpList_alloc_new rfl 35 rfl 16 _ zero_Drop ?_; intro w5 b5 s5 l5; have z5 : Hid (w5.heap.size = w4.heap.size + 1) := s5; clear s5) | (refine wpList_store_blk rfl 35 35 (.tmp 9) (.tmp 23) rfl _ rfl _ (u8s d) rfl b5 (by rw [u8s_length, HX.out.2.2.2.1]; rfl) (by rw [u8s_length, HX.out.2.2.2.1]; exact size_Drop) (u8s_one _) ?_; intro w6 b6 s6 k6; have z6 : Hid (w6.heap.size = w5.heap.size) := s6; clear s6))
  have D6 : Hid (Rd w6 r ro rc zs 16 0 ∧ Blk w6 w.heap.size 23 c.cs ∧ Blk w6 w1.heap.size 35 (u8s (zer 16)) ∧ Below w.heap.size w w6 ∧ w.heap.size < w1.heap.size ∧ w1.heap.size < r ∧ w1.heap.size < w4.heap.size ∧ r < w4.heap.size ∧ w4.heap.size < w6.heap.size ∧ Blk w6 w4.heap.size 35 (u8s d)) := (by
    have q1 := D4.out.2.2.2.2.1
    have q2 := D4.out.2.2.2.2.2.1
    have q3 := D4.out.2.2.2.2.2.2.1
    have q5 := z5.out
    have q6 := z6.out
    have qr := D4.out.1.lt
    refine ⟨(D4.out.1.later l5 (Nat.le_refl _)).kept k6 (by omega) (fun g hg e => ?_), (D4.out.2.1.later l5 (by omega)).kept k6 (by omega), (D4.out.2.2.1.later l5 (by omega)).kept k6 (by omega), below_kept (below_chain D4.out.2.2.2.1 l5 (by omega)) k6 (by omega) (fun j hj => by omega), q1, q2, q3, qr, by omega, b6⟩
    have := D4.out.1.own.lt g (by rw [hg]; rfl)
    omega)
  clear b5 l5 b6 k6 D4 hat
  go_wp2_with fail
  have cm : w6.cell? ⟨w.heap.size, 1, none⟩ = some (.int .i64 (m : Int)) := by rw [D6.out.2.1.cell, HM.out]; rfl
  refine wp_region_noPanic (wp_region_held_drew (S := fun W => Blk W w4.heap.size 35 (u8s d) ∧ W.cell? ⟨w.heap.size, 1, none⟩ = some (.int .i64 (m : Int))) (by kernel_rfl) ⟨D6.out.2.2.2.2.2.2.2.2.2.drew, cm⟩ (fun hH => ?_))
  refine hLoad 0 (some 24) (u8s d) rfl rfl (by kernel_rfl) (by kernel_rfl) (by kernel_rfl) (fun _ _ _ h => h) (by rfl) 35 (.tmp 9) rfl w4.heap.size 0 rfl _ (fun _ h => wholeT h.1) Tryd.underlying35 rfl (by rw [u8s_length, HX.out.2.2.2.1]; exact size_Drop) hH ?_
  simp only [Act.put, List.setIfInBounds_toArray, List.set_cons_zero, List.set_cons_succ]
  refine hTake 1 (some 25) (.pointer (some ⟨r, 0, none⟩)) rfl rfl (by kernel_rfl) (by kernel_rfl) (by kernel_rfl) (fun _ _ _ h => h) (by rfl) (fun W' hS' => by go_simp) hH ?_
  simp only [Act.put, List.setIfInBounds_toArray, List.set_cons_zero, List.set_cons_succ]
  refine hTake 2 (some 26) (.pointer (some ⟨w.heap.size, 1, none⟩)) rfl rfl (by kernel_rfl) (by kernel_rfl) (by kernel_rfl) (fun _ _ _ h => h) (by rfl) (fun W' hS' => by go_simp) hH ?_
  simp only [Act.put, List.setIfInBounds_toArray, List.set_cons_zero, List.set_cons_succ]
  refine hTake 3 (some 27) (.int .i64 (m : Int)) rfl rfl (by kernel_rfl) (by kernel_rfl) (by kernel_rfl) (fun _ _ _ h => h) (by rfl) (fun W' hS' => by have := hS'.2; go_simp) hH ?_
  simp only [Act.put, List.setIfInBounds_toArray, List.set_cons_zero, List.set_cons_succ]
  refine wpAnyH_ready (rs := [4]) (by kernel_rfl) (by simp) (AllReadyH.cons rfl (fun K hK => ?_) AllReadyH.nil)
  have HB2 := rb_in r ro rc zs 16 m (by rw [HX.out.2.1]; omega) (by have := HX.out.2.2.1; omega) w6.drew (D6.out.1.later (B := w6.heap.size) (below_dn (Below.refl _ _) 1) (Nat.le_refl _))
  rw [HX.out.2.2.2.2.2.2] at HB2
  go_simp
  go_wp2_with (go_at_call 61; refine HB2.mono ?_; rintro e w7 ⟨vo, rfl, s7, _, hb7, _, _, k7⟩)
  have D7 : Hid (Blk w7 w4.heap.size 35 (u8s d) ∧ w7.cell? ⟨w.heap.size, 1, none⟩ = some (.int .i64 (m : Int)) ∧ Blk w7 w1.heap.size 35 (u8s (zer 16)) ∧ Below w.heap.size w w7 ∧ w.heap.size < w1.heap.size ∧ w1.heap.size < w4.heap.size ∧ w4.heap.size < w7.heap.size ∧ Seen w7 vo m (zs.drop 16) ∧ (∀ b o, vo = some ⟨b, o, none⟩ → w1.heap.size < b)) := (by
    have q1 := D6.out.2.2.2.2.1
    have q2 := D6.out.2.2.2.2.2.1
    have q3 := D6.out.2.2.2.2.2.2.1
    have q4 := D6.out.2.2.2.2.2.2.2.1
    have q5 := D6.out.2.2.2.2.2.2.2.2.1
    have q7 : w6.heap.size ≤ w7.heap.size := k7.size
    exact ⟨D6.out.2.2.2.2.2.2.2.2.2.drew.kept k7 (by omega), (k7.cell (p := ⟨w.heap.size, 1, none⟩) (by show w.heap.size < w6.heap.size; omega) (by show ¬ w.heap.size = r; omega)).trans cm, D6.out.2.2.1.drew.kept k7 (by omega), below_kept (below_dn D6.out.2.2.2.1 1) k7 (by show w.heap.size ≤ w6.heap.size; omega) (fun j hj => by omega), q1, q3, by omega, s7, fun b o h => (by have h2 : w6.heap.size ≤ b := hb7 b o h; omega)⟩)
  clear s7 hb7 k7 HB2 D6 cm
  refine hK.out _ _ ⟨D7.out.1, D7.out.2.1⟩ (fun hH => ?_)
  clear hK K
  refine wpAnyH_ready (rs := [5]) (by kernel_rfl) (by simp) (AllReadyH.cons rfl (fun K hK => ?_) AllReadyH.nil)
  rw [if_pos (by rfl)]
  refine last_store 35 (.tmp 4) (.tmp 24) rfl rfl w1.heap.size rfl 35 _ (u8s d) rfl D7.out.2.2.1 (by rw [u8s_length, HX.out.2.2.2.1]; rfl) (by rw [u8s_length, HX.out.2.2.2.1]; exact size_Drop) (u8s_one _) ?_
  intro w8 b8 s8 k8
  have q1 := D7.out.2.2.2.2.1
  have q2 := D7.out.2.2.2.2.2.1
  have q3 := D7.out.2.2.2.2.2.2.1
  have q8 := k8.size
  refine hK.out _ _ ⟨D7.out.1.kept k8 (by omega), (k8.cell (p := ⟨w.heap.size, 1, none⟩) (by show w.heap.size < w7.heap.size; omega) (by show ¬ w.heap.size = w1.heap.size; omega)).trans D7.out.2.1⟩ (fun hH => ?_)
  clear hK K
  refine hTake 6 (some 5) (.slice vo m m) rfl rfl (by kernel_rfl) (by kernel_rfl) (by kernel_rfl) (fun _ _ _ h => h) (by rfl) (fun W' hS' => by go_simp) hH ?_
  simp only [Act.put, List.setIfInBounds_toArray, List.set_cons_zero, List.set_cons_succ]
  refine hTake 7 (some 6) (.int .i64 0) rfl rfl (by kernel_rfl) (by kernel_rfl) (by kernel_rfl) (fun _ _ _ h => h) (by rfl) (fun W' hS' => by go_simp) hH ?_
  simp only [Act.put, List.setIfInBounds_toArray, List.set_cons_zero, List.set_cons_succ]
  refine wpAnyH_done (by kernel_rfl) (NoPanic.normal ?_) _
  have F8 : Hid (Seen w8 vo m (zs.drop 16) ∧ Below w.heap.size w w8) := ⟨seenKT D7.out.2.2.2.2.2.2.2.1 k8 (fun b o h e => (by have := D7.out.2.2.2.2.2.2.2.2 b o h; omega)), below_kept D7.out.2.2.2.1 k8 (by omega) (fun j hj => by omega)⟩
  clear hH k8 s8 D7 q1 q2 q3 q8
  go_wp2
  exact ret_btt rfl w1.heap.size (u8s d) _ _ _ rfl rfl rfl b8 Tryd.underlying35 rfl (by rw [u8s_length, HX.out.2.2.2.1]; exact size_Drop) rfl ⟨vo, m, rfl, rfl, F8.out⟩
set_option maxRecDepth 20000 in
set_option maxHeartbeats 1000000 in
theorem sized_any (ao : Option Addr) (n c : Nat) (zs : List Int) (m : Nat) (hm : m ≤ 1000) (w : World) (hx : Seen w ao n zs) :
    Calls Tryd.prog 47 #[.slice ao n c, .int .i64 m] w fun e w' => ∃ g, e = .returned (.slice (some ⟨g, 0, none⟩) m m) ∧ (∃ us, Seen w' (some ⟨g, 0, none⟩) m us) ∧ Below w.heap.size w w' := by
  obtain ⟨i0, hi, hz0, hz1, hz2⟩ := info_parts info_byte
  have t1 := hx.top
  have hmk := run_make (P := Tryd.prog) w 24 5 i0 (.int .u8 0) Tryd.underlying24 hi hz0 .i64 .i64 (m : Int) (m : Int) (by omega) (Int.le_refl _) (by rw [hz2]; omega) (by omega)
  rw [hz1, show ((m : Int).toNat) = m by omega, Nat.mul_one, show (Value.int .u8 0).cells = #[.int .u8 0] from rfl, made_zero8] at hmk
  obtain ⟨w1, hw1, HB⟩ : ∃ w1, w.alloc (.cells (u8s (List.replicate m 0)).toArray 5) = w1 ∧ Hid (Blk w1 w.heap.size 5 (u8s (List.replicate m 0)) ∧ Below w.heap.size w w1 ∧ w1.heap.size = w.heap.size + 1) := ⟨_, rfl, ⟨heap_alloc_new w _, (Below.refl _ _).alloc (Nat.le_refl _) _, by simp⟩⟩
  rw [hw1] at hmk
  have HX : Hid (Seen w ao n zs) := hx
  clear hw1 hx hi hz0 hz1 hz2
  go_enter Tryd.func47, Tryd.ntmps47
  go_wp2
  go_loopw [6] (fun i wr => ∃ (k : Nat) (us : List Int), k ≤ m ∧ i = .int .i64 k ∧ us.length = m ∧ Bytes us ∧ Blk wr w.heap.size 5 (u8s us) ∧ Kept (fun b => b = w.heap.size) w1 wr) (fun i _ => m - (intOf i).toNat)
  case atStart => exact ⟨0, List.replicate m 0, Nat.zero_le _, rfl, by simp, fun z hz => by rw [List.eq_of_mem_replicate hz]; omega, HB.out.1, Kept.refl _ _⟩
  case round =>
    obtain ⟨k, us, hk, rfl, hul, hub, hb, hkp⟩ := hrel
    have F : Hid (Seen wr (some ⟨w.heap.size, 0, none⟩) m us ∧ Below w.heap.size w wr) := ⟨⟨hul, by omega, hub, fun _ => ⟨w.heap.size, 0, rfl, hb.lt, fun i hi => by rw [Nat.zero_add, u8s_cell hb i (by omega)]⟩⟩, below_kept HB.out.2.1 hkp (by have := HB.out.2.2; omega) (fun j hj => by omega)⟩
    by_cases hlt : k < m
    · by_cases hln : k < n
      · obtain ⟨b, o, rfl, hbl, hc⟩ := HX.out.cells (by omega)
        have c1 : wr.cell? ⟨b, o + k, none⟩ = some (.int .u8 (zs.getD k 0)) := (F.out.2.cell (p := ⟨b, o + k, none⟩) hbl).trans (hc k hln)
        have c2 := u8s_cell hb k (by omega)
        have f2 := hb.frozen k
        have hzb := HX.out.bytes.at k (by rw [HX.out.len]; exact hln)
        obtain ⟨Z, hZ⟩ : ∃ Z, zs.getD k 0 = Z := ⟨_, rfl⟩
        rw [hZ] at c1 hzb
        have X0 : Hid (us.length = m ∧ Bytes us ∧ Blk wr w.heap.size 5 (u8s us) ∧ Kept (fun b => b = w.heap.size) w1 wr ∧ 0 ≤ Z ∧ Z < 256) := ⟨hul, hub, hb, hkp, hzb⟩
        have i1 : (0 : Int) ≤ (k : Int) := by omega
        have i2 : (k : Int) < (m : Int) := by omega
        have i3 : (k : Int) < (n : Int) := by omega
        clear hZ hc hb hkp hub hzb hbl F
        go_wp2
        have R1 := X0.out.2.2.1.set k (.int .u8 Z)
        rw [u8s_set] at R1
        exact ⟨⟨k + 1, us.set k Z, by omega, by go_num, by rw [List.length_set]; exact X0.out.1, bytes_set8 X0.out.2.1 k X0.out.2.2.2.2, R1, X0.out.2.2.2.1.setCell (S := fun b => b = w.heap.size) rfl _⟩, by simp [intOf]; omega⟩
      · have i2 : (k : Int) < (m : Int) := by omega
        have i3 : ¬ (k : Int) < (n : Int) := by omega
        clear hb hkp hub hul
        go_wp2
        go_ret
        exact ⟨w.heap.size, rfl, ⟨us, F.out.1⟩, F.out.2⟩
    · have i2 : ¬ (k : Int) < (m : Int) := by omega
      clear hb hkp hub hul
      go_wp2
      go_ret
      exact ⟨w.heap.size, rfl, ⟨us, F.out.1⟩, F.out.2⟩
end Go.Proofs.YtmgkjldjeomcmaaDoor
