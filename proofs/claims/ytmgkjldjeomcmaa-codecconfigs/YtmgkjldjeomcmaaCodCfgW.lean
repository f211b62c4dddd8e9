/- CodecConfigs: the walk. -/
import Derived.Test.YtmgkjldjeomcmaaCcCfgEq
import Derived.Test.YtmgkjldjeomcmaaCcRCfg
import Derived.Test.YtmgkjldjeomcmaaRSpare
import Derived.Test.YtmgkjldjeomcmaaREqb
import Derived.Test.YtmgkjldjeomcmaaDCopy
namespace Go.Proofs.Ytmgkjldjeomcmaa.codecConfigs
open Go.RowKit
set_option linter.unusedVariables false
set_option linter.unusedSimpArgs false

theorem rparse_any (ao : Option Addr) (n cap : Nat) (zs : List Int) (hcap : n ≤ cap) (w : World) (hx : Seen w ao n zs) : Calls Try.prog 6 #[.slice ao n cap] w fun e w' => e = .returned (.tuple #[.agg (pcC zs).cs.toArray, .int .i64 (pcE zs)]) ∧ Below w.heap.size w w' := by
  have hl := hx.len
  unfold pcC pcE
  rw [hl]
  by_cases h : n = 24
  · subst h
    rw [if_pos rfl, if_pos rfl]
    cases hok : (cgOf zs).ok with
    | true => exact rparse_ok ao cap zs hcap w hx hok
    | false => exact rparse_bad ao cap zs hcap w hx hok
  · rw [if_neg h, if_neg h]
    exact rparse_len ao n cap (by omega) w
theorem spared_bytes (zs : List Int) (h : Bytes zs) : Bytes (spared zs) := by
  intro z hz
  rcases List.mem_append.1 hz with h1 | h1
  · exact h z h1
  · obtain ⟨j, _, rfl⟩ := List.mem_map.1 h1
    unfold markB
    exact ⟨Int.emod_nonneg _ (by decide), Int.emod_lt_of_pos _ (by decide)⟩
theorem seenK {S : Nat} {w w' : World} {ao : Option Addr} {n : Nat} {zs : List Int} (h : Seen w ao n zs) (hk : Kept (fun k => k = S) w w') (hne : ∀ b o, ao = some ⟨b, o, none⟩ → b ≠ S) : Seen w' ao n zs :=
  ⟨h.len, h.top, h.bytes, fun h0 => by
    obtain ⟨b, o, e, hb, hc⟩ := h.cells h0
    exact ⟨b, o, e, Nat.lt_of_lt_of_le hb hk.size, fun i hi => (hk.cell (p := ⟨b, o + i, none⟩) hb (hne b o e)).trans (hc i hi)⟩⟩
theorem own_cap8 {w : World} {base : Nat} {v : Value} {n : Nat} {zs : List Int} (h : w.ownsRow base 5 1 v n (zs.map (Value.int .u8))) (hl : zs.length = n) (hb : Bytes zs) (ht : n ≤ 140737488355328) : ∃ ao c, v = .slice ao n c ∧ Seen w ao n zs ∧ n ≤ c ∧ (∀ b o, ao = some ⟨b, o, none⟩ → base ≤ b) := by
  rcases h.2 with ⟨rfl, h0⟩ | ⟨g, cap, cur, rfl, hg, hh, hc, _⟩
  · subst h0
    exact ⟨none, 0, rfl, ⟨hl, by decide, hb, fun h => by omega⟩, Nat.le_refl _, (fun _ _ h => by cases h)⟩
  · refine ⟨_, cap, rfl, ⟨hl, ht, hb, fun _ => ⟨g, 0, rfl, lt_of_block hh, fun i hi => ?_⟩⟩, hc, (fun b o h => by cases h; exact hg)⟩
    rw [Nat.zero_add, h.cellAt i (by omega)]
    simp [List.getD, hl ▸ hi]
/-- The bytes written over: so many. -/
def ov (ys us : List Int) (k : Nat) : List Int := ys.take k ++ us.drop k
theorem ov_zero (ys us : List Int) : ov ys us 0 = us := by simp [ov]
theorem ov_length (ys us : List Int) (k : Nat) (h1 : k ≤ ys.length) (h2 : k ≤ us.length) : (ov ys us k).length = us.length := by simp [ov]; omega
theorem ov_set (ys us : List Int) (k : Nat) (h1 : k < ys.length) (h2 : k < us.length) : (ov ys us k).set k (ys.getD k 0) = ov ys us (k + 1) := by
  unfold ov
  rw [List.set_append_right _ _ (by simp; omega), List.length_take, Nat.min_eq_left (by omega), Nat.sub_self, List.drop_eq_getElem_cons h2, List.set_cons_zero, List.take_succ_eq_append_getElem h1, List.append_assoc]
  simp [List.getD, h1]
theorem ov_bytes (ys us : List Int) (k : Nat) (h1 : Bytes ys) (h2 : Bytes us) : Bytes (ov ys us k) := by
  intro z hz
  rcases List.mem_append.1 hz with h | h
  · exact h1 z (List.mem_of_mem_take h)
  · exact h2 z (List.mem_of_mem_drop h)
set_option maxRecDepth 20000 in
set_option maxHeartbeats 4000000 in
theorem walk (ao bo : Option Addr) (n m c d : Nat) (zs ys : List Int) (w : World) (hx : Seen w ao n zs) (hy : Seen w bo m ys) (hc : n ≤ c) (hn : n ≤ 140737488351232) :
    Calls Try.prog 3 #[.slice ao n c, .slice bo m d] w fun e w' => e = .returned (.bool true) ∧ Below w.heap.size w w' := by
  have HX : Hid (Seen w ao n zs ∧ Seen w bo m ys ∧ n ≤ c ∧ n ≤ 140737488351232 ∧ zs.length = n ∧ ys.length = m) := ⟨hx, hy, hc, hn, hx.len, hy.len⟩
  obtain ⟨C, hC⟩ : ∃ C, pcC zs = C := ⟨_, rfl⟩
  obtain ⟨E, hE⟩ : ∃ E, pcE zs = E := ⟨_, rfl⟩
  have HP : Hid (∀ (W : World) (o : Option Addr) (k : Nat), Seen W o n zs → Calls Try.prog 5 #[.slice o n k] W fun e w' => e = .returned (.tuple #[.agg C.cs.toArray, .int .i64 E]) ∧ Below W.heap.size W w') := fun W o k h => hC ▸ hE ▸ parseConfig_any o n k zs W h
  have HR : Hid (∀ (W : World) (o : Option Addr) (k : Nat), n ≤ k → Seen W o n zs → Calls Try.prog 6 #[.slice o n k] W fun e w' => e = .returned (.tuple #[.agg C.cs.toArray, .int .i64 E]) ∧ Below W.heap.size W w') := fun W o k hk h => hC ▸ hE ▸ rparse_any o n k zs hk W h
  have hq := neq_cfg C
  have t2 := hy.top
  clear hC hE hx hy hc hn
  go_enter Try.func3, Try.ntmps3
  go_wp2_with fail
  refine (spare_big ao n c zs w HX.out.1 HX.out.2.2.2.1).mono ?_
  rintro e w1 ⟨rfl, b1, s1, l1⟩
  have S1 : Hid (Seen w1 (some ⟨w.heap.size, 0, none⟩) n zs ∧ Blk w1 w.heap.size 5 (u8s (spared zs)) ∧ Below w.heap.size w w1 ∧ w.heap.size < w1.heap.size) := (by have h := spared_big b1 HX.out.1.bytes (by have := HX.out.2.2.2.1; have := HX.out.2.2.2.2.1; omega); rw [HX.out.2.2.2.2.1] at h; exact ⟨h, b1, l1, by omega⟩)
  clear b1 s1 l1
  go_wp2_with fail
  refine (HP.out w1 _ _ S1.out.1).mono ?_
  rintro e w2 ⟨rfl, l2⟩
  have S2 : Hid (Blk w2 w.heap.size 5 (u8s (spared zs)) ∧ Below w.heap.size w w2 ∧ w.heap.size < w2.heap.size) := (by have := S1.out.2.2.2; have q := l2.size; exact ⟨S1.out.2.1.later l2 (by omega), below_chain S1.out.2.2.1 l2 (by omega), by omega⟩)
  clear l2
  go_wp2_with (first | ((with_reducible show wpList _ _ _ (({ dst := some 6, op := _, type := _, pos := _, after := _, guard := _ } : Oper) :: _) _ _); refine wpList_alloc_new rfl 25 rfl 6 _ cg_zero ?_; intro w3 b3 s3 l3; have z3 : Hid (w3.heap.size = w2.heap.size + 1) := s3; clear s3) | (refine wpList_store_blk rfl 25 25 (.tmp 6) (.tmp 17) rfl _ rfl _ C.cs rfl (b3) rfl (cg_size C) (cg_one C) ?_; intro w4 b4 s4 k4; have z4 : Hid (w4.heap.size = w3.heap.size) := s4; clear s4))
  refine (HR.out w4 _ _ HX.out.2.2.1 (HX.out.1.later (below_kept (below_chain S2.out.2.1 l3 (by have := S2.out.2.2; omega)) k4 (by have := S2.out.2.2; have := z3.out; omega) (fun j hj => by have := S2.out.2.2; omega)) (Nat.le_refl _))).mono ?_
  rintro e w5 ⟨rfl, l5⟩
  have S5 : Hid (Blk w5 w.heap.size 5 (u8s (spared zs)) ∧ Blk w5 w2.heap.size 25 C.cs ∧ Below w.heap.size w w5 ∧ w.heap.size < w2.heap.size ∧ w2.heap.size < w5.heap.size) := (by have h0 := S2.out.2.2; have h3 := z3.out; have h4 := z4.out; have h5 := l5.size; exact ⟨((S2.out.1.later l3 (by omega)).kept k4 (by omega)).later l5 (by omega), b4.later l5 (by omega), below_chain (below_kept (below_chain S2.out.2.1 l3 (by omega)) k4 (by omega) (fun j hj => by omega)) l5 (by omega), h0, by omega⟩)
  clear l3 k4 b3 b4 l5
  go_wp2_with (first | ((with_reducible show wpList _ _ _ (({ dst := some 8, op := _, type := _, pos := _, after := _, guard := _ } : Oper) :: _) _ _); refine wpList_alloc_new rfl 25 rfl 6 _ cg_zero ?_; intro w6 b6 s6 l6; have z6 : Hid (w6.heap.size = w5.heap.size + 1) := s6; clear s6) | (refine wpList_store_blk rfl 25 25 (.tmp 8) (.tmp 22) rfl _ rfl _ C.cs rfl (b6) rfl (cg_size C) (cg_one C) ?_; intro w7 b7 s7 k7; have z7 : Hid (w7.heap.size = w6.heap.size) := s7; clear s7; have S7 : Hid (Blk w7 w.heap.size 5 (u8s (spared zs)) ∧ Blk w7 w2.heap.size 25 C.cs ∧ Blk w7 w5.heap.size 25 C.cs ∧ Below w.heap.size w w7 ∧ w.heap.size < w2.heap.size ∧ w2.heap.size < w5.heap.size ∧ w5.heap.size < w7.heap.size) := (by have h0 := S5.out.2.2.2.1; have h5 := S5.out.2.2.2.2; have h6 := z6.out; have h7 := z7.out; exact ⟨(S5.out.1.later l6 (by omega)).kept k7 (by omega), (S5.out.2.1.later l6 (by omega)).kept k7 (by omega), b7, below_kept (below_chain S5.out.2.2.1 l6 (by omega)) k7 (by omega) (fun j hj => by omega), h0, h5, by omega⟩); clear l6 k7 b6 b7) | ((with_reducible show wpList _ _ _ (({ dst := some 24, op := _, type := _, pos := _, after := _, guard := _ } : Oper) :: _) _ _); refine wpList_load_blk rfl 25 (.tmp 6) rfl _ rfl C.cs _ (S7.out.2.1) Try.underlying25 rfl (cg_size C) ?_) | ((with_reducible show wpList _ _ _ (({ dst := some 25, op := _, type := _, pos := _, after := _, guard := _ } : Oper) :: _) _ _); refine wpList_load_blk rfl 25 (.tmp 8) rfl _ rfl C.cs _ (S7.out.2.2.1) Try.underlying25 rfl (cg_size C) ?_))
  refine (kept_big w.heap.size ao n c zs w7 S7.out.1 (HX.out.1.later S7.out.2.2.2.1 (Nat.le_refl _)) HX.out.2.2.2.1).mono ?_
  rintro e _ ⟨rfl, q8, rfl⟩
  have S8 : Hid (Blk (w7.drewN q8) w.heap.size 5 (u8s (spared zs)) ∧ Blk (w7.drewN q8) w2.heap.size 25 C.cs ∧ Blk (w7.drewN q8) w5.heap.size 25 C.cs ∧ Below w.heap.size w (w7.drewN q8) ∧ w.heap.size < w2.heap.size ∧ w2.heap.size < w5.heap.size ∧ w5.heap.size < (w7.drewN q8).heap.size) := ⟨S7.out.1.drewN q8, S7.out.2.1.drewN q8, S7.out.2.2.1.drewN q8, below_dn S7.out.2.2.2.1 q8, S7.out.2.2.2.2.1, S7.out.2.2.2.2.2.1, S7.out.2.2.2.2.2.2⟩
  clear HP HR hq
  obtain ⟨w8, hw8⟩ : ∃ w8, w7.drewN q8 = w8 := ⟨_, rfl⟩
  rw [hw8] at S8 ⊢
  clear hw8
  go_wp2_with fail
  go_loopw [10] (fun i wr => ∃ k : Nat, k ≤ n ∧ k ≤ m ∧ i = .int .i64 k ∧ Blk wr w.heap.size 5 (u8s (ov ys (spared zs) k)) ∧ Kept (fun b => b = w.heap.size) w8 wr ∧ w8.heap.size ≤ wr.heap.size) (fun i _ => n - (intOf i).toNat)
  case atStart => exact ⟨0, Nat.zero_le _, Nat.zero_le _, rfl, by rw [ov_zero]; exact S8.out.1, Kept.refl _ _, Nat.le_refl _⟩
  case round =>
    obtain ⟨k, hk1, hk2, rfl, hb, hkp, hsz⟩ := hrel
    have hsl := spared_length zs
    have hzl := HX.out.2.2.2.2.1
    have hyl := HX.out.2.2.2.2.2
    by_cases hlt : k < n ∧ k < m
    · obtain ⟨b, o, rfl, hbl, hcy⟩ := HX.out.2.1.cells (by omega)
      have c2 : wr.cell? ⟨b, o + k, none⟩ = some (.int .u8 (ys.getD k 0)) := (hkp.cell (p := ⟨b, o + k, none⟩) (by show b < _; have := S8.out.2.2.2.1.size; omega) (by show ¬ b = _; omega)).trans ((S8.out.2.2.2.1.cell (p := ⟨b, o + k, none⟩) hbl).trans (hcy k hlt.2))
      have hol : (ov ys (spared zs) k).length = zs.length + 80 := by rw [ov_length _ _ _ (by omega) (by omega), hsl]
      have c1 := u8s_cell hb k (by omega)
      have f1 := hb.frozen k
      have HS : Hid ((ov ys (spared zs) k).set k (ys.getD k 0) = ov ys (spared zs) (k + 1)) := ov_set ys (spared zs) k (by omega) (by omega)
      have X0 : Hid (Blk wr w.heap.size 5 (u8s (ov ys (spared zs) k)) ∧ Kept (fun b => b = w.heap.size) w8 wr ∧ w8.heap.size ≤ wr.heap.size) := ⟨hb, hkp, hsz⟩
      obtain ⟨Z, hZ⟩ : ∃ Z, ys.getD k 0 = Z := ⟨_, rfl⟩
      rw [hZ] at c2 HS
      have i1 : (0 : Int) ≤ (k : Int) := by omega
      have i2 : (k : Int) < (n : Int) := by omega
      have i3 : (k : Int) < (m : Int) := by omega
      have hk3 := hlt.1
      have hk4 := hlt.2
      clear hb hkp hZ hcy hol hlt hbl
      go_wp2
      have R1 := X0.out.1.set k (.int .u8 Z)
      rw [u8s_set, HS.out] at R1
      exact ⟨⟨k + 1, by omega, by omega, by go_num, R1, X0.out.2.1.setCell (S := fun b => b = w.heap.size) rfl _, by have := X0.out.2.2; simpa [World.setCell] using this⟩, by simp [intOf]; omega⟩
    · have hol : (ov ys (spared zs) k).length = n + 80 := by rw [ov_length _ _ _ (by omega) (by omega), hsl, hzl]
      have hob : Bytes (ov ys (spared zs) k) := ov_bytes _ _ _ HX.out.2.1.bytes (spared_bytes _ HX.out.1.bytes)
      obtain ⟨us, hus⟩ : ∃ us, ov ys (spared zs) k = us := ⟨_, rfl⟩
      rw [hus] at hb hol hob
      have HI : Hid (∀ W, Blk W w.heap.size 5 (u8s us) → Seen W (some ⟨w.heap.size, 0, none⟩) n (us.take n)) := fun W hW => ⟨by simp; omega, by have := HX.out.2.2.2.1; omega, bytes_take hob n, fun _ => ⟨w.heap.size, 0, rfl, hW.lt, fun i hi => by rw [Nat.zero_add, u8s_cell hW i (by omega)]; simp [List.getD, hi]⟩⟩
      have SB : Hid (Blk wr w.heap.size 5 (u8s us) ∧ Blk wr w2.heap.size 25 C.cs ∧ Blk wr w5.heap.size 25 C.cs ∧ Below w.heap.size w wr ∧ w.heap.size < w2.heap.size ∧ w2.heap.size < w5.heap.size ∧ w5.heap.size < wr.heap.size) := (by have h5 := S8.out.2.2.2.2.1; have h6 := S8.out.2.2.2.2.2.1; have h7 := S8.out.2.2.2.2.2.2; have h8 := S8.out.2.2.2.1; exact ⟨hb, S8.out.2.1.kept hkp (by omega), S8.out.2.2.1.kept hkp (by omega), below_kept h8 hkp (by have := h8.size; omega) (fun j hj => by omega), h5, h6, by omega⟩)
      obtain ⟨D, hD⟩ : ∃ D, pcC (us.take n) = D := ⟨_, rfl⟩
      obtain ⟨G, hG⟩ : ∃ G, pcE (us.take n) = G := ⟨_, rfl⟩
      have HP : Hid (∀ (W : World) (o : Option Addr) (k : Nat), Seen W o n (us.take n) → Calls Try.prog 5 #[.slice o n k] W fun e w' => e = .returned (.tuple #[.agg D.cs.toArray, .int .i64 G]) ∧ Below W.heap.size W w') := fun W o k h => hD ▸ hG ▸ parseConfig_any o n k _ W h
      have HR : Hid (∀ (W : World) (o : Option Addr) (k : Nat), n ≤ k → Seen W o n (us.take n) → Calls Try.prog 6 #[.slice o n k] W fun e w' => e = .returned (.tuple #[.agg D.cs.toArray, .int .i64 G]) ∧ Below W.heap.size W w') := fun W o k hk h => hD ▸ hG ▸ rparse_any o n k _ hk W h
      have hq := eql_cfg D
      have HT : Hid ((us.take n).length = n ∧ Bytes (us.take n)) := ⟨by simp; omega, bytes_take hob n⟩
      have hkn : k < n → ¬ k < m := fun h1 h2 => hlt ⟨h1, h2⟩
      clear hb hkp hD hG hol hob hus hlt S8 hsl hzl hyl
      generalize us.take n = vs at *
      by_cases hk3 : k < n
      · have hk4 := hkn hk3
        have i2 : (k : Int) < (n : Int) := by omega
        have i3 : ¬ (k : Int) < (m : Int) := by omega
        clear hkn
        go_wp2_with fail
        refine (copyB_any (some ⟨w.heap.size, 0, none⟩) n (n + 80) vs wr (HI.out wr SB.out.1)).mono ?_
        rintro e v9 ⟨v, rfl, ho, l9⟩
        obtain ⟨vo, vc, rfl, hs9, hle, hbb⟩ : ∃ vo vc, v = .slice vo n vc ∧ Seen v9 vo n vs ∧ n ≤ vc ∧ (∀ b o, vo = some ⟨b, o, none⟩ → wr.heap.size ≤ b) := own_cap8 ho HT.out.1 HT.out.2 (by have := HX.out.2.2.2.1; omega)
        have S9 : Hid (Blk v9 w.heap.size 5 (u8s us) ∧ Blk v9 w2.heap.size 25 C.cs ∧ Blk v9 w5.heap.size 25 C.cs ∧ Below w.heap.size w v9 ∧ w.heap.size < w2.heap.size ∧ w2.heap.size < w5.heap.size ∧ w5.heap.size < v9.heap.size ∧ Seen v9 vo n vs ∧ n ≤ vc) := (by have h5 := SB.out.2.2.2.2.1; have h6 := SB.out.2.2.2.2.2.1; have h7 := SB.out.2.2.2.2.2.2; have h8 := l9.size; exact ⟨SB.out.1.later l9 (by omega), SB.out.2.1.later l9 (by omega), SB.out.2.2.1.later l9 (by omega), below_chain SB.out.2.2.2.1 l9 (by omega), h5, h6, by omega, hs9, hle⟩)
        have HB9 : Hid (∀ b o, vo = some ⟨b, o, none⟩ → w5.heap.size < b ∧ w2.heap.size < b) := fun b o h => by have := hbb b o h; have := SB.out.2.2.2.2.2.2; have := SB.out.2.2.2.2.2.1; omega
        clear SB ho l9 hs9 hle hbb
        go_wp2_with fail
        refine (HP.out v9 _ _ (HI.out v9 S9.out.1)).mono ?_
        rintro e v10 ⟨rfl, l10⟩
        have T10 : Hid (Blk v10 w.heap.size 5 (u8s us) ∧ Blk v10 w2.heap.size 25 C.cs ∧ Blk v10 w5.heap.size 25 C.cs ∧ Below w.heap.size w v10 ∧ w.heap.size < w2.heap.size ∧ w2.heap.size < w5.heap.size ∧ w5.heap.size < v10.heap.size ∧ Seen v10 vo n vs ∧ n ≤ vc) := (by have h5 := S9.out.2.2.2.2.1; have h6 := S9.out.2.2.2.2.2.1; have h7 := S9.out.2.2.2.2.2.2.1; have h8 := l10.size; exact ⟨S9.out.1.later l10 (by omega), S9.out.2.1.later l10 (by omega), S9.out.2.2.1.later l10 (by omega), below_chain S9.out.2.2.2.1 l10 (by omega), h5, h6, by omega, S9.out.2.2.2.2.2.2.2.1.later l10 (Nat.le_refl _), S9.out.2.2.2.2.2.2.2.2⟩)
        clear S9 l10
        go_wp2_with (refine wpList_store_blk rfl 25 25 (.tmp 6) (.tmp 62) rfl _ rfl _ D.cs rfl T10.out.2.1 rfl (cg_size D) (cg_one D) ?_; intro v11 b11 s11 k11; have z11 : Hid (v11.heap.size = v10.heap.size) := s11; clear s11)
        have T11 : Hid (Blk v11 w.heap.size 5 (u8s us) ∧ Blk v11 w2.heap.size 25 D.cs ∧ Blk v11 w5.heap.size 25 C.cs ∧ Below w.heap.size w v11 ∧ w.heap.size < w2.heap.size ∧ w2.heap.size < w5.heap.size ∧ w5.heap.size < v11.heap.size ∧ Seen v11 vo n vs ∧ n ≤ vc) := (by have h5 := T10.out.2.2.2.2.1; have h6 := T10.out.2.2.2.2.2.1; have h7 := T10.out.2.2.2.2.2.2.1; have h11 := z11.out; exact ⟨T10.out.1.kept k11 (by omega), b11, T10.out.2.2.1.kept k11 (by omega), below_kept T10.out.2.2.2.1 k11 (by omega) (fun j hj => by omega), h5, h6, by omega, seenK T10.out.2.2.2.2.2.2.2.1 k11 (fun b o h e => by have := (HB9.out b o h).2; omega), T10.out.2.2.2.2.2.2.2.2⟩)
        clear T10 k11 b11
        refine (HR.out v11 _ _ T11.out.2.2.2.2.2.2.2.2 T11.out.2.2.2.2.2.2.2.1).mono ?_
        rintro e v12 ⟨rfl, l12⟩
        have T12 : Hid (Blk v12 w.heap.size 5 (u8s us) ∧ Blk v12 w2.heap.size 25 D.cs ∧ Blk v12 w5.heap.size 25 C.cs ∧ Below w.heap.size w v12 ∧ w.heap.size < w2.heap.size ∧ w2.heap.size < w5.heap.size ∧ w5.heap.size < v12.heap.size ∧ Seen v12 vo n vs) := (by have h5 := T11.out.2.2.2.2.1; have h6 := T11.out.2.2.2.2.2.1; have h7 := T11.out.2.2.2.2.2.2.1; have h8 := l12.size; exact ⟨T11.out.1.later l12 (by omega), T11.out.2.1.later l12 (by omega), T11.out.2.2.1.later l12 (by omega), below_chain T11.out.2.2.2.1 l12 (by omega), h5, h6, by omega, T11.out.2.2.2.2.2.2.2.1.later l12 (Nat.le_refl _)⟩)
        clear T11 l12
        go_wp2_with (first | (refine wpList_store_blk rfl 25 25 (.tmp 8) (.tmp 67) rfl _ rfl _ D.cs rfl T12.out.2.2.1 rfl (cg_size D) (cg_one D) ?_; intro v13 b13 s13 k13; have z13 : Hid (v13.heap.size = v12.heap.size) := s13; clear s13; have T13 : Hid (Blk v13 w.heap.size 5 (u8s us) ∧ Blk v13 w2.heap.size 25 D.cs ∧ Blk v13 w5.heap.size 25 D.cs ∧ Below w.heap.size w v13 ∧ Seen v13 vo n vs) := (by have h5 := T12.out.2.2.2.2.1; have h6 := T12.out.2.2.2.2.2.1; have h7 := T12.out.2.2.2.2.2.2.1; have h11 := z13.out; exact ⟨T12.out.1.kept k13 (by omega), T12.out.2.1.kept k13 (by omega), b13, below_kept T12.out.2.2.2.1 k13 (by omega) (fun j hj => by omega), seenK T12.out.2.2.2.2.2.2.2 k13 (fun b o h e => by have := (HB9.out b o h).1; omega)⟩); clear T12 k13 b13) | ((with_reducible show wpList _ _ _ (({ dst := some 69, op := _, type := _, pos := _, after := _, guard := _ } : Oper) :: _) _ _); refine wpList_load_blk rfl 25 (.tmp 6) rfl _ rfl D.cs _ T13.out.2.1 Try.underlying25 rfl (cg_size D) ?_) | ((with_reducible show wpList _ _ _ (({ dst := some 70, op := _, type := _, pos := _, after := _, guard := _ } : Oper) :: _) _ _); refine wpList_load_blk rfl 25 (.tmp 8) rfl _ rfl D.cs _ T13.out.2.2.1 Try.underlying25 rfl (cg_size D) ?_))
        have HE : Hid (decide (vs = vs) = true) := by show _ = _; simp
        refine (reqb_any (some ⟨w.heap.size, 0, none⟩) vo n n (n + 80) vc vs vs v13 (HI.out v13 T13.out.1) T13.out.2.2.2.2).mono ?_
        rintro e _ ⟨rfl, q14, rfl⟩
        rw [HE.out]
        go_wp2_with fail
        go_ret
        exact ⟨rfl, below_dn T13.out.2.2.2.1 q14⟩
      · have i2 : ¬ (k : Int) < (n : Int) := by omega
        clear hkn
        go_wp2_with fail
        refine (copyB_any (some ⟨w.heap.size, 0, none⟩) n (n + 80) vs wr (HI.out wr SB.out.1)).mono ?_
        rintro e v9 ⟨v, rfl, ho, l9⟩
        obtain ⟨vo, vc, rfl, hs9, hle, hbb⟩ : ∃ vo vc, v = .slice vo n vc ∧ Seen v9 vo n vs ∧ n ≤ vc ∧ (∀ b o, vo = some ⟨b, o, none⟩ → wr.heap.size ≤ b) := own_cap8 ho HT.out.1 HT.out.2 (by have := HX.out.2.2.2.1; omega)
        have S9 : Hid (Blk v9 w.heap.size 5 (u8s us) ∧ Blk v9 w2.heap.size 25 C.cs ∧ Blk v9 w5.heap.size 25 C.cs ∧ Below w.heap.size w v9 ∧ w.heap.size < w2.heap.size ∧ w2.heap.size < w5.heap.size ∧ w5.heap.size < v9.heap.size ∧ Seen v9 vo n vs ∧ n ≤ vc) := (by have h5 := SB.out.2.2.2.2.1; have h6 := SB.out.2.2.2.2.2.1; have h7 := SB.out.2.2.2.2.2.2; have h8 := l9.size; exact ⟨SB.out.1.later l9 (by omega), SB.out.2.1.later l9 (by omega), SB.out.2.2.1.later l9 (by omega), below_chain SB.out.2.2.2.1 l9 (by omega), h5, h6, by omega, hs9, hle⟩)
        have HB9 : Hid (∀ b o, vo = some ⟨b, o, none⟩ → w5.heap.size < b ∧ w2.heap.size < b) := fun b o h => by have := hbb b o h; have := SB.out.2.2.2.2.2.2; have := SB.out.2.2.2.2.2.1; omega
        clear SB ho l9 hs9 hle hbb
        go_wp2_with fail
        refine (HP.out v9 _ _ (HI.out v9 S9.out.1)).mono ?_
        rintro e v10 ⟨rfl, l10⟩
        have T10 : Hid (Blk v10 w.heap.size 5 (u8s us) ∧ Blk v10 w2.heap.size 25 C.cs ∧ Blk v10 w5.heap.size 25 C.cs ∧ Below w.heap.size w v10 ∧ w.heap.size < w2.heap.size ∧ w2.heap.size < w5.heap.size ∧ w5.heap.size < v10.heap.size ∧ Seen v10 vo n vs ∧ n ≤ vc) := (by have h5 := S9.out.2.2.2.2.1; have h6 := S9.out.2.2.2.2.2.1; have h7 := S9.out.2.2.2.2.2.2.1; have h8 := l10.size; exact ⟨S9.out.1.later l10 (by omega), S9.out.2.1.later l10 (by omega), S9.out.2.2.1.later l10 (by omega), below_chain S9.out.2.2.2.1 l10 (by omega), h5, h6, by omega, S9.out.2.2.2.2.2.2.2.1.later l10 (Nat.le_refl _), S9.out.2.2.2.2.2.2.2.2⟩)
        clear S9 l10
        go_wp2_with (refine wpList_store_blk rfl 25 25 (.tmp 6) (.tmp 62) rfl _ rfl _ D.cs rfl T10.out.2.1 rfl (cg_size D) (cg_one D) ?_; intro v11 b11 s11 k11; have z11 : Hid (v11.heap.size = v10.heap.size) := s11; clear s11)
        have T11 : Hid (Blk v11 w.heap.size 5 (u8s us) ∧ Blk v11 w2.heap.size 25 D.cs ∧ Blk v11 w5.heap.size 25 C.cs ∧ Below w.heap.size w v11 ∧ w.heap.size < w2.heap.size ∧ w2.heap.size < w5.heap.size ∧ w5.heap.size < v11.heap.size ∧ Seen v11 vo n vs ∧ n ≤ vc) := (by have h5 := T10.out.2.2.2.2.1; have h6 := T10.out.2.2.2.2.2.1; have h7 := T10.out.2.2.2.2.2.2.1; have h11 := z11.out; exact ⟨T10.out.1.kept k11 (by omega), b11, T10.out.2.2.1.kept k11 (by omega), below_kept T10.out.2.2.2.1 k11 (by omega) (fun j hj => by omega), h5, h6, by omega, seenK T10.out.2.2.2.2.2.2.2.1 k11 (fun b o h e => by have := (HB9.out b o h).2; omega), T10.out.2.2.2.2.2.2.2.2⟩)
        clear T10 k11 b11
        refine (HR.out v11 _ _ T11.out.2.2.2.2.2.2.2.2 T11.out.2.2.2.2.2.2.2.1).mono ?_
        rintro e v12 ⟨rfl, l12⟩
        have T12 : Hid (Blk v12 w.heap.size 5 (u8s us) ∧ Blk v12 w2.heap.size 25 D.cs ∧ Blk v12 w5.heap.size 25 C.cs ∧ Below w.heap.size w v12 ∧ w.heap.size < w2.heap.size ∧ w2.heap.size < w5.heap.size ∧ w5.heap.size < v12.heap.size ∧ Seen v12 vo n vs) := (by have h5 := T11.out.2.2.2.2.1; have h6 := T11.out.2.2.2.2.2.1; have h7 := T11.out.2.2.2.2.2.2.1; have h8 := l12.size; exact ⟨T11.out.1.later l12 (by omega), T11.out.2.1.later l12 (by omega), T11.out.2.2.1.later l12 (by omega), below_chain T11.out.2.2.2.1 l12 (by omega), h5, h6, by omega, T11.out.2.2.2.2.2.2.2.1.later l12 (Nat.le_refl _)⟩)
        clear T11 l12
        go_wp2_with (first | (refine wpList_store_blk rfl 25 25 (.tmp 8) (.tmp 67) rfl _ rfl _ D.cs rfl T12.out.2.2.1 rfl (cg_size D) (cg_one D) ?_; intro v13 b13 s13 k13; have z13 : Hid (v13.heap.size = v12.heap.size) := s13; clear s13; have T13 : Hid (Blk v13 w.heap.size 5 (u8s us) ∧ Blk v13 w2.heap.size 25 D.cs ∧ Blk v13 w5.heap.size 25 D.cs ∧ Below w.heap.size w v13 ∧ Seen v13 vo n vs) := (by have h5 := T12.out.2.2.2.2.1; have h6 := T12.out.2.2.2.2.2.1; have h7 := T12.out.2.2.2.2.2.2.1; have h11 := z13.out; exact ⟨T12.out.1.kept k13 (by omega), T12.out.2.1.kept k13 (by omega), b13, below_kept T12.out.2.2.2.1 k13 (by omega) (fun j hj => by omega), seenK T12.out.2.2.2.2.2.2.2 k13 (fun b o h e => by have := (HB9.out b o h).1; omega)⟩); clear T12 k13 b13) | ((with_reducible show wpList _ _ _ (({ dst := some 69, op := _, type := _, pos := _, after := _, guard := _ } : Oper) :: _) _ _); refine wpList_load_blk rfl 25 (.tmp 6) rfl _ rfl D.cs _ T13.out.2.1 Try.underlying25 rfl (cg_size D) ?_) | ((with_reducible show wpList _ _ _ (({ dst := some 70, op := _, type := _, pos := _, after := _, guard := _ } : Oper) :: _) _ _); refine wpList_load_blk rfl 25 (.tmp 8) rfl _ rfl D.cs _ T13.out.2.2.1 Try.underlying25 rfl (cg_size D) ?_))
        have HE : Hid (decide (vs = vs) = true) := by show _ = _; simp
        refine (reqb_any (some ⟨w.heap.size, 0, none⟩) vo n n (n + 80) vc vs vs v13 (HI.out v13 T13.out.1) T13.out.2.2.2.2).mono ?_
        rintro e _ ⟨rfl, q14, rfl⟩
        rw [HE.out]
        go_wp2_with fail
        go_ret
        exact ⟨rfl, below_dn T13.out.2.2.2.1 q14⟩
end Go.Proofs.Ytmgkjldjeomcmaa.codecConfigs
