/- Layer stream: lay, Xor, Skip. -/
import Derived.Test.YtpjnimmclncdoaaSNew
namespace Go.Proofs.Ytpjnimmclncdoaa
open Go.RowKit
set_option linter.unusedVariables false
set_option linter.unusedSimpArgs false

set_option maxRecDepth 20000 in
theorem at_nil (w : World) : Calls Try.prog 6 #[.pointer none] w fun e w' => e = .returned (.int .u64 0) ∧ w = w' := by
  go_enter Try.func6, Try.ntmps6
  go_wp2
  go_ret
  exact ⟨rfl, rfl⟩
theorem skip_nil (n : Int) (w : World) : Calls Try.prog 13 #[.pointer none, .int .i64 n] w fun e w' => e = .returned (.int .i64 1) ∧ w = w' := by
  go_enter Try.func13, Try.ntmps13
  go_wp2_with (go_at_call 15; refine (check_nil n _).mono ?_; rintro e w' ⟨rfl, rfl⟩)
  go_ret
  exact ⟨rfl, rfl⟩
theorem skip_bad (g : Nat) (key nonce : List Int) (P : Nat) (n : Int) (hn : -9223372036854775808 ≤ n ∧ n < 9223372036854775808) (hc : chk n P ≠ 0) (w : World) (h : StAt w g key nonce P) :
    Calls Try.prog 13 #[.pointer (some ⟨g, 0, none⟩), .int .i64 n] w fun e w' => e = .returned (.int .i64 (chk n P)) ∧ w = w' := by
  have hk := check_any g key nonce P n hn w h
  generalize chk n P = E at *
  have hb : (E != 0) = true := by simpa using hc
  clear h
  go_enter Try.func13, Try.ntmps13
  go_wp2_with (go_at_call 15; refine hk.mono ?_; rintro e w' ⟨rfl, rfl⟩)
  go_ret
  exact ⟨rfl, rfl⟩
theorem chk_ok {n : Int} {P : Nat} (h0 : 0 ≤ n) (h1 : n + P ≤ 274877906944) : chk n P = 0 := by unfold chk; rw [if_neg (by omega), if_neg (by omega)]
theorem chk_over {n : Int} {P : Nat} (h0 : 0 ≤ n) (h1 : 274877906944 < n + P) : chk n P = 50 := by unfold chk; rw [if_neg (by omega), if_pos (by omega)]
theorem skip_ok (g : Nat) (key nonce : List Int) (P n : Nat) (hc : n + P ≤ 274877906944) (w : World) (h : StAt w g key nonce P) :
    Calls Try.prog 13 #[.pointer (some ⟨g, 0, none⟩), .int .i64 n] w fun e w' => e = .returned (.int .i64 0) ∧ StAt w' g key nonce (P + n) ∧ Kept (fun k => k = g) w w' := by
  have hk := check_any g key nonce P n (by omega) w h
  rw [chk_ok (by omega) (by omega)] at hk
  have c1 := h.place
  have f1 := h.frozen 44
  have HH : Hid (StAt w g key nonce P) := h
  have v1 : IntKind.u64.wrap (n : Int) = (n : Int) := by simp only [IntKind.wrap, IntKind.bits, IntKind.signed]; simp; omega
  have v2 : IntKind.u64.wrap ((P : Int) + (n : Int)) = ((P + n : Nat) : Int) := by simp only [IntKind.wrap, IntKind.bits, IntKind.signed]; simp; omega
  clear h
  go_enter Try.func13, Try.ntmps13
  go_wp2_with (go_at_call 15; refine hk.mono ?_; rintro e w' ⟨rfl, rfl⟩)
  go_ret
  exact ⟨rfl, by have := HH.out.move (P + n) (by omega); simpa using this, (Kept.refl (fun k => k = g) _).setCell (S := fun k => k = g) rfl _⟩
/-- Block r begins with the bytes zs and has room for cap bytes in all. -/
def RowC (w : World) (r cap : Nat) (zs : List Int) : Prop := ∃ rest : List Value, w.heap[r]? = some (.cells (zs.map (Value.int .u8) ++ rest).toArray 5 (0, 0)) ∧ zs.length + rest.length = cap
theorem RowC.row {w : World} {r cap : Nat} {zs : List Int} (h : RowC w r cap zs) : RowAt w r zs := ⟨h.choose, h.choose_spec.1⟩
theorem RowC.cell {w : World} {r cap : Nat} {zs : List Int} (h : RowC w r cap zs) (j : Nat) (hj : j < zs.length) : w.cell? ⟨r, j, none⟩ = some (.int .u8 (zs.getD j 0)) := h.row.cell j hj
theorem RowC.frozen {w : World} {r cap : Nat} {zs : List Int} (h : RowC w r cap zs) (j : Nat) : w.frozen? ⟨r, j, none⟩ = false := h.row.frozen j
theorem RowC.lt {w : World} {r cap : Nat} {zs : List Int} (h : RowC w r cap zs) : r < w.heap.size := h.row.lt
theorem RowC.set {w : World} {r cap : Nat} {zs : List Int} (h : RowC w r cap zs) (j : Nat) (hj : j < zs.length) (z : Int) : RowC (w.setCell ⟨r, j, none⟩ (.int .u8 z)) r cap (zs.set j z) := by
  obtain ⟨rest, h, hl⟩ := h
  refine ⟨rest, ?_, by rw [List.length_set]; exact hl⟩
  rw [heap_setCell_same w r j _ 5 _ h, List.map_set]
  simp [hj]
theorem RowC.block {w w' : World} {r cap : Nat} {zs : List Int} (h : RowC w r cap zs) (e : w'.heap[r]? = w.heap[r]?) : RowC w' r cap zs := by
  obtain ⟨rest, h, hl⟩ := h
  exact ⟨rest, by rw [e]; exact h, hl⟩
theorem RowC.other {w : World} {r cap : Nat} {zs : List Int} (h : RowC w r cap zs) {p : Addr} (hp : r ≠ p.block) (u : Value) : RowC (w.setCell p u) r cap zs := h.block (Below.heap_setCell _ _ _ _ hp)
theorem RowC.later {w w' : World} {r cap : Nat} {zs : List Int} (h : RowC w r cap zs) {B : Nat} (hb : Below B w w') (hB : w.heap.size ≤ B) : RowC w' r cap zs := h.block (hb.block r (Nat.lt_of_lt_of_le h.lt hB))
theorem RowC.of_own {w : World} {base r n cap : Nat} {zs : List Int} (h : w.ownsRow base 5 1 (.slice (some ⟨r, 0, none⟩) n cap) n (zs.map (Value.int .u8))) : RowC w r cap zs := by
  obtain ⟨hl, h⟩ := h
  rcases h with ⟨h, _⟩ | ⟨r', cap', cur, h, hb, hh, hc, hm, hs, ht⟩
  · cases h
  · simp only [Value.slice.injEq, Option.some.injEq, Addr.mk.injEq, and_true, true_and] at h
    obtain ⟨rfl, rfl⟩ := h
    rw [Nat.mul_one] at ht hs
    refine ⟨cur.toList.drop n, ?_, ?_⟩
    · rw [← ht, List.take_append_drop]; simpa using hh
    · simp at hl; simp; omega
theorem RowC.own {w : World} {base r n cap : Nat} {zs : List Int} (h : RowC w r cap zs) (hl : zs.length = n) (hb : base ≤ r) (hm : cap ≤ maxLen) : w.ownsRow base 5 1 (.slice (some ⟨r, 0, none⟩) n cap) n (zs.map (Value.int .u8)) := by
  obtain ⟨rest, h, hc⟩ := h
  refine ⟨by simp [hl], .inr ⟨r, cap, _, rfl, hb, h, by omega, hm, by simp; omega, ?_⟩⟩
  rw [Nat.mul_one, List.take_append_of_le_length (by simp [hl]), List.take_of_length_le (by simp [hl])]
set_option maxRecDepth 20000 in
set_option maxHeartbeats 1000000 in
theorem lay_any (g r : Nat) (key nonce zs : List Int) (P0 k N m c cap : Nat) (hN : zs.length = N) (hm : m = N - k) (hk : k < N) (hP : P0 + N ≤ 274877906944) (hgr : g ≠ r) (hb : Bytes zs) (hmc : m ≤ c) (w : World)
    (h : StAt w g key nonce (P0 + k)) (hr : RowC w r cap ((over key nonce P0 zs).take k ++ zs.drop k)) :
    Calls Try.prog 17 #[.pointer (some ⟨g, 0, none⟩), .slice (some ⟨r, k, none⟩) m c] w fun e w' => ∃ n : Nat, e = .returned (.int .i64 n) ∧ 0 < n ∧ k + n ≤ N ∧ StAt w' g key nonce (P0 + (k + n)) ∧ RowC w' r cap ((over key nonce P0 zs).take (k + n) ++ zs.drop (k + n)) ∧ Kept (fun b => b = g ∨ b = r) w w' := by
  have HH : Hid (StAt w g key nonce (P0 + k)) := h
  have HR : Hid (RowC w r cap ((over key nonce P0 zs).take k ++ zs.drop k)) := hr
  have HN : Hid (zs.length = N ∧ m = N - k ∧ Bytes zs) := ⟨hN, hm, hb⟩
  have c1 := h.place
  obtain ⟨P, hPk⟩ : ∃ P, P = P0 + k := ⟨_, rfl⟩
  rw [← hPk] at HH c1
  have HPk : Hid (P = P0 + k) := hPk
  have hP1 : P < 274877906944 := by omega
  clear h hr hN hm hb hPk
  go_enter Try.func17, Try.ntmps17
  go_wp2_with fail
  obtain ⟨Q, hQ⟩ : ∃ Q, Q = P / 64 := ⟨_, rfl⟩
  have q1 : (P : Int) / 64 = (Q : Int) := by omega
  have q2 : (P : Int).tdiv 64 = (Q : Int) := by rw [Int.tdiv_eq_ediv_of_nonneg (by omega)]; exact q1
  have q3 : IntKind.u32.wrap (Q : Int) = (Q : Int) := by simp only [IntKind.wrap, IntKind.bits, IntKind.signed]; simp; omega
  have q4 : IntKind.u64.wrap (Q : Int) = (Q : Int) := by simp only [IntKind.wrap, IntKind.bits, IntKind.signed]; simp; omega
  have HQ : Hid (Q = P / 64) := hQ
  clear hQ
  have RS : Hid (∀ W, Below w.heap.size w W → W.rangeAt g 0 (u8s key) ∧ W.rangeAt g 32 (u8s nonce) ∧ W.cell? ⟨g, 44, none⟩ = some (.int .u64 P)) := fun W hW => by
    have hs := HH.out.later hW HH.out.lt
    exact ⟨hs.key, hs.nonce, hs.place⟩
  have HS : Hid (w.drew.rangeAt g 0 (u8s key) ∧ w.drew.rangeAt g 32 (u8s nonce) ∧ w.drew.cell? ⟨g, 44, none⟩ = some (.int .u64 P)) := RS.out _ (below_dn (Below.refl _ _) 1)
  refine wp_region_noPanic (till_region 16 (fun W => W.rangeAt g 0 (u8s key) ∧ W.rangeAt g 32 (u8s nonce) ∧ W.cell? ⟨g, 44, none⟩ = some (.int .u64 P)) (by kernel_rfl) ?_)
  change wpTill _ _ _ _ _ _ _ _ w.drew
  refine tTake 0 (some 9) (.pointer (some ⟨g, 0, none⟩)) rfl rfl (by kernel_rfl) (by kernel_rfl) (by kernel_rfl) (by decide) (fun _ _ _ h => h) (by rfl) (fun _ => by rfl) HS.out ?_
  simp only [Act.put, List.setIfInBounds_toArray, List.set_cons_zero, List.set_cons_succ]
  refine tTake 1 (some 10) (.pointer (some ⟨g, 0, none⟩)) rfl rfl (by kernel_rfl) (by kernel_rfl) (by kernel_rfl) (by decide) (fun _ _ _ h => h) (by rfl) (fun _ => by go_simp) HS.out ?_
  simp only [Act.put, List.setIfInBounds_toArray, List.set_cons_zero, List.set_cons_succ]
  refine tTake 2 (some 11) (.pointer (some ⟨g, 0, none⟩)) rfl rfl (by kernel_rfl) (by kernel_rfl) (by kernel_rfl) (by decide) (fun _ _ _ h => h) (by rfl) (fun _ => by go_simp) HS.out ?_
  simp only [Act.put, List.setIfInBounds_toArray, List.set_cons_zero, List.set_cons_succ]
  refine tLoadMid 3 (some 12) (u8s key) rfl rfl (by kernel_rfl) (by kernel_rfl) (by kernel_rfl) (by decide) (by kernel_rfl) (by kernel_rfl) (fun _ _ _ h => h) (by rfl) 23 (.tmp 11) rfl g 0 rfl _ (fun _ h => h.1) Try.underlying23 rfl (by rw [u8s_length, HH.out.k32]; exact sizeKey) HS.out ?_
  simp only [Act.put, List.setIfInBounds_toArray, List.set_cons_zero, List.set_cons_succ]
  refine tTake 4 (some 13) (.pointer (some ⟨g, 0, none⟩)) rfl rfl (by kernel_rfl) (by kernel_rfl) (by kernel_rfl) (by decide) (fun _ _ _ h => h) (by rfl) (fun _ => by rfl) HS.out ?_
  simp only [Act.put, List.setIfInBounds_toArray, List.set_cons_zero, List.set_cons_succ]
  refine tTake 5 (some 14) (.pointer (some ⟨g, 0, none⟩)) rfl rfl (by kernel_rfl) (by kernel_rfl) (by kernel_rfl) (by decide) (fun _ _ _ h => h) (by rfl) (fun _ => by go_simp) HS.out ?_
  simp only [Act.put, List.setIfInBounds_toArray, List.set_cons_zero, List.set_cons_succ]
  refine tTake 6 (some 15) (.pointer (some ⟨g, 44, none⟩)) rfl rfl (by kernel_rfl) (by kernel_rfl) (by kernel_rfl) (by decide) (fun _ _ _ h => h) (by rfl) (fun _ => by go_simp) HS.out ?_
  simp only [Act.put, List.setIfInBounds_toArray, List.set_cons_zero, List.set_cons_succ]
  refine tLoad 7 (some 16) (.int .u64 P) rfl rfl (by kernel_rfl) (by kernel_rfl) (by kernel_rfl) (by decide) (by kernel_rfl) (by kernel_rfl) (fun _ _ _ h => h) (by rfl) (fun W' hS' => by obtain ⟨s1, s2, s3⟩ := hS'; go_simp) HS.out ?_
  simp only [Act.put, List.setIfInBounds_toArray, List.set_cons_zero, List.set_cons_succ]
  refine tTake 8 (some 17) (.int .u64 Q) rfl rfl (by kernel_rfl) (by kernel_rfl) (by kernel_rfl) (by decide) (fun _ _ _ h => h) (by rfl) (fun _ => by go_simp) HS.out ?_
  simp only [Act.put, List.setIfInBounds_toArray, List.set_cons_zero, List.set_cons_succ]
  refine tTake 9 (some 18) (.int .u32 Q) rfl rfl (by kernel_rfl) (by kernel_rfl) (by kernel_rfl) (by decide) (fun _ _ _ h => h) (by rfl) (fun _ => by go_simp) HS.out ?_
  simp only [Act.put, List.setIfInBounds_toArray, List.set_cons_zero, List.set_cons_succ]
  refine tTake 10 (some 19) (.pointer (some ⟨g, 0, none⟩)) rfl rfl (by kernel_rfl) (by kernel_rfl) (by kernel_rfl) (by decide) (fun _ _ _ h => h) (by rfl) (fun _ => by rfl) HS.out ?_
  simp only [Act.put, List.setIfInBounds_toArray, List.set_cons_zero, List.set_cons_succ]
  refine tTake 11 (some 20) (.pointer (some ⟨g, 0, none⟩)) rfl rfl (by kernel_rfl) (by kernel_rfl) (by kernel_rfl) (by decide) (fun _ _ _ h => h) (by rfl) (fun _ => by go_simp) HS.out ?_
  simp only [Act.put, List.setIfInBounds_toArray, List.set_cons_zero, List.set_cons_succ]
  refine tTake 12 (some 21) (.pointer (some ⟨g, 32, none⟩)) rfl rfl (by kernel_rfl) (by kernel_rfl) (by kernel_rfl) (by decide) (fun _ _ _ h => h) (by rfl) (fun _ => by go_simp) HS.out ?_
  simp only [Act.put, List.setIfInBounds_toArray, List.set_cons_zero, List.set_cons_succ]
  refine tLoadMid 13 (some 22) (u8s nonce) rfl rfl (by kernel_rfl) (by kernel_rfl) (by kernel_rfl) (by decide) (by kernel_rfl) (by kernel_rfl) (fun _ _ _ h => h) (by rfl) 25 (.tmp 21) rfl g 32 rfl _ (fun _ h => h.2.1) Try.underlying25 rfl (by rw [u8s_length, HH.out.n12]; exact sizeNonce) HS.out ?_
  simp only [Act.put, List.setIfInBounds_toArray, List.set_cons_zero, List.set_cons_succ]
  refine till_two 14 15 rfl rfl (by decide) (by kernel_rfl) (by kernel_rfl) (by kernel_rfl)
    (fun a a' w' => ∃ B, a' = (a.put (some 23) (.agg (u8s (blkB key (Q : Int) nonce)).toArray)).put (some 5) (.pointer (some ⟨B, 0, none⟩)) ∧ Blk w' B 57 (u8s (List.replicate 64 0)) ∧ w.heap.size ≤ B ∧ Below w.heap.size w w')
    (fun a a' w' => a' = a.put (some 23) (.agg (u8s (blkB key (Q : Int) nonce)).toArray) ∧ Below w.heap.size w w')
    (fun a a' w' => ∃ B, a' = a.put (some 5) (.pointer (some ⟨B, 0, none⟩)) ∧ Blk w' B 57 (u8s (List.replicate 64 0)) ∧ w.heap.size ≤ B ∧ Below w.heap.size w w')
    ?s1 ?sA ?s2 ?t1 ?sB ?t2 ?h
  case s1 =>
    intro K hK
    go_simp
    go_wp2_with (go_at_call 20; refine (block_any key (Q : Int) nonce HH.out.k32 HH.out.n12 HH.out.kb HH.out.nb _).mono ?_; rintro e w1 ⟨rfl, l1⟩)
    exact ⟨rfl, below_ahead (k := 1) l1⟩
  case sA => rintro a' w' ⟨_, hb⟩; exact RS.out _ hb
  case s2 =>
    rintro a' w' ⟨rfl, hb⟩ K hK
    exact step_alloc_new rfl 57 rfl 64 _ zero64b (some 5) rfl (fun w'' b s l => hK _ _ ⟨_, rfl, b, hb.size, below_chain hb l hb.size⟩)
  case t1 =>
    intro K hK
    exact step_alloc_new rfl 57 rfl 64 _ zero64b (some 5) rfl (fun w'' b s l => hK _ _ ⟨_, rfl, b, Nat.le_refl _, below_ahead (k := 1) l⟩)
  case sB => rintro a' w' ⟨_, _, _, _, hb⟩; exact RS.out _ hb
  case t2 =>
    rintro a' w' ⟨B, rfl, hblk, hle, hb⟩ K hK
    simp only [Act.put, List.setIfInBounds_toArray, List.set_cons_zero, List.set_cons_succ]
    go_simp
    go_wp2_with (go_at_call 20; refine (block_any key (Q : Int) nonce HH.out.k32 HH.out.n12 HH.out.kb HH.out.nb _).mono ?_; rintro e w1 ⟨rfl, l1⟩)
    exact ⟨B, rfl, hblk.later l1 hblk.lt, hle, below_chain hb l1 hb.size⟩
  case h =>
    rintro a' w2 ⟨B, rfl, hblk, hle, hb⟩
    refine ⟨RS.out _ hb, till_at (by kernel_rfl) ?_⟩
    simp only [Act.put, List.setIfInBounds_toArray, List.set_cons_zero, List.set_cons_succ]
    obtain ⟨O, hO⟩ : ∃ x, blkB key (Q : Int) nonce = x := ⟨_, rfl⟩
    have E3 : Hid (O.length = 64 ∧ blkB key (Q : Int) nonce = O) := ⟨by rw [← hO]; exact blkB_length _ _ _, hO⟩
    rw [hO]
    have HT : w2.there B 0 (u8s O).length := hblk.there (by rw [u8s_length, E3.out.1, u8s_length]; decide)
    have u4 : (Try.prog.info? 57).map (·.size) = some (u8s O).length := by rw [u8s_length, E3.out.1]; exact size64b
    have HD : Hid (Blk (w2.setCells B 0 (u8s O)) B 57 (u8s O) ∧ Below w.heap.size w (w2.setCells B 0 (u8s O)) ∧ w.heap.size ≤ B) := by
      have k1 : Kept (fun k => k = B) w2 (w2.setCells B 0 (u8s O)) := (Kept.refl (fun k => k = B) _).setCells (S := fun k => k = B) rfl _ _
      refine ⟨?_, below_kept hb k1 hb.size (fun j hj => by omega), hle⟩
      have := Blk.setCells (xs := []) (zs := []) (u8s O) (u8s (List.replicate 64 0)) (by rw [u8s_length, E3.out.1, u8s_length]; rfl) (by simpa using hblk)
      simpa using this
    refine one_step 16 rfl (by kernel_rfl) (fun K h => step_store rfl (by rfl) 57 (.tmp 5) (.tmp 23) rfl B 0 rfl (u8s O) rfl HT u4 (u8s_one _) h) ?_
    obtain ⟨w3, hw3⟩ : ∃ x, w2.setCells B 0 (u8s O) = x := ⟨_, rfl⟩
    rw [hw3] at HD ⊢
    clear hw3 HT u4 hO hblk hle hb RS HS
    refine wpAny_done (by kernel_rfl) (NoPanic.normal ?_) _
    have c3 := (HH.out.later HD.out.2.1 HH.out.lt).place
    obtain ⟨R, hR⟩ : ∃ R, R = P % 64 := ⟨_, rfl⟩
    have r1 : (P : Int) % 64 = (R : Int) := by omega
    have r2 : (P : Int).tmod 64 = (R : Int) := by rw [Int.tmod_eq_emod_of_nonneg (by omega)]; exact r1
    have r3 : R < 64 := by omega
    have HRr : Hid (R = P % 64) := hR
    clear hR
    have r4 : (R : Int) ≤ 64 := by omega
    obtain ⟨L2, hL2⟩ : ∃ L2, L2 = 64 - R := ⟨_, rfl⟩
    have hsl : ∀ W, (Instr.sliceAt 57 (.pointer (some ⟨B, 0, none⟩)) (some (.int .u64 (R : Int))) none none).run Try.prog W = .ok (.slice (some ⟨B, R, none⟩) L2 L2) W := fun W => by rw [hL2]; go_simp; omega
    have j2 : L2 + R = 64 := by omega
    clear hL2
    have HF : Hid (Blk w3 B 57 (u8s O) ∧ StAt w3 g key nonce P ∧ RowC w3 r cap ((over key nonce P0 zs).take (k + 0) ++ zs.drop (k + 0)) ∧ Below w.heap.size w w3 ∧ r < B) :=
      ⟨HD.out.1, HH.out.later HD.out.2.1 HH.out.lt, HR.out.later HD.out.2.1 (Nat.le_refl _), HD.out.2.1, by have := HR.out.lt; have := HD.out.2.2; omega⟩
    by_cases hmn : m ≤ L2
    · have i0 : (m : Int) ≤ (L2 : Int) := by omega
      have i00 : ¬ (L2 : Int) < (m : Int) := by omega
      go_wp2_with fail
      go_loopw [36] (fun x wr => ∃ i : Nat, i ≤ m ∧ x = .int .i64 i ∧ RowC wr r cap ((over key nonce P0 zs).take (k + i) ++ zs.drop (k + i)) ∧ Kept (fun b => b = r) w3 wr) (fun x _ => m - (intOf x).toNat)
      case atStart => exact ⟨0, by omega, rfl, HF.out.2.2.1, Kept.refl _ _⟩
      case round =>
        obtain ⟨i, hi, rfl, hb, hkp⟩ := hrel
        by_cases hlt : i < m
        · have hkN : k + i < N := by have := HN.out.2.1; omega
          have hlo : (over key nonce P0 zs).length = N := (over_length _ _ _ _).trans HN.out.1
          have cR := hb.cell (k + i) (by rw [half_length _ _ N (k + i) hlo HN.out.1 (by omega)]; exact hkN)
          rw [half_at _ _ N (k + i) hlo HN.out.1 hkN] at cR
          have fR := hb.frozen (k + i)
          have cB := u8s_cell (HF.out.1.kept hkp (by have := HF.out.2.2.2.2; omega)) (R + i) (by have := E3.out.1; omega)
          have HY : Hid ((over key nonce P0 zs).getD (k + i) 0 = bits .xor .u8 (zs.getD (k + i) 0) (O.getD (R + i) 0)) := by
            show _ = _
            rw [over_at _ _ _ _ _ (by rw [HN.out.1]; exact hkN), ks, ← E3.out.2]
            have a1 : (P0 + (k + i)) / 64 = Q := by have := HQ.out; have := HRr.out; have := HPk.out; omega
            have a2 : (P0 + (k + i)) % 64 = R + i := by have := HRr.out; have := HPk.out; omega
            rw [a1, a2]
          obtain ⟨x, hx⟩ : ∃ x, zs.getD (k + i) 0 = x := ⟨_, rfl⟩
          obtain ⟨y, hy⟩ : ∃ y, O.getD (R + i) 0 = y := ⟨_, rfl⟩
          rw [hx] at cR HY
          rw [hy] at cB HY
          have i1 : (i : Int) < m := by omega
          have i2 : (i : Int) < m := by omega
          have i3 : (i : Int) < L2 := by omega
          have X0 : Hid (RowC wr r cap ((over key nonce P0 zs).take (k + i) ++ zs.drop (k + i)) ∧ (over key nonce P0 zs).length = N ∧ k + i < N) := ⟨hb, hlo, hkN⟩
          clear hb hx hy hlo hkN
          go_wp2_with fail
          go_region
          go_wp2_with fail
          have R1 := X0.out.1.set (k + i) (by rw [half_length _ _ N (k + i) X0.out.2.1 HN.out.1 (by have := X0.out.2.2; omega)]; exact X0.out.2.2) ((over key nonce P0 zs).getD (k + i) 0)
          rw [half_set _ _ N (k + i) X0.out.2.1 HN.out.1 X0.out.2.2, HY.out] at R1
          exact ⟨⟨i + 1, by omega, by go_num, R1, (hkp.setCell rfl _).drew⟩, by simp [intOf]; omega⟩
        · obtain rfl : i = m := by omega
          have hst : StAt wr g key nonce P := HF.out.2.1.kept hkp hgr
          have c4 := hst.place
          have f4 := hst.frozen 44
          have X0 : Hid (RowC wr r cap ((over key nonce P0 zs).take (k + i) ++ zs.drop (k + i)) ∧ StAt wr g key nonce P ∧ Kept (fun b => b = r) w3 wr) := ⟨hb, hst, hkp⟩
          clear hb hkp hst
          have hq : P + i ≤ 274877906944 := by have := HPk.out; have := HN.out.2.1; omega
          go_wp2_with fail
          go_ret
          have mv := X0.out.2.1.move (P + i) hq
          have hf := HF.out.2.2.2.1
          have k1 := (X0.out.2.2.mono (T := fun b => b = g ∨ b = r) (fun _ h => .inr h)).setCell (p := ⟨g, 44, none⟩) (.inl rfl) (.int .u64 ((P + i : Nat) : Int))
          refine ⟨i, rfl, by have := HN.out.2.1; omega, by have := HN.out.2.1; omega, ?_, ?_, ?_⟩
          · rw [← Nat.add_assoc, ← HPk.out]; simpa using mv
          · exact X0.out.1.other (fun e => hgr e.symm) _
          · exact (Kept.new _ hf).trans (by simpa using k1)
    · have i0 : (L2 : Int) < (m : Int) := by omega
      go_wp2_with fail
      go_loopw [36] (fun x wr => ∃ i : Nat, i ≤ L2 ∧ x = .int .i64 i ∧ RowC wr r cap ((over key nonce P0 zs).take (k + i) ++ zs.drop (k + i)) ∧ Kept (fun b => b = r) w3 wr) (fun x _ => L2 - (intOf x).toNat)
      case atStart => exact ⟨0, by omega, rfl, HF.out.2.2.1, Kept.refl _ _⟩
      case round =>
        obtain ⟨i, hi, rfl, hb, hkp⟩ := hrel
        by_cases hlt : i < L2
        · have hkN : k + i < N := by have := HN.out.2.1; omega
          have hlo : (over key nonce P0 zs).length = N := (over_length _ _ _ _).trans HN.out.1
          have cR := hb.cell (k + i) (by rw [half_length _ _ N (k + i) hlo HN.out.1 (by omega)]; exact hkN)
          rw [half_at _ _ N (k + i) hlo HN.out.1 hkN] at cR
          have fR := hb.frozen (k + i)
          have cB := u8s_cell (HF.out.1.kept hkp (by have := HF.out.2.2.2.2; omega)) (R + i) (by have := E3.out.1; omega)
          have HY : Hid ((over key nonce P0 zs).getD (k + i) 0 = bits .xor .u8 (zs.getD (k + i) 0) (O.getD (R + i) 0)) := by
            show _ = _
            rw [over_at _ _ _ _ _ (by rw [HN.out.1]; exact hkN), ks, ← E3.out.2]
            have a1 : (P0 + (k + i)) / 64 = Q := by have := HQ.out; have := HRr.out; have := HPk.out; omega
            have a2 : (P0 + (k + i)) % 64 = R + i := by have := HRr.out; have := HPk.out; omega
            rw [a1, a2]
          obtain ⟨x, hx⟩ : ∃ x, zs.getD (k + i) 0 = x := ⟨_, rfl⟩
          obtain ⟨y, hy⟩ : ∃ y, O.getD (R + i) 0 = y := ⟨_, rfl⟩
          rw [hx] at cR HY
          rw [hy] at cB HY
          have i1 : (i : Int) < L2 := by omega
          have i2 : (i : Int) < m := by omega
          have i3 : (i : Int) < L2 := by omega
          have X0 : Hid (RowC wr r cap ((over key nonce P0 zs).take (k + i) ++ zs.drop (k + i)) ∧ (over key nonce P0 zs).length = N ∧ k + i < N) := ⟨hb, hlo, hkN⟩
          clear hb hx hy hlo hkN
          go_wp2_with fail
          go_region
          go_wp2_with fail
          have R1 := X0.out.1.set (k + i) (by rw [half_length _ _ N (k + i) X0.out.2.1 HN.out.1 (by have := X0.out.2.2; omega)]; exact X0.out.2.2) ((over key nonce P0 zs).getD (k + i) 0)
          rw [half_set _ _ N (k + i) X0.out.2.1 HN.out.1 X0.out.2.2, HY.out] at R1
          exact ⟨⟨i + 1, by omega, by go_num, R1, (hkp.setCell rfl _).drew⟩, by simp [intOf]; omega⟩
        · obtain rfl : i = L2 := by omega
          have hst : StAt wr g key nonce P := HF.out.2.1.kept hkp hgr
          have c4 := hst.place
          have f4 := hst.frozen 44
          have X0 : Hid (RowC wr r cap ((over key nonce P0 zs).take (k + i) ++ zs.drop (k + i)) ∧ StAt wr g key nonce P ∧ Kept (fun b => b = r) w3 wr) := ⟨hb, hst, hkp⟩
          clear hb hkp hst
          have hq : P + i ≤ 274877906944 := by have := HPk.out; have := HN.out.2.1; omega
          go_wp2_with fail
          go_ret
          have mv := X0.out.2.1.move (P + i) hq
          have hf := HF.out.2.2.2.1
          have k1 := (X0.out.2.2.mono (T := fun b => b = g ∨ b = r) (fun _ h => .inr h)).setCell (p := ⟨g, 44, none⟩) (.inl rfl) (.int .u64 ((P + i : Nat) : Int))
          refine ⟨i, rfl, by have := HN.out.2.1; omega, by have := HN.out.2.1; omega, ?_, ?_, ?_⟩
          · rw [← Nat.add_assoc, ← HPk.out]; simpa using mv
          · exact X0.out.1.other (fun e => hgr e.symm) _
          · exact (Kept.new _ hf).trans (by simpa using k1)
end Go.Proofs.Ytpjnimmclncdoaa
