/- Joined texts: SLay SXor LOver DHeld RSXor TNum. -/
import Derived.Test.YtcimiajkbgabiaaYD
import Derived.Test.YtcimiajkbgabiaaYA
import Derived.Test.YtcimiajkbgabiaaYC
import Derived.Test.YtcimiajkbgabiaaYB
import Derived.Test.YtcimiajkbgabiaaPlain
import Derived.Shelf.Spec.BitsCarry
import Derived.Shelf.Bits.Mul64
namespace Go.Proofs.Ytcimiajkbgabiaa
open Go.RowKit
set_option linter.unusedVariables false
set_option linter.unusedSimpArgs false

theorem chk_ok {n : Int} {P : Nat} (h0 : 0 ≤ n) (h1 : n + P ≤ 274877906944) : chk n P = 0 := by unfold chk; rw [if_neg (by omega), if_neg (by omega)]
theorem chk_over {n : Int} {P : Nat} (h0 : 0 ≤ n) (h1 : 274877906944 < n + P) : chk n P = 50 := by unfold chk; rw [if_neg (by omega), if_pos (by omega)]
/-- Block r begins with the bytes zs and has room for cap bytes in all. -/
def RowC (w : World) (r cap : Nat) (zs : List Int) : Prop := ∃ rest : List Value, w.heap[r]? = some (.cells (zs.map (Value.int .u8) ++ rest).toArray 5 (0, 0)) ∧ zs.length + rest.length = cap
theorem RowC.row {w : World} {r cap : Nat} {zs : List Int} (h : RowC w r cap zs) : RowAt w r zs := ⟨h.choose, h.choose_spec.1⟩
theorem RowC.cell {w : World} {r cap : Nat} {zs : List Int} (h : RowC w r cap zs) (j : Nat) (hj : j < zs.length) : w.cell? ⟨r, j, none⟩ = some (.int .u8 (zs.getD j 0)) := h.row.cell j hj
theorem RowC.frozen {w : World} {r cap : Nat} {zs : List Int} (h : RowC w r cap zs) (j : Nat) : w.frozen? ⟨r, j, none⟩ = false := h.row.frozen j
theorem RowC.lt {w : World} {r cap : Nat} {zs : List Int} (h : RowC w r cap zs) : r < w.heap.size := h.row.lt
theorem RowC.set {w : World} {r cap : Nat} {zs : List Int} (h : RowC w r cap zs) (j : Nat) (hj : j < zs.length) (z : Int) : RowC (w.setCell ⟨r, j, none⟩ (.int .u8 z)) r cap (zs.set j z) := by
  obtain ⟨rest, h, hl⟩ := h
  refine ⟨rest, ?_, by rw [List.length_set]; exact hl⟩
  rw [heap_setCell_same w r j _ 5 _ h, List.map_set]
  simp [hj]
theorem RowC.block {w w' : World} {r cap : Nat} {zs : List Int} (h : RowC w r cap zs) (e : w'.heap[r]? = w.heap[r]?) : RowC w' r cap zs := by
  obtain ⟨rest, h, hl⟩ := h
  exact ⟨rest, by rw [e]; exact h, hl⟩
theorem RowC.other {w : World} {r cap : Nat} {zs : List Int} (h : RowC w r cap zs) {p : Addr} (hp : r ≠ p.block) (u : Value) : RowC (w.setCell p u) r cap zs := h.block (Below.heap_setCell _ _ _ _ hp)
theorem RowC.later {w w' : World} {r cap : Nat} {zs : List Int} (h : RowC w r cap zs) {B : Nat} (hb : Below B w w') (hB : w.heap.size ≤ B) : RowC w' r cap zs := h.block (hb.block r (Nat.lt_of_lt_of_le h.lt hB))
theorem RowC.of_own {w : World} {base r n cap : Nat} {zs : List Int} (h : w.ownsRow base 5 1 (.slice (some ⟨r, 0, none⟩) n cap) n (zs.map (Value.int .u8))) : RowC w r cap zs := by
  obtain ⟨hl, h⟩ := h
  rcases h with ⟨h, _⟩ | ⟨r', cap', cur, h, hb, hh, hc, hm, hs, ht⟩
  · cases h
  · simp only [Value.slice.injEq, Option.some.injEq, Addr.mk.injEq, and_true, true_and] at h
    obtain ⟨rfl, rfl⟩ := h
    rw [Nat.mul_one] at ht hs
    refine ⟨cur.toList.drop n, ?_, ?_⟩
    · rw [← ht, List.take_append_drop]; simpa using hh
    · simp at hl; simp; omega
theorem RowC.own {w : World} {base r n cap : Nat} {zs : List Int} (h : RowC w r cap zs) (hl : zs.length = n) (hb : base ≤ r) (hm : cap ≤ maxLen) : w.ownsRow base 5 1 (.slice (some ⟨r, 0, none⟩) n cap) n (zs.map (Value.int .u8)) := by
  obtain ⟨rest, h, hc⟩ := h
  refine ⟨by simp [hl], .inr ⟨r, cap, _, rfl, hb, h, by omega, hm, by simp; omega, ?_⟩⟩
  rw [Nat.mul_one, List.take_append_of_le_length (by simp [hl]), List.take_of_length_le (by simp [hl])]
set_option maxRecDepth 20000 in
set_option maxHeartbeats 1000000 in
theorem lay_any (g r : Nat) (key nonce zs : List Int) (P0 k N m c cap : Nat) (hN : zs.length = N) (hm : m = N - k) (hk : k < N) (hP : P0 + N ≤ 274877906944) (hgr : g ≠ r) (hb : Bytes zs) (hmc : m ≤ c) (w : World)
    (h : StAt w g key nonce (P0 + k)) (hr : RowC w r cap ((over key nonce P0 zs).take k ++ zs.drop k)) :
    Calls Try.prog 95 #[.pointer (some ⟨g, 0, none⟩), .slice (some ⟨r, k, none⟩) m c] w fun e w' => ∃ n : Nat, e = .returned (.int .i64 n) ∧ 0 < n ∧ k + n ≤ N ∧ StAt w' g key nonce (P0 + (k + n)) ∧ RowC w' r cap ((over key nonce P0 zs).take (k + n) ++ zs.drop (k + n)) ∧ Kept (fun b => b = g ∨ b = r) w w' := by
  have HH : Hid (StAt w g key nonce (P0 + k)) := h
  have HR : Hid (RowC w r cap ((over key nonce P0 zs).take k ++ zs.drop k)) := hr
  have HN : Hid (zs.length = N ∧ m = N - k ∧ Bytes zs) := ⟨hN, hm, hb⟩
  have c1 := h.place
  obtain ⟨P, hPk⟩ : ∃ P, P = P0 + k := ⟨_, rfl⟩
  rw [← hPk] at HH c1
  have HPk : Hid (P = P0 + k) := hPk
  have hP1 : P < 274877906944 := by omega
  clear h hr hN hm hb hPk
  go_enter Try.func95, Try.ntmps95
  go_wp2_with fail
  obtain ⟨Q, hQ⟩ : ∃ Q, Q = P / 64 := ⟨_, rfl⟩
  have q1 : (P : Int) / 64 = (Q : Int) := by omega
  have q2 : (P : Int).tdiv 64 = (Q : Int) := by rw [Int.tdiv_eq_ediv_of_nonneg (by omega)]; exact q1
  have q3 : IntKind.u32.wrap (Q : Int) = (Q : Int) := by simp only [IntKind.wrap, IntKind.bits, IntKind.signed]; simp; omega
  have q4 : IntKind.u64.wrap (Q : Int) = (Q : Int) := by simp only [IntKind.wrap, IntKind.bits, IntKind.signed]; simp; omega
  have HQ : Hid (Q = P / 64) := hQ
  clear hQ
  have RS : Hid (∀ W, Below w.heap.size w W → W.rangeAt g 0 (u8s key) ∧ W.rangeAt g 32 (u8s nonce) ∧ W.cell? ⟨g, 44, none⟩ = some (.int .u64 P)) := fun W hW => by
    have hs := HH.out.later hW HH.out.lt
    exact ⟨hs.key, hs.nonce, hs.place⟩
  have HS : Hid (w.drew.rangeAt g 0 (u8s key) ∧ w.drew.rangeAt g 32 (u8s nonce) ∧ w.drew.cell? ⟨g, 44, none⟩ = some (.int .u64 P)) := RS.out _ (below_dn (Below.refl _ _) 1)
  refine wp_region_noPanic (till_region 16 (fun W => W.rangeAt g 0 (u8s key) ∧ W.rangeAt g 32 (u8s nonce) ∧ W.cell? ⟨g, 44, none⟩ = some (.int .u64 P)) (by kernel_rfl) ?_)
  change wpTill _ _ _ _ _ _ _ _ w.drew
  refine tTake 0 (some 9) (.pointer (some ⟨g, 0, none⟩)) rfl rfl (by kernel_rfl) (by kernel_rfl) (by kernel_rfl) (by decide) (fun _ _ _ h => h) (by rfl) (fun _ => by rfl) HS.out ?_
  simp only [Act.put, List.setIfInBounds_toArray, List.set_cons_zero, List.set_cons_succ]
  refine tTake 1 (some 10) (.pointer (some ⟨g, 0, none⟩)) rfl rfl (by kernel_rfl) (by kernel_rfl) (by kernel_rfl) (by decide) (fun _ _ _ h => h) (by rfl) (fun _ => by go_simp) HS.out ?_
  simp only [Act.put, List.setIfInBounds_toArray, List.set_cons_zero, List.set_cons_succ]
  refine tTake 2 (some 11) (.pointer (some ⟨g, 0, none⟩)) rfl rfl (by kernel_rfl) (by kernel_rfl) (by kernel_rfl) (by decide) (fun _ _ _ h => h) (by rfl) (fun _ => by go_simp) HS.out ?_
  simp only [Act.put, List.setIfInBounds_toArray, List.set_cons_zero, List.set_cons_succ]
  refine tLoadMid 3 (some 12) (u8s key) rfl rfl (by kernel_rfl) (by kernel_rfl) (by kernel_rfl) (by decide) (by kernel_rfl) (by kernel_rfl) (fun _ _ _ h => h) (by rfl) 27 (.tmp 11) rfl g 0 rfl _ (fun _ h => h.1) Try.underlying27 rfl (by rw [u8s_length, HH.out.k32]; exact sizeKey) HS.out ?_
  simp only [Act.put, List.setIfInBounds_toArray, List.set_cons_zero, List.set_cons_succ]
  refine tTake 4 (some 13) (.pointer (some ⟨g, 0, none⟩)) rfl rfl (by kernel_rfl) (by kernel_rfl) (by kernel_rfl) (by decide) (fun _ _ _ h => h) (by rfl) (fun _ => by rfl) HS.out ?_
  simp only [Act.put, List.setIfInBounds_toArray, List.set_cons_zero, List.set_cons_succ]
  refine tTake 5 (some 14) (.pointer (some ⟨g, 0, none⟩)) rfl rfl (by kernel_rfl) (by kernel_rfl) (by kernel_rfl) (by decide) (fun _ _ _ h => h) (by rfl) (fun _ => by go_simp) HS.out ?_
  simp only [Act.put, List.setIfInBounds_toArray, List.set_cons_zero, List.set_cons_succ]
  refine tTake 6 (some 15) (.pointer (some ⟨g, 44, none⟩)) rfl rfl (by kernel_rfl) (by kernel_rfl) (by kernel_rfl) (by decide) (fun _ _ _ h => h) (by rfl) (fun _ => by go_simp) HS.out ?_
  simp only [Act.put, List.setIfInBounds_toArray, List.set_cons_zero, List.set_cons_succ]
  refine tLoad 7 (some 16) (.int .u64 P) rfl rfl (by kernel_rfl) (by kernel_rfl) (by kernel_rfl) (by decide) (by kernel_rfl) (by kernel_rfl) (fun _ _ _ h => h) (by rfl) (fun W' hS' => by obtain ⟨s1, s2, s3⟩ := hS'; go_simp) HS.out ?_
  simp only [Act.put, List.setIfInBounds_toArray, List.set_cons_zero, List.set_cons_succ]
  refine tTake 8 (some 17) (.int .u64 Q) rfl rfl (by kernel_rfl) (by kernel_rfl) (by kernel_rfl) (by decide) (fun _ _ _ h => h) (by rfl) (fun _ => by go_simp) HS.out ?_
  simp only [Act.put, List.setIfInBounds_toArray, List.set_cons_zero, List.set_cons_succ]
  refine tTake 9 (some 18) (.int .u32 Q) rfl rfl (by kernel_rfl) (by kernel_rfl) (by kernel_rfl) (by decide) (fun _ _ _ h => h) (by rfl) (fun _ => by go_simp) HS.out ?_
  simp only [Act.put, List.setIfInBounds_toArray, List.set_cons_zero, List.set_cons_succ]
  refine tTake 10 (some 19) (.pointer (some ⟨g, 0, none⟩)) rfl rfl (by kernel_rfl) (by kernel_rfl) (by kernel_rfl) (by decide) (fun _ _ _ h => h) (by rfl) (fun _ => by rfl) HS.out ?_
  simp only [Act.put, List.setIfInBounds_toArray, List.set_cons_zero, List.set_cons_succ]
  refine tTake 11 (some 20) (.pointer (some ⟨g, 0, none⟩)) rfl rfl (by kernel_rfl) (by kernel_rfl) (by kernel_rfl) (by decide) (fun _ _ _ h => h) (by rfl) (fun _ => by go_simp) HS.out ?_
  simp only [Act.put, List.setIfInBounds_toArray, List.set_cons_zero, List.set_cons_succ]
  refine tTake 12 (some 21) (.pointer (some ⟨g, 32, none⟩)) rfl rfl (by kernel_rfl) (by kernel_rfl) (by kernel_rfl) (by decide) (fun _ _ _ h => h) (by rfl) (fun _ => by go_simp) HS.out ?_
  simp only [Act.put, List.setIfInBounds_toArray, List.set_cons_zero, List.set_cons_succ]
  refine tLoadMid 13 (some 22) (u8s nonce) rfl rfl (by kernel_rfl) (by kernel_rfl) (by kernel_rfl) (by decide) (by kernel_rfl) (by kernel_rfl) (fun _ _ _ h => h) (by rfl) 42 (.tmp 21) rfl g 32 rfl _ (fun _ h => h.2.1) Try.underlying42 rfl (by rw [u8s_length, HH.out.n12]; exact sizeNonce) HS.out ?_
  simp only [Act.put, List.setIfInBounds_toArray, List.set_cons_zero, List.set_cons_succ]
  refine till_two 14 15 rfl rfl (by decide) (by kernel_rfl) (by kernel_rfl) (by kernel_rfl)
    (fun a a' w' => ∃ B, a' = (a.put (some 23) (.agg (u8s (blkB key (Q : Int) nonce)).toArray)).put (some 5) (.pointer (some ⟨B, 0, none⟩)) ∧ Blk w' B 103 (u8s (List.replicate 64 0)) ∧ w.heap.size ≤ B ∧ Below w.heap.size w w')
    (fun a a' w' => a' = a.put (some 23) (.agg (u8s (blkB key (Q : Int) nonce)).toArray) ∧ Below w.heap.size w w')
    (fun a a' w' => ∃ B, a' = a.put (some 5) (.pointer (some ⟨B, 0, none⟩)) ∧ Blk w' B 103 (u8s (List.replicate 64 0)) ∧ w.heap.size ≤ B ∧ Below w.heap.size w w')
    ?s1 ?sA ?s2 ?t1 ?sB ?t2 ?h
  case s1 =>
    intro K hK
    go_simp
    go_wp2_with (go_at_call 56; refine (block_any key (Q : Int) nonce HH.out.k32 HH.out.n12 HH.out.kb HH.out.nb _).mono ?_; rintro e w1 ⟨rfl, l1⟩)
    exact ⟨rfl, below_ahead (k := 1) l1⟩
  case sA => rintro a' w' ⟨_, hb⟩; exact RS.out _ hb
  case s2 =>
    rintro a' w' ⟨rfl, hb⟩ K hK
    exact step_alloc_new rfl 103 rfl 64 _ zero64b (some 5) rfl (fun w'' b s l => hK _ _ ⟨_, rfl, b, hb.size, below_chain hb l hb.size⟩)
  case t1 =>
    intro K hK
    exact step_alloc_new rfl 103 rfl 64 _ zero64b (some 5) rfl (fun w'' b s l => hK _ _ ⟨_, rfl, b, Nat.le_refl _, below_ahead (k := 1) l⟩)
  case sB => rintro a' w' ⟨_, _, _, _, hb⟩; exact RS.out _ hb
  case t2 =>
    rintro a' w' ⟨B, rfl, hblk, hle, hb⟩ K hK
    simp only [Act.put, List.setIfInBounds_toArray, List.set_cons_zero, List.set_cons_succ]
    go_simp
    go_wp2_with (go_at_call 56; refine (block_any key (Q : Int) nonce HH.out.k32 HH.out.n12 HH.out.kb HH.out.nb _).mono ?_; rintro e w1 ⟨rfl, l1⟩)
    exact ⟨B, rfl, hblk.later l1 hblk.lt, hle, below_chain hb l1 hb.size⟩
  case h =>
    rintro a' w2 ⟨B, rfl, hblk, hle, hb⟩
    refine ⟨RS.out _ hb, till_at (by kernel_rfl) ?_⟩
    simp only [Act.put, List.setIfInBounds_toArray, List.set_cons_zero, List.set_cons_succ]
    obtain ⟨O, hO⟩ : ∃ x, blkB key (Q : Int) nonce = x := ⟨_, rfl⟩
    have E3 : Hid (O.length = 64 ∧ blkB key (Q : Int) nonce = O) := ⟨by rw [← hO]; exact blkB_length _ _ _, hO⟩
    rw [hO]
    have HT : w2.there B 0 (u8s O).length := hblk.there (by rw [u8s_length, E3.out.1, u8s_length]; decide)
    have u4 : (Try.prog.info? 103).map (·.size) = some (u8s O).length := by rw [u8s_length, E3.out.1]; exact size64b
    have HD : Hid (Blk (w2.setCells B 0 (u8s O)) B 103 (u8s O) ∧ Below w.heap.size w (w2.setCells B 0 (u8s O)) ∧ w.heap.size ≤ B) := by
      have k1 : Kept (fun k => k = B) w2 (w2.setCells B 0 (u8s O)) := (Kept.refl (fun k => k = B) _).setCells (S := fun k => k = B) rfl _ _
      refine ⟨?_, below_kept hb k1 hb.size (fun j hj => by omega), hle⟩
      have := Blk.setCells (xs := []) (zs := []) (u8s O) (u8s (List.replicate 64 0)) (by rw [u8s_length, E3.out.1, u8s_length]; rfl) (by simpa using hblk)
      simpa using this
    refine one_step 16 rfl (by kernel_rfl) (fun K h => step_store rfl (by rfl) 103 (.tmp 5) (.tmp 23) rfl B 0 rfl (u8s O) rfl HT u4 (u8s_one _) h) ?_
    obtain ⟨w3, hw3⟩ : ∃ x, w2.setCells B 0 (u8s O) = x := ⟨_, rfl⟩
    rw [hw3] at HD ⊢
    clear hw3 HT u4 hO hblk hle hb RS HS
    refine wpAny_done (by kernel_rfl) (NoPanic.normal ?_) _
    have c3 := (HH.out.later HD.out.2.1 HH.out.lt).place
    obtain ⟨R, hR⟩ : ∃ R, R = P % 64 := ⟨_, rfl⟩
    have r1 : (P : Int) % 64 = (R : Int) := by omega
    have r2 : (P : Int).tmod 64 = (R : Int) := by rw [Int.tmod_eq_emod_of_nonneg (by omega)]; exact r1
    have r3 : R < 64 := by omega
    have HRr : Hid (R = P % 64) := hR
    clear hR
    have r4 : (R : Int) ≤ 64 := by omega
    obtain ⟨L2, hL2⟩ : ∃ L2, L2 = 64 - R := ⟨_, rfl⟩
    have hsl : ∀ W, (Instr.sliceAt 103 (.pointer (some ⟨B, 0, none⟩)) (some (.int .u64 (R : Int))) none none).run Try.prog W = .ok (.slice (some ⟨B, R, none⟩) L2 L2) W := fun W => by rw [hL2]; go_simp; omega
    have j2 : L2 + R = 64 := by omega
    clear hL2
    have HF : Hid (Blk w3 B 103 (u8s O) ∧ StAt w3 g key nonce P ∧ RowC w3 r cap ((over key nonce P0 zs).take (k + 0) ++ zs.drop (k + 0)) ∧ Below w.heap.size w w3 ∧ r < B) :=
      ⟨HD.out.1, HH.out.later HD.out.2.1 HH.out.lt, HR.out.later HD.out.2.1 (Nat.le_refl _), HD.out.2.1, by have := HR.out.lt; have := HD.out.2.2; omega⟩
    by_cases hmn : m ≤ L2
    · have i0 : (m : Int) ≤ (L2 : Int) := by omega
      have i00 : ¬ (L2 : Int) < (m : Int) := by omega
      go_wp2_with fail
      go_loopw [36] (fun x wr => ∃ i : Nat, i ≤ m ∧ x = .int .i64 i ∧ RowC wr r cap ((over key nonce P0 zs).take (k + i) ++ zs.drop (k + i)) ∧ Kept (fun b => b = r) w3 wr) (fun x _ => m - (intOf x).toNat)
      case atStart => exact ⟨0, by omega, rfl, HF.out.2.2.1, Kept.refl _ _⟩
      case round =>
        obtain ⟨i, hi, rfl, hb, hkp⟩ := hrel
        by_cases hlt : i < m
        · have hkN : k + i < N := by have := HN.out.2.1; omega
          have hlo : (over key nonce P0 zs).length = N := (over_length _ _ _ _).trans HN.out.1
          have cR := hb.cell (k + i) (by rw [half_length _ _ N (k + i) hlo HN.out.1 (by omega)]; exact hkN)
          rw [half_at _ _ N (k + i) hlo HN.out.1 hkN] at cR
          have fR := hb.frozen (k + i)
          have cB := u8s_cell (HF.out.1.kept hkp (by have := HF.out.2.2.2.2; omega)) (R + i) (by have := E3.out.1; omega)
          have HY : Hid ((over key nonce P0 zs).getD (k + i) 0 = bits .xor .u8 (zs.getD (k + i) 0) (O.getD (R + i) 0)) := by
            show _ = _
            rw [over_at _ _ _ _ _ (by rw [HN.out.1]; exact hkN), ks, ← E3.out.2]
            have a1 : (P0 + (k + i)) / 64 = Q := by have := HQ.out; have := HRr.out; have := HPk.out; omega
            have a2 : (P0 + (k + i)) % 64 = R + i := by have := HRr.out; have := HPk.out; omega
            rw [a1, a2]
          obtain ⟨x, hx⟩ : ∃ x, zs.getD (k + i) 0 = x := ⟨_, rfl⟩
          obtain ⟨y, hy⟩ : ∃ y, O.getD (R + i) 0 = y := ⟨_, rfl⟩
          rw [hx] at cR HY
          rw [hy] at cB HY
          have i1 : (i : Int) < m := by omega
          have i2 : (i : Int) < m := by omega
          have i3 : (i : Int) < L2 := by omega
          have X0 : Hid (RowC wr r cap ((over key nonce P0 zs).take (k + i) ++ zs.drop (k + i)) ∧ (over key nonce P0 zs).length = N ∧ k + i < N) := ⟨hb, hlo, hkN⟩
          clear hb hx hy hlo hkN
          go_wp2_with fail
          go_region
          go_wp2_with fail
          have R1 := X0.out.1.set (k + i) (by rw [half_length _ _ N (k + i) X0.out.2.1 HN.out.1 (by have := X0.out.2.2; omega)]; exact X0.out.2.2) ((over key nonce P0 zs).getD (k + i) 0)
          rw [half_set _ _ N (k + i) X0.out.2.1 HN.out.1 X0.out.2.2, HY.out] at R1
          exact ⟨⟨i + 1, by omega, by go_num, R1, (hkp.setCell rfl _).drew⟩, by simp [intOf]; omega⟩
        · obtain rfl : i = m := by omega
          have hst : StAt wr g key nonce P := HF.out.2.1.kept hkp hgr
          have c4 := hst.place
          have f4 := hst.frozen 44
          have X0 : Hid (RowC wr r cap ((over key nonce P0 zs).take (k + i) ++ zs.drop (k + i)) ∧ StAt wr g key nonce P ∧ Kept (fun b => b = r) w3 wr) := ⟨hb, hst, hkp⟩
          clear hb hkp hst
          have hq : P + i ≤ 274877906944 := by have := HPk.out; have := HN.out.2.1; omega
          go_wp2_with fail
          go_ret
          have mv := X0.out.2.1.move (P + i) hq
          have hf := HF.out.2.2.2.1
          have k1 := (X0.out.2.2.mono (T := fun b => b = g ∨ b = r) (fun _ h => .inr h)).setCell (p := ⟨g, 44, none⟩) (.inl rfl) (.int .u64 ((P + i : Nat) : Int))
          refine ⟨i, rfl, by have := HN.out.2.1; omega, by have := HN.out.2.1; omega, ?_, ?_, ?_⟩
          · rw [← Nat.add_assoc, ← HPk.out]; simpa using mv
          · exact X0.out.1.other (fun e => hgr e.symm) _
          · exact (Kept.new _ hf).trans (by simpa using k1)
    · have i0 : (L2 : Int) < (m : Int) := by omega
      go_wp2_with fail
      go_loopw [36] (fun x wr => ∃ i : Nat, i ≤ L2 ∧ x = .int .i64 i ∧ RowC wr r cap ((over key nonce P0 zs).take (k + i) ++ zs.drop (k + i)) ∧ Kept (fun b => b = r) w3 wr) (fun x _ => L2 - (intOf x).toNat)
      case atStart => exact ⟨0, by omega, rfl, HF.out.2.2.1, Kept.refl _ _⟩
      case round =>
        obtain ⟨i, hi, rfl, hb, hkp⟩ := hrel
        by_cases hlt : i < L2
        · have hkN : k + i < N := by have := HN.out.2.1; omega
          have hlo : (over key nonce P0 zs).length = N := (over_length _ _ _ _).trans HN.out.1
          have cR := hb.cell (k + i) (by rw [half_length _ _ N (k + i) hlo HN.out.1 (by omega)]; exact hkN)
          rw [half_at _ _ N (k + i) hlo HN.out.1 hkN] at cR
          have fR := hb.frozen (k + i)
          have cB := u8s_cell (HF.out.1.kept hkp (by have := HF.out.2.2.2.2; omega)) (R + i) (by have := E3.out.1; omega)
          have HY : Hid ((over key nonce P0 zs).getD (k + i) 0 = bits .xor .u8 (zs.getD (k + i) 0) (O.getD (R + i) 0)) := by
            show _ = _
            rw [over_at _ _ _ _ _ (by rw [HN.out.1]; exact hkN), ks, ← E3.out.2]
            have a1 : (P0 + (k + i)) / 64 = Q := by have := HQ.out; have := HRr.out; have := HPk.out; omega
            have a2 : (P0 + (k + i)) % 64 = R + i := by have := HRr.out; have := HPk.out; omega
            rw [a1, a2]
          obtain ⟨x, hx⟩ : ∃ x, zs.getD (k + i) 0 = x := ⟨_, rfl⟩
          obtain ⟨y, hy⟩ : ∃ y, O.getD (R + i) 0 = y := ⟨_, rfl⟩
          rw [hx] at cR HY
          rw [hy] at cB HY
          have i1 : (i : Int) < L2 := by omega
          have i2 : (i : Int) < m := by omega
          have i3 : (i : Int) < L2 := by omega
          have X0 : Hid (RowC wr r cap ((over key nonce P0 zs).take (k + i) ++ zs.drop (k + i)) ∧ (over key nonce P0 zs).length = N ∧ k + i < N) := ⟨hb, hlo, hkN⟩
          clear hb hx hy hlo hkN
          go_wp2_with fail
          go_region
          go_wp2_with fail
          have R1 := X0.out.1.set (k + i) (by rw [half_length _ _ N (k + i) X0.out.2.1 HN.out.1 (by have := X0.out.2.2; omega)]; exact X0.out.2.2) ((over key nonce P0 zs).getD (k + i) 0)
          rw [half_set _ _ N (k + i) X0.out.2.1 HN.out.1 X0.out.2.2, HY.out] at R1
          exact ⟨⟨i + 1, by omega, by go_num, R1, (hkp.setCell rfl _).drew⟩, by simp [intOf]; omega⟩
        · obtain rfl : i = L2 := by omega
          have hst : StAt wr g key nonce P := HF.out.2.1.kept hkp hgr
          have c4 := hst.place
          have f4 := hst.frozen 44
          have X0 : Hid (RowC wr r cap ((over key nonce P0 zs).take (k + i) ++ zs.drop (k + i)) ∧ StAt wr g key nonce P ∧ Kept (fun b => b = r) w3 wr) := ⟨hb, hst, hkp⟩
          clear hb hkp hst
          have hq : P + i ≤ 274877906944 := by have := HPk.out; have := HN.out.2.1; omega
          go_wp2_with fail
          go_ret
          have mv := X0.out.2.1.move (P + i) hq
          have hf := HF.out.2.2.2.1
          have k1 := (X0.out.2.2.mono (T := fun b => b = g ∨ b = r) (fun _ h => .inr h)).setCell (p := ⟨g, 44, none⟩) (.inl rfl) (.int .u64 ((P + i : Nat) : Int))
          refine ⟨i, rfl, by have := HN.out.2.1; omega, by have := HN.out.2.1; omega, ?_, ?_, ?_⟩
          · rw [← Nat.add_assoc, ← HPk.out]; simpa using mv
          · exact X0.out.1.other (fun e => hgr e.symm) _
          · exact (Kept.new _ hf).trans (by simpa using k1)
end Go.Proofs.Ytcimiajkbgabiaa

namespace Go.Proofs.Ytcimiajkbgabiaa
open Go.RowKit
set_option linter.unusedVariables false
set_option linter.unusedSimpArgs false

set_option maxRecDepth 20000 in
theorem sxor_nil (ao : Option Addr) (n c : Nat) (w : World) : Calls Try.prog 73 #[.pointer none, .slice ao n c] w fun e w' => e = .returned (.tuple #[.slice none 0 0, .int .i64 1]) ∧ w = w' := by
  go_enter Try.func73, Try.ntmps73
  go_wp2_with (go_at_call 94; refine (check_nil n _).mono ?_; rintro e w' ⟨rfl, rfl⟩)
  go_ret2
  exact ⟨rfl, rfl⟩
theorem sxor_bad (g : Nat) (key nonce : List Int) (P n c : Nat) (ao : Option Addr) (hn : n ≤ 140737488355328) (hc : 274877906944 < n + P) (w : World) (h : StAt w g key nonce P) :
    Calls Try.prog 73 #[.pointer (some ⟨g, 0, none⟩), .slice ao n c] w fun e w' => e = .returned (.tuple #[.slice none 0 0, .int .i64 50]) ∧ w = w' := by
  have hk := check_any g key nonce P n (by omega) w h
  rw [chk_over (by omega) (by omega)] at hk
  clear h
  go_enter Try.func73, Try.ntmps73
  go_wp2_with (go_at_call 94; refine hk.mono ?_; rintro e w' ⟨rfl, rfl⟩)
  go_ret2
  exact ⟨rfl, rfl⟩
set_option maxRecDepth 20000 in
set_option maxHeartbeats 1000000 in
theorem sxor_any (g : Nat) (key nonce : List Int) (P n c : Nat) (ao : Option Addr) (zs : List Int) (hc : n + P ≤ 274877906944) (w : World) (h : StAt w g key nonce P) (hx : Seen w ao n zs) :
    Calls Try.prog 73 #[.pointer (some ⟨g, 0, none⟩), .slice ao n c] w fun e w' => ∃ v, e = .returned (.tuple #[v, .int .i64 0]) ∧ w'.ownsRow w.heap.size 5 1 v n ((over key nonce P zs).map (Value.int .u8)) ∧ StAt w' g key nonce (P + n) ∧ Kept (fun b => b = g) w w' := by
  have hk := check_any g key nonce P n (by omega) w h
  rw [chk_ok (by omega) (by omega)] at hk
  have HX : Hid (Seen w ao n zs ∧ StAt w g key nonce P) := ⟨hx, h⟩
  clear h hx
  go_enter Try.func73, Try.ntmps73
  go_wp2_with (first | (go_at_call 94; refine hk.mono ?_; rintro e w' ⟨rfl, rfl⟩) | (go_at_call 41; refine (clone_any ao n c zs _ HX.out.1).mono ?_; rintro e w1 ⟨v, rfl, o1, l1⟩; rcases own_len HX.out.1.len o1 with ⟨rfl, hn0⟩ | ⟨r, cap, rfl, r1, g1, c1, m1⟩))
  · subst hn0
    have hz : zs = [] := List.length_eq_zero_iff.1 HX.out.1.len
    subst hz
    go_loopw [8] (fun v wr => v = .slice none 0 0 ∧ wr = w1) (fun _ _ => 0)
    case atStart => exact ⟨rfl, rfl⟩
    case round =>
      obtain ⟨rfl, rfl⟩ := hrel
      have HL : Hid (Below w.heap.size w wr) := l1
      clear l1 o1
      go_wp2_with fail
      go_ret2
      exact ⟨_, rfl, World.ownsRow_nil _ _ _ _, HX.out.2.later HL.out HX.out.2.lt, Kept.new _ HL.out⟩
  · have HL : Hid (Below w.heap.size w w1 ∧ RowC w1 r cap zs ∧ StAt w1 g key nonce P ∧ g ≠ r ∧ w.heap.size ≤ r ∧ cap ≤ maxLen) := ⟨l1, RowC.of_own o1, HX.out.2.later l1 HX.out.2.lt, by have := HX.out.2.lt; omega, g1, m1⟩
    have HN : Hid (zs.length = n ∧ Bytes zs) := ⟨HX.out.1.len, HX.out.1.bytes⟩
    clear o1 l1 r1 g1 m1
    go_loopw [8] (fun v wr => ∃ (k M C : Nat) (ro : Option Addr), k + M = n ∧ M ≤ C ∧ v = .slice ro M C ∧ (0 < M → ro = some ⟨r, k, none⟩) ∧ RowC wr r cap ((over key nonce P zs).take k ++ zs.drop k) ∧ StAt wr g key nonce (P + k) ∧ Kept (fun b => b = g ∨ b = r) w1 wr) (fun v _ => match v with | .slice _ m _ => m | _ => 0)
    case atStart => exact ⟨0, n, cap, some ⟨r, 0, none⟩, by omega, c1, rfl, fun _ => rfl, by simpa using HL.out.2.1, HL.out.2.2.1, Kept.refl _ _⟩
    case round =>
      obtain ⟨k, M, C, ro, hkM, hMC, rfl, hro, hrow, hst, hkp⟩ := hrel
      by_cases hM : 0 < M
      · obtain rfl := hro hM
        have X0 : Hid (RowC wr r cap ((over key nonce P zs).take k ++ zs.drop k) ∧ StAt wr g key nonce (P + k) ∧ Kept (fun b => b = g ∨ b = r) w1 wr) := ⟨hrow, hst, hkp⟩
        clear hrow hst hkp hro
        have i1 : (0 : Int) < (M : Int) := by omega
        have hly := lay_any g r key nonce zs P k n M C cap HN.out.1 (by omega) (by omega) (by omega) HL.out.2.2.2.1 HN.out.2 hMC wr X0.out.2.1 X0.out.1
        go_wp2_with (go_at_call 95; refine hly.mono ?_; rintro e w2 ⟨i, rfl, hi0, hik, st2, row2, k2⟩; have hsl := sl_l (some ⟨r, k, none⟩) M C i (by omega); have X2 : Hid (RowC w2 r cap ((over key nonce P zs).take (k + i) ++ zs.drop (k + i)) ∧ StAt w2 g key nonce (P + (k + i)) ∧ Kept (fun b => b = g ∨ b = r) w1 w2) := ⟨row2, st2, X0.out.2.2.trans k2⟩; clear row2 st2 k2)
        refine ⟨⟨k + i, M - i, C - i, subA (some ⟨r, k, none⟩) i C, by omega, by omega, rfl, fun h => ?_, X2.out⟩, by simp; omega⟩
        unfold subA
        rw [if_neg (by omega)]
        exact congrArg some (add_mid r k i)
      · obtain rfl : M = 0 := by omega
        obtain rfl : k = n := by omega
        have hlo : (over key nonce P zs).length = k := (over_length _ _ _ _).trans HN.out.1
        rw [List.take_of_length_le (by omega), List.drop_eq_nil_of_le (by have := HN.out.1; omega), List.append_nil] at hrow
        have X0 : Hid (RowC wr r cap (over key nonce P zs) ∧ StAt wr g key nonce (P + k) ∧ Kept (fun b => b = g ∨ b = r) w1 wr ∧ (over key nonce P zs).length = k) := ⟨hrow, hst, hkp, hlo⟩
        clear hrow hst hkp hro hlo
        go_wp2_with fail
        go_ret2
        refine ⟨_, rfl, X0.out.1.own X0.out.2.2.2 HL.out.2.2.2.2.1 HL.out.2.2.2.2.2, X0.out.2.1, ?_⟩
        have kk := X0.out.2.2.1
        have hb := HL.out.1
        exact ⟨by rw [kk.os, hb.os], by rw [kk.tape, hb.tape], by rw [kk.output, hb.output], Nat.le_trans hb.size kk.size, fun b hlt hne => by
          rw [kk.block b (Nat.lt_of_lt_of_le hlt hb.size) (by have := HL.out.2.2.2.2.1; omega), hb.block b hlt]⟩
set_option maxRecDepth 20000 in
set_option maxHeartbeats 1000000 in
theorem xor_any (key nonce : List Int) (ctr n c : Nat) (ao : Option Addr) (zs : List Int) (hk : key.length = 32) (hno : nonce.length = 12) (hkb : Bytes key) (hnb : Bytes nonce) (hct : ctr < 4294967296) (hc : n + 64 * ctr ≤ 274877906944) (w : World) (hx : Seen w ao n zs) :
    Calls Try.prog 55 #[.agg (u8s key).toArray, .agg (u8s nonce).toArray, .int .u32 ctr, .slice ao n c] w fun e w' => ∃ v, e = .returned (.tuple #[v, .int .i64 0]) ∧ w'.ownsRow w.heap.size 5 1 v n ((over key nonce (64 * ctr) zs).map (Value.int .u8)) ∧ Below w.heap.size w w' := by
  have HX : Hid (Seen w ao n zs) := hx
  clear hx
  have HS : Hid (key.length = 32 ∧ nonce.length = 12 ∧ Bytes key ∧ Bytes nonce) := ⟨hk, hno, hkb, hnb⟩
  clear hk hno hkb hnb
  go_enter Try.func55, Try.ntmps55
  go_wp2_with (first | (refine wpList_box_new rfl 27 _ rfl (u8s key) rfl ?_; intro w1 b1 s1 l1) | (refine wpList_box_new rfl 42 _ rfl (u8s nonce) rfl ?_; intro w2 b2 s2 l2) | (refine wpList_load_blk rfl 27 _ rfl _ rfl (u8s key) _ (by first | exact b1.later l2 (by omega)) Try.underlying27 rfl (by rw [u8s_length, HS.out.1]; exact sizeKey) ?_) | (refine wpList_load_blk rfl 42 _ rfl _ rfl (u8s nonce) _ (by first | exact b2 | (rw [← s1]; exact b2)) Try.underlying42 rfl (by rw [u8s_length, HS.out.2.1]; exact sizeNonce) ?_) | (go_at_call 72; refine (new_any key ctr nonce HS.out.1 HS.out.2.1 HS.out.2.2.1 HS.out.2.2.2 hct _).mono ?_; rintro e w3 ⟨g, rfl, hg, st3, l3⟩))
  have L3 : Below w.heap.size w w3 := below_chain (below_chain l1 l2 (by omega)) l3 (by omega)
  have hgw : w.heap.size ≤ g := by omega
  clear b1 s1 l1 b2 s2 l2 l3 hg
  refine (sxor_any g key nonce (64 * ctr) n c ao zs hc w3 st3 (HX.out.later L3 (Nat.le_refl _))).mono ?_
  rintro e w4 ⟨v, rfl, o4, st4, k4⟩
  have HO : Hid (w4.ownsRow w.heap.size 5 1 v n ((over key nonce (64 * ctr) zs).map (Value.int .u8)) ∧ Below w.heap.size w w4) := ⟨ownsRow_base o4 L3.size, below_kept L3 k4 L3.size (fun j hj => by omega)⟩
  clear o4 st4 k4 st3 L3
  go_wp2_with fail
  go_ret2
  exact ⟨_, rfl, HO.out⟩
set_option maxRecDepth 20000 in
set_option maxHeartbeats 1000000 in
theorem xor_bad (key nonce : List Int) (ctr n c : Nat) (ao : Option Addr) (hk : key.length = 32) (hno : nonce.length = 12) (hkb : Bytes key) (hnb : Bytes nonce) (hct : ctr < 4294967296) (hn : n ≤ 140737488355328) (hc : 274877906944 < n + 64 * ctr) (w : World) :
    Calls Try.prog 55 #[.agg (u8s key).toArray, .agg (u8s nonce).toArray, .int .u32 ctr, .slice ao n c] w fun e w' => e = .returned (.tuple #[.slice none 0 0, .int .i64 50]) ∧ Below w.heap.size w w' := by
  have HS : Hid (key.length = 32 ∧ nonce.length = 12 ∧ Bytes key ∧ Bytes nonce) := ⟨hk, hno, hkb, hnb⟩
  clear hk hno hkb hnb
  go_enter Try.func55, Try.ntmps55
  go_wp2_with (first | (refine wpList_box_new rfl 27 _ rfl (u8s key) rfl ?_; intro w1 b1 s1 l1) | (refine wpList_box_new rfl 42 _ rfl (u8s nonce) rfl ?_; intro w2 b2 s2 l2) | (refine wpList_load_blk rfl 27 _ rfl _ rfl (u8s key) _ (by first | exact b1.later l2 (by omega)) Try.underlying27 rfl (by rw [u8s_length, HS.out.1]; exact sizeKey) ?_) | (refine wpList_load_blk rfl 42 _ rfl _ rfl (u8s nonce) _ (by first | exact b2 | (rw [← s1]; exact b2)) Try.underlying42 rfl (by rw [u8s_length, HS.out.2.1]; exact sizeNonce) ?_) | (go_at_call 72; refine (new_any key ctr nonce HS.out.1 HS.out.2.1 HS.out.2.2.1 HS.out.2.2.2 hct _).mono ?_; rintro e w3 ⟨g, rfl, hg, st3, l3⟩))
  have L3 : Below w.heap.size w w3 := below_chain (below_chain l1 l2 (by omega)) l3 (by omega)
  have hgw : w.heap.size ≤ g := by omega
  clear b1 s1 l1 b2 s2 l2 l3 hg
  refine (sxor_bad g key nonce (64 * ctr) n c ao hn hc w3 st3).mono ?_
  rintro e w4 ⟨rfl, rfl⟩
  have HO : Hid (Below w.heap.size w w3) := L3
  clear st3 L3
  go_wp2_with fail
  go_ret2
  exact ⟨rfl, HO.out⟩
end Go.Proofs.Ytcimiajkbgabiaa

namespace Go.Proofs.Ytcimiajkbgabiaa
open Go.RowKit
set_option linter.unusedVariables false
set_option linter.unusedSimpArgs false

theorem xor8_b (x y : Int) (hx : 0 ≤ x ∧ x < 256) (hy : 0 ≤ y ∧ y < 256) : 0 ≤ bits .xor .u8 x y ∧ bits .xor .u8 x y < 256 := by
  rw [u8_xor x y hx.1 hx.2 hy.1 hy.2]
  have : x.toNat ^^^ y.toNat < 2 ^ 8 := Nat.xor_lt_two_pow (by omega) (by omega)
  omega
theorem xor_back (x k : Int) (hx : 0 ≤ x ∧ x < 256) (hk : 0 ≤ k ∧ k < 256) : bits .xor .u8 (bits .xor .u8 x k) k = x := by
  have h1 : x.toNat ^^^ k.toNat < 2 ^ 8 := Nat.xor_lt_two_pow (by omega) (by omega)
  rw [u8_xor x k hx.1 hx.2 hk.1 hk.2, u8_xor _ k (by omega) (by omega) hk.1 hk.2, Int.toNat_natCast, Nat.xor_assoc, Nat.xor_self, Nat.xor_zero]
  omega
theorem xor_both (x y k : Int) (hx : 0 ≤ x ∧ x < 256) (hy : 0 ≤ y ∧ y < 256) (hk : 0 ≤ k ∧ k < 256) : bits .xor .u8 (bits .xor .u8 x k) (bits .xor .u8 y k) = bits .xor .u8 x y := by
  have h1 : x.toNat ^^^ k.toNat < 2 ^ 8 := Nat.xor_lt_two_pow (by omega) (by omega)
  have h2 : y.toNat ^^^ k.toNat < 2 ^ 8 := Nat.xor_lt_two_pow (by omega) (by omega)
  rw [u8_xor x k hx.1 hx.2 hk.1 hk.2, u8_xor y k hy.1 hy.2 hk.1 hk.2, u8_xor _ _ (by omega) (by omega) (by omega) (by omega), u8_xor x y hx.1 hx.2 hy.1 hy.2, Int.toNat_natCast, Int.toNat_natCast]
  congr 1
  rw [Nat.xor_assoc, ← Nat.xor_assoc k.toNat, Nat.xor_comm k.toNat y.toNat, Nat.xor_assoc y.toNat, Nat.xor_self, Nat.xor_zero]
theorem over_bytes (key nonce : List Int) (p : Nat) (zs : List Int) (hb : Bytes zs) : Bytes (over key nonce p zs) := by
  intro z hz
  simp only [over, List.mem_map, List.mem_range] at hz
  obtain ⟨i, hi, rfl⟩ := hz
  exact xor8_b _ _ (hb.at i hi) (ks_byte _ _ _)
/-- Laid over twice it is the text again. -/
theorem over_over (key nonce : List Int) (p : Nat) (zs : List Int) (hb : Bytes zs) : over key nonce p (over key nonce p zs) = zs := by
  apply List.ext_getElem
  · simp [over_length]
  · intro i h1 h2
    have e1 := over_at key nonce p (over key nonce p zs) i (by rw [over_length]; exact h2)
    rw [over_at _ _ _ _ _ h2, xor_back _ _ (hb.at i h2) (ks_byte _ _ _)] at e1
    simpa [List.getD, h1, h2] using e1
theorem xor_all (key nonce : List Int) (ctr n c : Nat) (ao : Option Addr) (zs : List Int) (hk : key.length = 32) (hno : nonce.length = 12) (hkb : Bytes key) (hnb : Bytes nonce) (hct : ctr < 4294967296) (w : World) (hx : Seen w ao n zs) :
    Calls Try.prog 55 #[.agg (u8s key).toArray, .agg (u8s nonce).toArray, .int .u32 ctr, .slice ao n c] w fun e w' => ∃ (vo : Option Addr) (m vc : Nat) (R : List Int) (E : Int), e = .returned (.tuple #[.slice vo m vc, .int .i64 E]) ∧
      ((n + 64 * ctr ≤ 274877906944 ∧ m = n ∧ E = 0 ∧ R = over key nonce (64 * ctr) zs) ∨ (274877906944 < n + 64 * ctr ∧ m = 0 ∧ E = 50 ∧ R = [])) ∧ Seen w' vo m R ∧ (vo = none → vc = 0) ∧ (∀ b o, vo = some ⟨b, o, none⟩ → w.heap.size ≤ b) ∧ m ≤ vc ∧ Below w.heap.size w w' := by
  have ht := hx.top
  by_cases hc : n + 64 * ctr ≤ 274877906944
  · refine (xor_any key nonce ctr n c ao zs hk hno hkb hnb hct hc w hx).mono ?_
    rintro e w1 ⟨v, rfl, o1, l1⟩
    have hl : (over key nonce (64 * ctr) zs).length = n := (over_length _ _ _ _).trans hx.len
    have hb := over_bytes key nonce (64 * ctr) zs hx.bytes
    rcases own_len hl o1 with ⟨rfl, hn0⟩ | ⟨r, cap, rfl, r1, g1, c1, m1⟩
    · subst hn0
      have e : over key nonce (64 * ctr) zs = [] := List.length_eq_zero_iff.1 hl
      exact ⟨none, 0, 0, _, 0, rfl, .inl ⟨hc, rfl, rfl, rfl⟩, by rw [e]; exact Seen.empty _ _, fun _ => rfl, fun b o h => (by cases h), Nat.le_refl _, l1⟩
    · refine ⟨_, n, cap, _, 0, rfl, .inl ⟨hc, rfl, rfl, rfl⟩, ?_, fun h => (by cases h), fun b o h => (by simp at h; omega), c1, l1⟩
      have := Seen.of_row (n := n) r1 (by omega) ht hb
      rwa [List.take_of_length_le (by omega)] at this
  · refine (xor_bad key nonce ctr n c ao hk hno hkb hnb hct ht (by omega) w).mono ?_
    rintro e w1 ⟨rfl, l1⟩
    exact ⟨none, 0, 0, [], 50, rfl, .inr ⟨by omega, rfl, rfl, rfl⟩, Seen.empty _ _, fun _ => rfl, fun b o h => (by cases h), Nat.le_refl _, l1⟩
end Go.Proofs.Ytcimiajkbgabiaa

namespace Go.Proofs.Ytcimiajkbgabiaa
open Go.RowKit
set_option linter.unusedVariables false
set_option linter.unusedSimpArgs false
/-- An operation that yields its value in every world that meets the condition is taken first. -/
theorem hTake {md : Region.Mode} {ops : Array Oper} {Q : Exit → Act → World → Prop} {S : World → Prop} {oi : Oper} {fuel : Nat} {listed : Array Bool} {a : Act} {w : World} (i : Nat) (d : Option Tmp) (v : Value) (hi : ops[i]? = some oi) (hd : oi.dst = d)
    (hs : Region.noSelect ops = true) (hf : Region.free md ops listed i = true) (hr : (Region.ready md ops listed).contains i = true) (hQ : ∀ c a w, Q (.panic c) (a.put d v) w → Q (.panic c) a w)
    (hw : Region.wanted oi (yielded ops a.tmps) = true) (hy : ∀ w, S w → (execOp a.eval oi).run Try.prog w = .ok (.value v) w) (hS : S w)
    (h : wpAnyH Try.prog md ops Q S fuel (listed.setIfInBounds i true) (a.put d v) w) : wpAnyH Try.prog md ops Q S (fuel + 1) listed a w := by
  subst hd
  exact wpAnyH_take hi hs hf hr hQ (Or.inl ⟨hw, hy⟩) hS h
/-- Many cells that the condition names are read first. -/
theorem hLoad {md : Region.Mode} {ops : Array Oper} {Q : Exit → Act → World → Prop} {S : World → Prop} {oi : Oper} {fuel : Nat} {listed : Array Bool} {a : Act} {w : World} (i : Nat) (d : Option Tmp) (cs : List Value) (hi : ops[i]? = some oi) (hd : oi.dst = d)
    (hs : Region.noSelect ops = true) (hf : Region.free md ops listed i = true) (hr : (Region.ready md ops listed).contains i = true) (hQ : ∀ c a w, Q (.panic c) (a.put d (.agg cs.toArray)) w → Q (.panic c) a w)
    (hw : Region.wanted oi (yielded ops a.tmps) = true) (ty : TypeId) (x : Operand) (ho : oi.op = .load ty x) (b off : Nat) (hx : a.eval x = .pointer (some ⟨b, off, none⟩)) (ds : TypeDesc) (hc : ∀ w, S w → w.rangeAt b off cs)
    (hu : Try.prog.underlying ty = some ds) (hdr : ds.isRow = true) (hz : (Try.prog.info? ty).map (·.size) = some cs.length) (hS : S w)
    (h : wpAnyH Try.prog md ops Q S fuel (listed.setIfInBounds i true) (a.put d (.agg cs.toArray)) w) : wpAnyH Try.prog md ops Q S (fuel + 1) listed a w := by
  subst hd
  exact wpAnyH_take hi hs hf hr hQ (yieldsIf_load_mid hw ty x ho b off hx cs ds hc hu hdr hz) hS h
end Go.Proofs.Ytcimiajkbgabiaa

namespace Go.Proofs.Ytcimiajkbgabiaa
open Go.RowKit
set_option linter.unusedVariables false
set_option linter.unusedSimpArgs false

/-- A stream in block g: its key, its nonce, its place. -/
structure RtAt (w : World) (g : Nat) (key nonce : List Int) (P : Nat) : Prop where
  blk : Blk w g 148 (sCells key nonce P)
  k32 : key.length = 32
  n12 : nonce.length = 12
  kb : Bytes key
  nb : Bytes nonce
  top : P ≤ 274877906944
theorem rbuild_s0 (f g : Nat → Int) (P : Int) (w : World) : (Instr.build 148 #[(0, .agg (u8s ((List.range 32).map f)).toArray), (1, .agg (u8s ((List.range 12).map g)).toArray), (2, .int .u64 P)]).run Try.prog w = .ok (.agg (sCells ((List.range 32).map f) ((List.range 12).map g) P).toArray) w := by kernel_rfl
theorem rbuild_s (key nonce : List Int) (hk : key.length = 32) (hn : nonce.length = 12) (P : Int) (w : World) : (Instr.build 148 #[(0, .agg (u8s key).toArray), (1, .agg (u8s nonce).toArray), (2, .int .u64 P)]).run Try.prog w = .ok (.agg (sCells key nonce P).toArray) w := by
  rw [list_range key 32 hk, list_range nonce 12 hn]
  exact rbuild_s0 _ _ P w
set_option maxRecDepth 20000 in
set_option maxHeartbeats 1000000 in
theorem rsnew_any (key : List Int) (ctr : Nat) (nonce : List Int) (hk : key.length = 32) (hn : nonce.length = 12) (hkb : Bytes key) (hnb : Bytes nonce) (hc : ctr < 4294967296) (w : World) :
    Calls Try.prog 68 #[.agg (u8s key).toArray, .agg (u8s nonce).toArray, .int .u32 ctr] w fun e w' => ∃ g, e = .returned (.pointer (some ⟨g, 0, none⟩)) ∧ w.heap.size ≤ g ∧ RtAt w' g key nonce (64 * ctr) ∧ Below w.heap.size w w' := by
  have HS : Hid (key.length = 32 ∧ nonce.length = 12 ∧ Bytes key ∧ Bytes nonce) := ⟨hk, hn, hkb, hnb⟩
  clear hk hn hkb hnb
  have v1 : IntKind.u64.wrap (ctr : Int) = (ctr : Int) := by simp only [IntKind.wrap, IntKind.bits, IntKind.signed]; simp; omega
  have v2 : IntKind.u64.wrap (64 * (ctr : Int)) = 64 * (ctr : Int) := by simp only [IntKind.wrap, IntKind.bits, IntKind.signed]; simp; omega
  go_enter Try.func68, Try.ntmps68
  go_wp2_with (first | ((with_reducible show wpList _ _ _ ({ dst := some 12, op := _, type := _, pos := _, after := _, guard := _ } :: _) _ _); refine Hid.out ?_) | (refine wpList_box_new rfl 27 _ rfl (u8s key) rfl ?_; intro w1 b1 s1 l1) | (refine wpList_box_new rfl 42 _ rfl (u8s nonce) rfl ?_; intro w2 b2 s2 l2) | (refine wpList_load_blk rfl 27 _ rfl _ rfl (u8s key) _ (by first | exact b1.later l2 (by omega)) Try.underlying27 rfl (by rw [u8s_length, HS.out.1]; exact sizeKey) ?_) | (refine wpList_load_blk rfl 42 _ rfl _ rfl (u8s nonce) _ (by first | exact b2 | (rw [← s1]; exact b2)) Try.underlying42 rfl (by rw [u8s_length, HS.out.2.1]; exact sizeNonce) ?_) | ((with_reducible show wpList _ _ _ ({ dst := some 9, op := _, type := _, pos := _, after := _, guard := _ } :: _) _ _); refine wpList_yield rfl (.int .u32 (ctr : Int)) rfl ?_) | ((with_reducible show wpList _ _ _ ({ dst := some 10, op := _, type := _, pos := _, after := _, guard := _ } :: _) _ _); refine wpList_yield rfl (.int .u64 (ctr : Int)) (by go_simp) ?_) | ((with_reducible show wpList _ _ _ ({ dst := some 11, op := _, type := _, pos := _, after := _, guard := _ } :: _) _ _); refine wpList_yield rfl (.int .u64 (64 * (ctr : Int))) (by go_simp) ?_) | (refine wpList_build rfl 148 _ rfl #[(0, .agg (u8s key).toArray), (1, .agg (u8s nonce).toArray), (2, .int .u64 (64 * (ctr : Int)))] rfl _ (rbuild_s key nonce HS.out.1 HS.out.2.1 _ _) ?_) | (refine wpList_box_new rfl 148 _ rfl (sCells key nonce (64 * (ctr : Int))) rfl ?_; intro w3 b3 s3 l3) | (refine wpList_alloc_new rfl 148 rfl 45 _ zeroStrm ?_; intro w4 b4 s4 l4) | (refine wpList_store_blk rfl 148 148 _ _ rfl _ rfl _ (sCells key nonce (64 * (ctr : Int))) rfl b4 (by rw [sCells_length _ _ _ HS.out.1 HS.out.2.1]; rfl) (by rw [sCells_length _ _ _ HS.out.1 HS.out.2.1]; exact sizeStrm) (sCells_one _ _ _) ?_; intro w5 b5 s5 k5))
  change wpList _ _ _ _ _ _
  refine wpList_build rfl 148 _ rfl #[(0, .agg (u8s key).toArray), (1, .agg (u8s nonce).toArray), (2, .int .u64 (64 * (ctr : Int)))] (by simp [Act.eval]) _ (rbuild_s key nonce HS.out.1 HS.out.2.1 _ _) ?_
  go_wp2_with (first | (refine wpList_box_new rfl 148 _ rfl (sCells key nonce (64 * (ctr : Int))) rfl ?_; intro w3 b3 s3 l3))
  go_ret
  refine ⟨w2.heap.size, by simp [s1, s2], by omega, ⟨by simpa using b3, HS.out.1, HS.out.2.1, HS.out.2.2.1, HS.out.2.2.2, by omega⟩, below_chain (below_chain l1 l2 (by omega)) l3 (by omega)⟩
theorem RtAt.place {w : World} {g : Nat} {key nonce : List Int} {P : Nat} (h : RtAt w g key nonce P) : w.cell? ⟨g, 44, none⟩ = some (.int .u64 P) := by
  rw [h.blk.cell, sCells, List.getElem?_append_right (by rw [u8s_length, h.k32]; decide), u8s_length, h.k32, List.getElem?_append_right (by rw [u8s_length, h.n12]; decide), u8s_length, h.n12]; rfl
theorem RtAt.frozen {w : World} {g : Nat} {key nonce : List Int} {P : Nat} (h : RtAt w g key nonce P) (j : Nat) : w.frozen? ⟨g, j, none⟩ = false := h.blk.frozen j
theorem RtAt.lt {w : World} {g : Nat} {key nonce : List Int} {P : Nat} (h : RtAt w g key nonce P) : g < w.heap.size := h.blk.lt
theorem RtAt.later {w w' : World} {g : Nat} {key nonce : List Int} {P : Nat} (h : RtAt w g key nonce P) {B : Nat} (hb : Below B w w') (hB : g < B) : RtAt w' g key nonce P := ⟨h.blk.later hb hB, h.k32, h.n12, h.kb, h.nb, h.top⟩
theorem RtAt.kept {S : Nat → Prop} {w w' : World} {g : Nat} {key nonce : List Int} {P : Nat} (h : RtAt w g key nonce P) (hk : Kept S w w') (hS : ¬ S g) : RtAt w' g key nonce P := ⟨h.blk.kept hk hS, h.k32, h.n12, h.kb, h.nb, h.top⟩
theorem RtAt.drew {w : World} {g : Nat} {key nonce : List Int} {P : Nat} (h : RtAt w g key nonce P) : RtAt w.drew g key nonce P := ⟨h.blk.drew, h.k32, h.n12, h.kb, h.nb, h.top⟩
theorem RtAt.drewN {w : World} {g : Nat} {key nonce : List Int} {P : Nat} (h : RtAt w g key nonce P) (n : Nat) : RtAt (w.drewN n) g key nonce P := ⟨h.blk.drewN n, h.k32, h.n12, h.kb, h.nb, h.top⟩
theorem RtAt.move {w : World} {g : Nat} {key nonce : List Int} {P : Nat} (h : RtAt w g key nonce P) (P' : Nat) (ht : P' ≤ 274877906944) : RtAt (w.setCell ⟨g, 44, none⟩ (.int .u64 P')) g key nonce P' := by
  refine ⟨?_, h.k32, h.n12, h.kb, h.nb, ht⟩
  have h1 := h.blk.set 44 (.int .u64 P')
  have e : (sCells key nonce P).set 44 (.int .u64 P') = sCells key nonce P' := by
    rw [sCells, List.set_append_right _ _ (by rw [u8s_length, h.k32]; decide), u8s_length, h.k32, List.set_append_right _ _ (by rw [u8s_length, h.n12]; decide), u8s_length, h.n12]; rfl
  rwa [e] at h1
theorem RtAt.key {w : World} {g : Nat} {key nonce : List Int} {P : Nat} (h : RtAt w g key nonce P) : w.rangeAt g 0 (u8s key) := by
  have := Blk.range (xs := []) (ys := u8s key) (zs := u8s nonce ++ [Value.int .u64 P]) h.blk
  simpa using this
theorem RtAt.nonce {w : World} {g : Nat} {key nonce : List Int} {P : Nat} (h : RtAt w g key nonce P) : w.rangeAt g 32 (u8s nonce) := by
  have := Blk.range (xs := u8s key) (ys := u8s nonce) (zs := [Value.int .u64 P]) h.blk
  rwa [u8s_length, h.k32] at this
theorem rstep_append {ops : Array Oper} {o : Oper} {a : Act} {K : Act → World → Prop} {Q : Exit → Act → World → Prop} {E : Prop} {w : World} (hgd : o.guard = none) (s x : Operand)
    (ho : o.op = .call { callee := .builtin .append, args := #[s, x], argTypes := #[22, 22] }) (base : Nat) (v : Value) (n : Nat) (xs : List Value) (hs : a.eval s = v) (hown : w.ownsRow base 5 1 v n xs)
    (ao : Option Addr) (m c : Nat) (zs : List Int) (hx : a.eval x = .slice ao m c) (hsn : Seen w ao m zs) (hc : ao = none → c = 0) (hb : n + m ≤ 140737488355328) (hbase : base ≤ w.heap.size)
    (h : ∀ v' w', w'.ownsRow base 5 1 v' (n + m) (xs ++ zs.map (Value.int .u8)) → w.grownBy w' v.ownBlock → K (a.put o.dst v') w') :
    if Region.wanted o (yielded ops a.tmps) = true then Oper.wp Try.prog o a w K Q else E := by
  have hw : Region.wanted o (yielded ops a.tmps) = true := by simp [Region.wanted, hgd]
  rw [if_pos hw]
  obtain ⟨i0, hi, hz0, hz1, hz2⟩ := info_parts info_byte
  cases ao with
  | none =>
    obtain ⟨rfl, rfl⟩ := seen_nil hsn
    obtain rfl := hc rfl
    have hrun := run_append_owned_none (P := Try.prog) (w := w) base 22 o.type 5 i0 1 Try.underlying22 hi v n xs hown
    have h' := h v w (by simpa using hown) ⟨rfl, rfl, rfl, Nat.le_refl _, fun _ _ _ => rfl⟩
    unfold Oper.wp
    simp [execOp, ho, resolve, invoke, builtin, hs, hx, hrun, Result.andThen]
    exact h'
  | some ad =>
    refine wp_append_own w s x 22 ho base 5 i0 (.int .u8 0) 1 1 Try.underlying22 hi hz0 hz1 hz2 rfl (by decide) v n xs hs hown ad m c (zs.map (Value.int .u8)) hx ?_ (seen_news hsn rfl) (one_bytes zs) ?_ ?_ hbase (fun v' w' h1 h2 _ => h v' w' h1 h2)
    · rw [List.length_map, hsn.len, Nat.mul_one]
    · unfold maxLen; omega
    · omega
/-- The document's bytes laid over. -/
theorem kept_below {S : Nat → Prop} {a b c : World} {B : Nat} (hk : Kept S a b) (hb : Below B b c) (hB : a.heap.size ≤ B) : Kept S a c :=
  ⟨hb.os.trans hk.os, hb.tape.trans hk.tape, hb.output.trans hk.output, Nat.le_trans hk.size hb.size, fun j hj hs => (hb.block j (Nat.lt_of_lt_of_le hj hB)).trans (hk.block j hj hs)⟩
theorem getD_get {xs : List Int} {k : Nat} {d : Int} (h : xs.getD k 0 = d) (hk : k < xs.length) : xs[k] = d := by
  rw [← h, List.getD, List.getElem?_eq_getElem hk]; rfl
theorem xor32_8 (a b : Int) (ha : 0 ≤ a ∧ a < 256) (hb : 0 ≤ b ∧ b < 256) : bits .xor .u32 a b = bits .xor .u8 a b ∧ (0 ≤ bits .xor .u8 a b ∧ bits .xor .u8 a b < 256) := by
  have h1 : a.toNat ^^^ b.toNat < 2 ^ 8 := Nat.xor_lt_two_pow (by omega) (by omega)
  rw [u8_xor a b ha.1 ha.2 hb.1 hb.2, u32_xor a b ha.1 (by omega) hb.1 (by omega)]
  exact ⟨rfl, by omega, by omega⟩
set_option maxRecDepth 20000 in
set_option maxHeartbeats 1000000 in
theorem rsxor_bad (g : Nat) (key nonce : List Int) (P n c : Nat) (ao : Option Addr) (hn : n ≤ 140737488355328) (hc : 274877906944 < n + P) (w : World) (h : RtAt w g key nonce P) :
    Calls Try.prog 69 #[.pointer (some ⟨g, 0, none⟩), .slice ao n c] w fun e w' => e = .returned (.tuple #[.slice none 0 0, .int .i64 50]) ∧ w = w' := by
  have c1 := h.place
  have ht := h.top
  have v1 : IntKind.u64.wrap (n : Int) = (n : Int) := by simp only [IntKind.wrap, IntKind.bits, IntKind.signed]; simp; omega
  have v2 : IntKind.u64.wrap (274877906944 - (P : Int)) = 274877906944 - (P : Int) := by simp only [IntKind.wrap, IntKind.bits, IntKind.signed]; simp; omega
  have i1 : 274877906944 - (P : Int) < (n : Int) := by omega
  clear h
  go_enter Try.func69, Try.ntmps69
  go_wp2_with fail
  go_ret2
  exact ⟨rfl, rfl⟩
theorem own_keptG {w w' : World} {base n G : Nat} {v : Value} {xs : List Value} (h : w.ownsRow base 5 1 v n xs) (hk : Kept (fun x => x = G) w w') (hp : ∀ j, v.ownBlock = some j → j ≠ G) : w'.ownsRow base 5 1 v n xs := by
  refine ⟨h.1, ?_⟩
  rcases h.2 with h2 | ⟨g, cap, cur, rfl, hg, hh, r⟩
  · exact .inl h2
  · exact .inr ⟨g, cap, cur, rfl, hg, by rw [hk.block g (lt_of_block hh) (hp g rfl)]; exact hh, r⟩
theorem own_other {w : World} {base n : Nat} {v : Value} {xs : List Value} (h : w.ownsRow base 5 1 v n xs) {p : Addr} (hp : ∀ j, v.ownBlock = some j → p.block ≠ j) (u : Value) : (w.setCell p u).ownsRow base 5 1 v n xs := by
  refine ⟨h.1, ?_⟩
  rcases h.2 with h2 | ⟨g, cap, cur, rfl, hg, hh, r⟩
  · exact .inl h2
  · exact .inr ⟨g, cap, cur, rfl, hg, by rw [Below.heap_setCell _ _ _ _ (fun e => hp g rfl e.symm)]; exact hh, r⟩
set_option maxRecDepth 20000 in
set_option maxHeartbeats 4000000 in
theorem rsxor_any (g : Nat) (key nonce : List Int) (P n c : Nat) (ao : Option Addr) (zs : List Int) (hc : n + P ≤ 274877906944) (w : World) (h : RtAt w g key nonce P) (hx : Seen w ao n zs) :
    Calls Try.prog 69 #[.pointer (some ⟨g, 0, none⟩), .slice ao n c] w fun e w' => ∃ v, e = .returned (.tuple #[v, .int .i64 0]) ∧ w'.ownsRow w.heap.size 5 1 v n ((over key nonce P zs).map (Value.int .u8)) ∧ RtAt w' g key nonce (P + n) ∧ Kept (fun b => b = g) w w' := by
  have ht := h.top
  have hgl := h.lt
  have v1 : IntKind.u64.wrap (n : Int) = (n : Int) := by simp only [IntKind.wrap, IntKind.bits, IntKind.signed]; simp; omega
  have v2 : IntKind.u64.wrap (274877906944 - (P : Int)) = 274877906944 - (P : Int) := by simp only [IntKind.wrap, IntKind.bits, IntKind.signed]; simp; omega
  have i0 : ¬ 274877906944 - (P : Int) < (n : Int) := by omega
  have c0 := h.place
  have HX : Hid (RtAt w g key nonce P ∧ Seen w ao n zs ∧ zs.length = n ∧ Bytes zs) := ⟨h, hx, hx.len, hx.bytes⟩
  obtain ⟨V, hV⟩ : ∃ V, over key nonce P zs = V := ⟨_, rfl⟩
  have HV : Hid (V.length = n ∧ ∀ k, k < n → V.getD k 0 = bits .xor .u8 (zs.getD k 0) (ks key nonce (P + k))) := ⟨by rw [← hV, over_length, hx.len], fun k hk => by rw [← hV]; exact over_at _ _ _ _ _ (by rw [hx.len]; exact hk)⟩
  rw [hV]
  clear h hx hV
  have uK : (Try.prog.info? 27).map (·.size) = some (u8s key).length := by rw [u8s_length, HX.out.1.k32]; exact sizeKey
  have uN : (Try.prog.info? 42).map (·.size) = some (u8s nonce).length := by rw [u8s_length, HX.out.1.n12]; exact sizeNonce
  have uB : (Try.prog.info? 103).map (·.size) = some 64 := by kernel_rfl
  go_enter Try.func69, Try.ntmps69
  go_wp2_with (first | (refine wpList_alloc_new rfl 103 rfl 64 _ zero64b ?_; intro w1 b1 s1 l1))
  obtain ⟨G, hG⟩ : ∃ G, w.heap.size = G := ⟨_, rfl⟩
  have H1 : Hid (RtAt w1 g key nonce P ∧ Seen w1 ao n zs ∧ Blk w1 G 103 (u8s (zs0 64)) ∧ Below w.heap.size w w1 ∧ w1.heap.size = G + 1 ∧ g < G ∧ w.heap.size = G) := by
    rw [← hG]
    exact ⟨HX.out.1.later l1 hgl, HX.out.2.1.later l1 (Nat.le_refl _), b1, l1, s1, hgl, rfl⟩
  rw [hG]
  clear b1 s1 l1 hG c0 hgl
  go_loopw [6, 8] (fun v i wr => ∃ k : Nat, k ≤ n ∧ i = .int .i64 k ∧ wr.ownsRow (G + 1) 5 1 v k ((V.map (Value.int .u8)).take k) ∧ (∃ X, X.length = 64 ∧ Bytes X ∧ Blk wr G 103 (u8s X) ∧ (0 < k → X = blkB key (((P + k - 1) / 64 : Nat) : Int) nonce)) ∧ Kept (fun x => x = G) w1 wr) (fun _ i _ => n - (intOf i).toNat)
  case atStart => exact ⟨0, Nat.zero_le _, rfl, World.ownsRow_nil _ _ _ _, ⟨zs0 64, by rw [zs0_length], zs0_bytes _, H1.out.2.2.1, fun h => by omega⟩, Kept.refl _ _⟩
  case round =>
    obtain ⟨k, hk, rfl, hown, ⟨X, hXl, hXb, hXB, hXk⟩, hkp⟩ := hrel
    have hlo := H1.out.2.2.2.2.2.1
    have hs1 := H1.out.2.2.2.2.1
    have hR := H1.out.1.kept hkp (by omega)
    have hsz := hkp.size
    by_cases hlt : k < n
    · obtain ⟨b, o, rfl, hb, hcl⟩ := HX.out.2.1.cells (by omega)
      have c1 : wr.cell? ⟨b, o + k, none⟩ = some (.int .u8 (zs.getD k 0)) := (hkp.cell (p := ⟨b, o + k, none⟩) (by show b < _; have := H1.out.2.2.2.2.2.2; omega) (by show ¬ b = G; have := H1.out.2.2.2.2.2.2; omega)).trans ((H1.out.2.2.2.1.cell (p := ⟨b, o + k, none⟩) hb).trans (hcl k hlt))
      have cP := hR.place
      have bZ := HX.out.2.2.2.at k (by rw [HX.out.2.2.1]; exact hlt)
      have hVk := HV.out.2 k hlt
      obtain ⟨Z, hZ⟩ : ∃ Z, zs.getD k 0 = Z := ⟨_, rfl⟩
      rw [hZ] at c1 bZ hVk
      obtain ⟨A, hA⟩ : ∃ A, P + k = A := ⟨_, rfl⟩
      have hA2 : (P : Int) + (k : Int) = (A : Int) := by omega
      have u1 : IntKind.u64.wrap (k : Int) = (k : Int) := by simp only [IntKind.wrap, IntKind.bits, IntKind.signed]; simp; omega
      have u2 : IntKind.u64.wrap ((P : Int) + (k : Int)) = (A : Int) := by simp only [IntKind.wrap, IntKind.bits, IntKind.signed]; simp; omega
      have u3 : ((P : Int) + (k : Int)) % 18446744073709551616 = (A : Int) := by omega
      obtain ⟨q, hq⟩ : ∃ q, A / 64 = q := ⟨_, rfl⟩
      obtain ⟨r, hr⟩ : ∃ r, A % 64 = r := ⟨_, rfl⟩
      have hr64 : r < 64 := by omega
      have t1 : (A : Int).tdiv 64 = (q : Int) := by rw [Int.tdiv_eq_ediv_of_nonneg (by omega)]; omega
      have t2 : (A : Int).tmod 64 = (r : Int) := by rw [Int.tmod_eq_emod_of_nonneg (by omega)]; omega
      have t3 : (A : Int) / 64 = (q : Int) := by omega
      have t4 : (A : Int) % 64 = (r : Int) := by omega
      have hq32 : (q : Int) < 4294967296 := by omega
      have u4 : IntKind.u32.wrap (q : Int) = (q : Int) := by simp only [IntKind.wrap, IntKind.bits, IntKind.signed]; simp; omega
      have u5 : IntKind.u64.wrap (q : Int) = (q : Int) := by simp only [IntKind.wrap, IntKind.bits, IntKind.signed]; simp; omega
      have hks : ks key nonce A = (blkB key (q : Int) nonce).getD r 0 := by rw [ks, hq, hr]
      rw [hA, hks] at hVk
      have i1 : (k : Int) < (n : Int) := by omega
      have i2 : (0 : Int) ≤ (k : Int) := by omega
      have i3 : (0 : Int) ≤ (r : Int) := by omega
      have i4 : (r : Int) < 64 := by omega
      have HN : Hid (V.getD k 0 = bits .xor .u8 Z ((blkB key (q : Int) nonce).getD r 0) ∧ k < V.length) := ⟨hVk, by rw [HV.out.1]; exact hlt⟩
      have HO : Hid (wr.ownsRow (G + 1) 5 1 u6 k ((V.map (Value.int .u8)).take k) ∧ Kept (fun x => x = G) w1 wr ∧ RtAt wr g key nonce P) := ⟨hown, hkp, hR⟩
      obtain ⟨Y, HYY⟩ : ∃ Y, Hid (blkB key (q : Int) nonce = Y ∧ Y.length = 64 ∧ Bytes Y) := ⟨_, ⟨rfl, blkB_length _ _ _, blkB_bytes _ _ _⟩⟩
      have HAA : Hid (P + k = A ∧ A / 64 = q ∧ A % 64 = r) := ⟨hA, hq, hr⟩
      clear hA hq hr hZ hks hVk hcl
      by_cases hk0 : k = 0
      · have f0 : ((k : Int) == 0) = true := by rw [hk0]; rfl
        have HK0 : Hid (k = 0) := hk0
        clear hk0
        have HRr : Hid (RtAt wr g key nonce P) := hR
        have HXB : Hid (Blk wr G 103 (u8s X) ∧ X.length = 64) := ⟨hXB, hXl⟩
        clear hXB hXl hXb hXk hR hown hkp
        go_wp2_with fail
        try simp only [Act.put, List.setIfInBounds_toArray, List.set_cons_zero, List.set_cons_succ]
        refine region_inv [.val (.pointer (some ⟨g, 0, none⟩)), .val (.pointer (some ⟨g, 0, none⟩)), .val (.pointer (some ⟨g, 0, none⟩)), .val (.agg (u8s key).toArray), .val (.int .u64 (A : Int)), .val (.int .u64 (q : Int)), .val (.int .u32 (q : Int)), .val (.pointer (some ⟨g, 0, none⟩)), .val (.pointer (some ⟨g, 0, none⟩)), .val (.pointer (some ⟨g, 32, none⟩)), .val (.agg (u8s nonce).toArray), .val (.agg (u8s Y).toArray)] (by kernel_rfl) (by kernel_rfl) (by kernel_rfl) ?_ ?_
        · refine Steps'.cons ?_ (Steps'.cons ?_ (Steps'.cons ?_ (Steps'.cons ?_ (Steps'.cons ?_ (Steps'.cons ?_ (Steps'.cons ?_ (Steps'.cons ?_ (Steps'.cons ?_ (Steps'.cons ?_ (Steps'.cons ?_ (Steps'.cons ?_ (Steps'.one _ _ _ _ _ _ _))))))))))))
          · intro ax wx hb hs hd
            have h0 : ax.tmps.getD 0 undef = (.pointer (some ⟨g, 0, none⟩)) := hs 0 (by kernel_rfl)
            refine Does.value (.pointer (some ⟨g, 0, none⟩)) ?_ rfl
            go_simp
          · intro ax wx hb hs hd
            have h39 : ax.tmps.getD 39 undef = (.pointer (some ⟨g, 0, none⟩)) := hd 0 39 rfl (by kernel_rfl) (by decide)
            refine Does.value (.pointer (some ⟨g, 0, none⟩)) ?_ rfl
            go_simp
          · intro ax wx hb hs hd
            have h40 : ax.tmps.getD 40 undef = (.pointer (some ⟨g, 0, none⟩)) := hd 1 40 rfl (by kernel_rfl) (by decide)
            refine Does.value (.pointer (some ⟨g, 0, none⟩)) ?_ rfl
            go_simp
          · intro ax wx hb hs hd
            have h41 : ax.tmps.getD 41 undef = (.pointer (some ⟨g, 0, none⟩)) := hd 2 41 rfl (by kernel_rfl) (by decide)
            exact Does.load 27 (.tmp 41) rfl g 0 h41 (u8s key) _ ((HRr.out.later hb HRr.out.lt).key) Try.underlying27 rfl uK
          · intro ax wx hb hs hd
            have h9 : ax.tmps.getD 9 undef = (.int .u64 (A : Int)) := hs 9 (by kernel_rfl)
            refine Does.value (.int .u64 (A : Int)) ?_ rfl
            go_simp
          · intro ax wx hb hs hd
            have h43 : ax.tmps.getD 43 undef = (.int .u64 (A : Int)) := hd 4 43 rfl (by kernel_rfl) (by decide)
            refine Does.value (.int .u64 (q : Int)) ?_ rfl
            go_simp
          · intro ax wx hb hs hd
            have h44 : ax.tmps.getD 44 undef = (.int .u64 (q : Int)) := hd 5 44 rfl (by kernel_rfl) (by decide)
            refine Does.value (.int .u32 (q : Int)) ?_ rfl
            go_simp
          · intro ax wx hb hs hd
            have h0 : ax.tmps.getD 0 undef = (.pointer (some ⟨g, 0, none⟩)) := hs 0 (by kernel_rfl)
            refine Does.value (.pointer (some ⟨g, 0, none⟩)) ?_ rfl
            go_simp
          · intro ax wx hb hs hd
            have h46 : ax.tmps.getD 46 undef = (.pointer (some ⟨g, 0, none⟩)) := hd 7 46 rfl (by kernel_rfl) (by decide)
            refine Does.value (.pointer (some ⟨g, 0, none⟩)) ?_ rfl
            go_simp
          · intro ax wx hb hs hd
            have h47 : ax.tmps.getD 47 undef = (.pointer (some ⟨g, 0, none⟩)) := hd 8 47 rfl (by kernel_rfl) (by decide)
            refine Does.value (.pointer (some ⟨g, 32, none⟩)) ?_ rfl
            go_simp
          · intro ax wx hb hs hd
            have h48 : ax.tmps.getD 48 undef = (.pointer (some ⟨g, 32, none⟩)) := hd 9 48 rfl (by kernel_rfl) (by decide)
            exact Does.load 42 (.tmp 48) rfl g 32 h48 (u8s nonce) _ ((HRr.out.later hb HRr.out.lt).nonce) Try.underlying42 rfl uN
          · intro ax wx hb hs hd
            have h42 : ax.tmps.getD 42 undef = (.agg (u8s key).toArray) := hd 3 42 rfl (by kernel_rfl) (by decide)
            have h45 : ax.tmps.getD 45 undef = (.int .u32 (q : Int)) := hd 6 45 rfl (by kernel_rfl) (by decide)
            have h49 : ax.tmps.getD 49 undef = (.agg (u8s nonce).toArray) := hd 10 49 rfl (by kernel_rfl) (by decide)
            refine Does.call 62 #[(.agg (u8s key).toArray), (.int .u32 (q : Int)), (.agg (u8s nonce).toArray)] (by go_simp) ?_
            have qq := rblock_any key (q : Int) nonce HX.out.1.k32 HX.out.1.n12 HX.out.1.kb HX.out.1.nb ⟨by omega, hq32⟩ wx
            rw [HYY.out.1] at qq
            refine qq.mono ?_
            rintro e w' ⟨rfl, l⟩
            exact ⟨_, rfl, rfl, l⟩
        · intro wx hb
          refine @Ends.val _ _ _ _ _ _ _ _ _ (.pointer (some ⟨g, 0, none⟩)) rfl ?_
          refine @Ends.val _ _ _ _ _ _ _ _ _ (.pointer (some ⟨g, 0, none⟩)) rfl ?_
          refine @Ends.val _ _ _ _ _ _ _ _ _ (.pointer (some ⟨g, 0, none⟩)) rfl ?_
          refine @Ends.val _ _ _ _ _ _ _ _ _ (.agg (u8s key).toArray) rfl ?_
          refine @Ends.val _ _ _ _ _ _ _ _ _ (.int .u64 (A : Int)) rfl ?_
          refine @Ends.val _ _ _ _ _ _ _ _ _ (.int .u64 (q : Int)) rfl ?_
          refine @Ends.val _ _ _ _ _ _ _ _ _ (.int .u32 (q : Int)) rfl ?_
          refine @Ends.val _ _ _ _ _ _ _ _ _ (.pointer (some ⟨g, 0, none⟩)) rfl ?_
          refine @Ends.val _ _ _ _ _ _ _ _ _ (.pointer (some ⟨g, 0, none⟩)) rfl ?_
          refine @Ends.val _ _ _ _ _ _ _ _ _ (.pointer (some ⟨g, 32, none⟩)) rfl ?_
          refine @Ends.val _ _ _ _ _ _ _ _ _ (.agg (u8s nonce).toArray) rfl ?_
          refine @Ends.val _ _ _ _ _ _ _ _ _ (.agg (u8s Y).toArray) rfl ?_
          refine @Ends.one _ _ _ _ _ _ _ ?_
          simp only [Act.put, List.setIfInBounds_toArray, List.set_cons_zero, List.set_cons_succ]
          refine last_store 103 (.tmp 7) (.tmp 50) rfl rfl G rfl 103 _ (u8s Y) rfl (HXB.out.1.later hb HXB.out.1.lt) (by rw [u8s_length, u8s_length, HXB.out.2, HYY.out.2.1]) (by rw [u8s_length, HYY.out.2.1]; exact uB) (u8s_one _) ?_
          intro w5 hBY s5 k5
          have L5 : Below wr.heap.size wr wx := hb
          have HO2 : Hid (w5.ownsRow (G + 1) 5 1 u6 k ((V.map (Value.int .u8)).take k) ∧ Kept (fun x => x = G) w1 w5) := by
            refine ⟨?_, ?_⟩
            · have o1 := ownsRow_below HO.out.1 L5
              exact own_keptG o1 k5 (fun j hj => by have := (o1.lt j hj).1; omega)
            · exact (kept_below HO.out.2.1 L5 hsz).trans k5
          replace c1 : w5.cell? ⟨b, o + k, none⟩ = some (.int .u8 Z) := (k5.cell (p := ⟨b, o + k, none⟩) (Nat.lt_of_lt_of_le (World.block_lt_of_cell? _ _ c1) L5.size) (by show ¬ b = G; have := H1.out.2.2.2.2.2.2; omega)).trans ((L5.cell (p := ⟨b, o + k, none⟩) (World.block_lt_of_cell? _ _ c1)).trans c1)
          have hGW : G + 1 ≤ w5.heap.size := by rw [← hs1]; exact Nat.le_trans hsz (Nat.le_trans L5.size k5.size)
          clear hb s5 k5 L5
          go_wp2_with fail
          have HB : Hid (Blk w5 G 103 (u8s Y)) := hBY
          have cB := u8s_cell hBY r (by rw [HYY.out.2.1]; exact hr64)
          obtain ⟨B, hB⟩ : ∃ B, Y.getD r 0 = B := ⟨_, rfl⟩
          have bB : 0 ≤ B ∧ B < 256 := by rw [← hB]; exact HYY.out.2.2.at r (by rw [HYY.out.2.1]; exact hr64)
          rw [hB] at cB
          have hx32 := xor32_8 Z B bZ bB
          obtain ⟨D, hD⟩ : ∃ D, bits .xor .u8 Z B = D := ⟨_, rfl⟩
          rw [hD] at hx32
          have HD : Hid (V.getD k 0 = D ∧ k < V.length) := ⟨by rw [HN.out.1, HYY.out.1, hB, hD], HN.out.2⟩
          have y1 : IntKind.u64.wrap Z = Z := by simp only [IntKind.wrap, IntKind.bits, IntKind.signed]; simp; omega
          have y2 : IntKind.u64.wrap B = B := by simp only [IntKind.wrap, IntKind.bits, IntKind.signed]; simp; omega
          have y3 : IntKind.u8.wrap D = D := by simp only [IntKind.wrap, IntKind.bits, IntKind.signed]; simp; omega
          have HX3 : Hid (bits .xor .u32 Z B = D) := hx32.1
          have hDb := hx32.2
          clear hB hD hx32 hBY
          refine wp_region_noPanic (wp_region_held_drew (S := fun W => W.cell? ⟨b, o + k, none⟩ = some (.int .u8 Z) ∧ W.cell? ⟨G, r, none⟩ = some (.int .u8 B)) (by kernel_rfl) ⟨c1, cB⟩ (fun hH => ?_))
          refine hTake 0 (some 51) u6 rfl rfl (by kernel_rfl) (by kernel_rfl) (by kernel_rfl) (fun _ _ _ h => h) (by rfl) (fun _ _ => by rfl) hH ?_
          simp only [Act.put, List.setIfInBounds_toArray, List.set_cons_zero, List.set_cons_succ]
          refine hTake 1 (some 52) (.slice (some ⟨b, o, none⟩) n c) rfl rfl (by kernel_rfl) (by kernel_rfl) (by kernel_rfl) (fun _ _ _ h => h) (by rfl) (fun _ _ => by rfl) hH ?_
          simp only [Act.put, List.setIfInBounds_toArray, List.set_cons_zero, List.set_cons_succ]
          refine hTake 2 (some 53) (.int .i64 (k : Int)) rfl rfl (by kernel_rfl) (by kernel_rfl) (by kernel_rfl) (fun _ _ _ h => h) (by rfl) (fun _ _ => by rfl) hH ?_
          simp only [Act.put, List.setIfInBounds_toArray, List.set_cons_zero, List.set_cons_succ]
          refine hTake 3 (some 54) (.pointer (some ⟨b, o + k, none⟩)) rfl rfl (by kernel_rfl) (by kernel_rfl) (by kernel_rfl) (fun _ _ _ h => h) (by rfl) (fun _ _ => by go_simp) hH ?_
          simp only [Act.put, List.setIfInBounds_toArray, List.set_cons_zero, List.set_cons_succ]
          refine hTake 4 (some 55) (.int .u8 Z) rfl rfl (by kernel_rfl) (by kernel_rfl) (by kernel_rfl) (fun _ _ _ h => h) (by rfl) (fun _ hs => by (obtain ⟨z1, z2⟩ := hs; go_simp)) hH ?_
          simp only [Act.put, List.setIfInBounds_toArray, List.set_cons_zero, List.set_cons_succ]
          refine hTake 5 (some 56) (.int .u64 Z) rfl rfl (by kernel_rfl) (by kernel_rfl) (by kernel_rfl) (fun _ _ _ h => h) (by rfl) (fun _ _ => by go_simp) hH ?_
          simp only [Act.put, List.setIfInBounds_toArray, List.set_cons_zero, List.set_cons_succ]
          refine hTake 6 (some 57) (.int .u64 (A : Int)) rfl rfl (by kernel_rfl) (by kernel_rfl) (by kernel_rfl) (fun _ _ _ h => h) (by rfl) (fun _ _ => by rfl) hH ?_
          simp only [Act.put, List.setIfInBounds_toArray, List.set_cons_zero, List.set_cons_succ]
          refine hTake 7 (some 58) (.int .u64 (r : Int)) rfl rfl (by kernel_rfl) (by kernel_rfl) (by kernel_rfl) (fun _ _ _ h => h) (by rfl) (fun _ _ => by go_simp) hH ?_
          simp only [Act.put, List.setIfInBounds_toArray, List.set_cons_zero, List.set_cons_succ]
          refine hTake 8 (some 59) (.pointer (some ⟨G, r, none⟩)) rfl rfl (by kernel_rfl) (by kernel_rfl) (by kernel_rfl) (fun _ _ _ h => h) (by rfl) (fun _ _ => by go_simp) hH ?_
          simp only [Act.put, List.setIfInBounds_toArray, List.set_cons_zero, List.set_cons_succ]
          refine hTake 9 (some 60) (.int .u8 B) rfl rfl (by kernel_rfl) (by kernel_rfl) (by kernel_rfl) (fun _ _ _ h => h) (by rfl) (fun _ hs => by (obtain ⟨z1, z2⟩ := hs; go_simp)) hH ?_
          simp only [Act.put, List.setIfInBounds_toArray, List.set_cons_zero, List.set_cons_succ]
          refine hTake 10 (some 61) (.int .u64 B) rfl rfl (by kernel_rfl) (by kernel_rfl) (by kernel_rfl) (fun _ _ _ h => h) (by rfl) (fun _ _ => by go_simp) hH ?_
          simp only [Act.put, List.setIfInBounds_toArray, List.set_cons_zero, List.set_cons_succ]
          refine wpAnyH_ready (rs := [11]) (by kernel_rfl) (by simp) (AllReadyH.cons rfl (fun K hK => ?_) AllReadyH.nil)
          rw [if_pos (by rfl)]
          go_simp
          go_wp2_with (go_at_call 92; refine (ragainst_any Z B ⟨by omega, by omega⟩ ⟨by omega, by omega⟩ _).mono ?_; rintro e wA ⟨rfl, rfl⟩; rw [HX3.out])
          refine hK.out _ _ ⟨c1, cB⟩ (fun hH => ?_)
          clear hK K
          refine hTake 12 (some 63) (.int .u8 D) rfl rfl (by kernel_rfl) (by kernel_rfl) (by kernel_rfl) (fun _ _ _ h => h) (by rfl) (fun _ _ => by go_simp) hH ?_
          simp only [Act.put, List.setIfInBounds_toArray, List.set_cons_zero, List.set_cons_succ]
          refine wpAnyH_ready (rs := [13]) (by kernel_rfl) (by simp) (AllReadyH.cons rfl (fun K hK => ?_) AllReadyH.nil)
          rw [if_pos (by rfl)]
          go_simp
          have LA : Below w5.heap.size w5 (w5.drew.alloc (.cells #[.int .u8 D] 5)) := (below_dn (Below.refl _ _) 1).alloc (Nat.le_refl _) _
          have cb2 : b < w5.heap.size := World.block_lt_of_cell? _ _ c1
          have cG2 : G < w5.heap.size := HB.out.lt
          refine hK.out _ _ ⟨(LA.cell (p := ⟨b, o + k, none⟩) cb2).trans c1, (LA.cell (p := ⟨G, r, none⟩) cG2).trans cB⟩ (fun hH => ?_)
          clear hK K
          have sD : Seen (w5.drew.alloc (.cells #[.int .u8 D] 5)) (some ⟨w5.heap.size, 0, none⟩) 1 [D] := by
            have hb0 : Blk (w5.drew.alloc (.cells #[.int .u8 D] 5)) w5.heap.size 5 (u8s [D]) := heap_alloc_new w5.drew _
            exact seen_blk hb0 (fun z hz => by simp at hz; subst hz; exact hDb) (by simp)
          have oA : (w5.drew.alloc (.cells #[.int .u8 D] 5)).ownsRow (G + 1) 5 1 u6 k ((V.map (Value.int .u8)).take k) := ownsRow_below HO2.out.1 LA
          refine wpAnyH_ready (rs := [14]) (by kernel_rfl) (by simp) (AllReadyH.cons rfl (fun K hK => ?_) AllReadyH.nil)
          refine rstep_append (by rfl) (.tmp 51) (.tmp 64) (by rfl) (G + 1) u6 k _ (by rfl) oA (some ⟨w5.heap.size, 0, none⟩) 1 1 [D] (by rfl) sD (fun h => by cases h) (by omega) (Nat.le_trans hGW LA.size) ?_
          intro v2 w2 o2 g2
          have BG : Below (G + 1) w5 w2 := ((below_dn (Below.refl (G + 1) w5) 1).alloc hGW _).grown g2 (Nat.le_trans hGW LA.size) (fun j hj => (oA.lt j hj).1)
          have hbG : b < G + 1 := by have := H1.out.2.2.2.2.2.2; omega
          refine hK.out _ _ ⟨(BG.cell (p := ⟨b, o + k, none⟩) hbG).trans c1, (BG.cell (p := ⟨G, r, none⟩) (Nat.lt_succ_self _)).trans cB⟩ (fun hH => ?_)
          clear hK K
          refine hTake 15 (some 6) v2 rfl rfl (by kernel_rfl) (by kernel_rfl) (by kernel_rfl) (fun _ _ _ h => h) (by rfl) (fun _ _ => by rfl) hH ?_
          simp only [Act.put, List.setIfInBounds_toArray, List.set_cons_zero, List.set_cons_succ]
          refine wpAnyH_done (by kernel_rfl) (NoPanic.normal ?_) _
          have HF : Hid (w2.ownsRow (G + 1) 5 1 v2 (k + 1) ((V.map (Value.int .u8)).take (k + 1)) ∧ Blk w2 G 103 (u8s Y) ∧ Kept (fun x => x = G) w1 w2) := by
            refine ⟨?_, HB.out.later BG (Nat.lt_succ_self _), kept_below HO2.out.2 BG (by omega)⟩
            rw [List.take_succ_eq_append_getElem (by simpa using HD.out.2), List.getElem_map, getD_get HD.out.1 HD.out.2]
            exact o2
          clear o2 g2 BG hH sD oA LA c1 cB
          go_wp2_with fail
          exact ⟨⟨k + 1, by omega, by go_num, HF.out.1, ⟨Y, HYY.out.2.1, HYY.out.2.2, HF.out.2.1, fun _ => by rw [← HYY.out.1]; congr 2; have := HAA.out; omega⟩, HF.out.2.2⟩, by simp [intOf]; omega⟩
      · have f0 : ((k : Int) == 0) = false := by rw [beq_eq_false_iff_ne]; omega
        by_cases hr0 : r = 0
        · have f1 : ((r : Int) == 0) = true := by rw [hr0]; rfl
          have HR0 : Hid (r = 0) := hr0
          clear hr0
          have HRr : Hid (RtAt wr g key nonce P) := hR
          have HXB : Hid (Blk wr G 103 (u8s X) ∧ X.length = 64) := ⟨hXB, hXl⟩
          clear hXB hXl hXb hXk hR hown hkp
          go_wp2_with fail
          try simp only [Act.put, List.setIfInBounds_toArray, List.set_cons_zero, List.set_cons_succ]
          refine region_inv [.val (.pointer (some ⟨g, 0, none⟩)), .val (.pointer (some ⟨g, 0, none⟩)), .val (.pointer (some ⟨g, 0, none⟩)), .val (.agg (u8s key).toArray), .val (.int .u64 (A : Int)), .val (.int .u64 (q : Int)), .val (.int .u32 (q : Int)), .val (.pointer (some ⟨g, 0, none⟩)), .val (.pointer (some ⟨g, 0, none⟩)), .val (.pointer (some ⟨g, 32, none⟩)), .val (.agg (u8s nonce).toArray), .val (.agg (u8s Y).toArray)] (by kernel_rfl) (by kernel_rfl) (by kernel_rfl) ?_ ?_
          · refine Steps'.cons ?_ (Steps'.cons ?_ (Steps'.cons ?_ (Steps'.cons ?_ (Steps'.cons ?_ (Steps'.cons ?_ (Steps'.cons ?_ (Steps'.cons ?_ (Steps'.cons ?_ (Steps'.cons ?_ (Steps'.cons ?_ (Steps'.cons ?_ (Steps'.one _ _ _ _ _ _ _))))))))))))
            · intro ax wx hb hs hd
              have h0 : ax.tmps.getD 0 undef = (.pointer (some ⟨g, 0, none⟩)) := hs 0 (by kernel_rfl)
              refine Does.value (.pointer (some ⟨g, 0, none⟩)) ?_ rfl
              go_simp
            · intro ax wx hb hs hd
              have h39 : ax.tmps.getD 39 undef = (.pointer (some ⟨g, 0, none⟩)) := hd 0 39 rfl (by kernel_rfl) (by decide)
              refine Does.value (.pointer (some ⟨g, 0, none⟩)) ?_ rfl
              go_simp
            · intro ax wx hb hs hd
              have h40 : ax.tmps.getD 40 undef = (.pointer (some ⟨g, 0, none⟩)) := hd 1 40 rfl (by kernel_rfl) (by decide)
              refine Does.value (.pointer (some ⟨g, 0, none⟩)) ?_ rfl
              go_simp
            · intro ax wx hb hs hd
              have h41 : ax.tmps.getD 41 undef = (.pointer (some ⟨g, 0, none⟩)) := hd 2 41 rfl (by kernel_rfl) (by decide)
              exact Does.load 27 (.tmp 41) rfl g 0 h41 (u8s key) _ ((HRr.out.later hb HRr.out.lt).key) Try.underlying27 rfl uK
            · intro ax wx hb hs hd
              have h9 : ax.tmps.getD 9 undef = (.int .u64 (A : Int)) := hs 9 (by kernel_rfl)
              refine Does.value (.int .u64 (A : Int)) ?_ rfl
              go_simp
            · intro ax wx hb hs hd
              have h43 : ax.tmps.getD 43 undef = (.int .u64 (A : Int)) := hd 4 43 rfl (by kernel_rfl) (by decide)
              refine Does.value (.int .u64 (q : Int)) ?_ rfl
              go_simp
            · intro ax wx hb hs hd
              have h44 : ax.tmps.getD 44 undef = (.int .u64 (q : Int)) := hd 5 44 rfl (by kernel_rfl) (by decide)
              refine Does.value (.int .u32 (q : Int)) ?_ rfl
              go_simp
            · intro ax wx hb hs hd
              have h0 : ax.tmps.getD 0 undef = (.pointer (some ⟨g, 0, none⟩)) := hs 0 (by kernel_rfl)
              refine Does.value (.pointer (some ⟨g, 0, none⟩)) ?_ rfl
              go_simp
            · intro ax wx hb hs hd
              have h46 : ax.tmps.getD 46 undef = (.pointer (some ⟨g, 0, none⟩)) := hd 7 46 rfl (by kernel_rfl) (by decide)
              refine Does.value (.pointer (some ⟨g, 0, none⟩)) ?_ rfl
              go_simp
            · intro ax wx hb hs hd
              have h47 : ax.tmps.getD 47 undef = (.pointer (some ⟨g, 0, none⟩)) := hd 8 47 rfl (by kernel_rfl) (by decide)
              refine Does.value (.pointer (some ⟨g, 32, none⟩)) ?_ rfl
              go_simp
            · intro ax wx hb hs hd
              have h48 : ax.tmps.getD 48 undef = (.pointer (some ⟨g, 32, none⟩)) := hd 9 48 rfl (by kernel_rfl) (by decide)
              exact Does.load 42 (.tmp 48) rfl g 32 h48 (u8s nonce) _ ((HRr.out.later hb HRr.out.lt).nonce) Try.underlying42 rfl uN
            · intro ax wx hb hs hd
              have h42 : ax.tmps.getD 42 undef = (.agg (u8s key).toArray) := hd 3 42 rfl (by kernel_rfl) (by decide)
              have h45 : ax.tmps.getD 45 undef = (.int .u32 (q : Int)) := hd 6 45 rfl (by kernel_rfl) (by decide)
              have h49 : ax.tmps.getD 49 undef = (.agg (u8s nonce).toArray) := hd 10 49 rfl (by kernel_rfl) (by decide)
              refine Does.call 62 #[(.agg (u8s key).toArray), (.int .u32 (q : Int)), (.agg (u8s nonce).toArray)] (by go_simp) ?_
              have qq := rblock_any key (q : Int) nonce HX.out.1.k32 HX.out.1.n12 HX.out.1.kb HX.out.1.nb ⟨by omega, hq32⟩ wx
              rw [HYY.out.1] at qq
              refine qq.mono ?_
              rintro e w' ⟨rfl, l⟩
              exact ⟨_, rfl, rfl, l⟩
          · intro wx hb
            refine @Ends.val _ _ _ _ _ _ _ _ _ (.pointer (some ⟨g, 0, none⟩)) rfl ?_
            refine @Ends.val _ _ _ _ _ _ _ _ _ (.pointer (some ⟨g, 0, none⟩)) rfl ?_
            refine @Ends.val _ _ _ _ _ _ _ _ _ (.pointer (some ⟨g, 0, none⟩)) rfl ?_
            refine @Ends.val _ _ _ _ _ _ _ _ _ (.agg (u8s key).toArray) rfl ?_
            refine @Ends.val _ _ _ _ _ _ _ _ _ (.int .u64 (A : Int)) rfl ?_
            refine @Ends.val _ _ _ _ _ _ _ _ _ (.int .u64 (q : Int)) rfl ?_
            refine @Ends.val _ _ _ _ _ _ _ _ _ (.int .u32 (q : Int)) rfl ?_
            refine @Ends.val _ _ _ _ _ _ _ _ _ (.pointer (some ⟨g, 0, none⟩)) rfl ?_
            refine @Ends.val _ _ _ _ _ _ _ _ _ (.pointer (some ⟨g, 0, none⟩)) rfl ?_
            refine @Ends.val _ _ _ _ _ _ _ _ _ (.pointer (some ⟨g, 32, none⟩)) rfl ?_
            refine @Ends.val _ _ _ _ _ _ _ _ _ (.agg (u8s nonce).toArray) rfl ?_
            refine @Ends.val _ _ _ _ _ _ _ _ _ (.agg (u8s Y).toArray) rfl ?_
            refine @Ends.one _ _ _ _ _ _ _ ?_
            simp only [Act.put, List.setIfInBounds_toArray, List.set_cons_zero, List.set_cons_succ]
            refine last_store 103 (.tmp 7) (.tmp 50) rfl rfl G rfl 103 _ (u8s Y) rfl (HXB.out.1.later hb HXB.out.1.lt) (by rw [u8s_length, u8s_length, HXB.out.2, HYY.out.2.1]) (by rw [u8s_length, HYY.out.2.1]; exact uB) (u8s_one _) ?_
            intro w5 hBY s5 k5
            have L5 : Below wr.heap.size wr wx := hb
            have HO2 : Hid (w5.ownsRow (G + 1) 5 1 u6 k ((V.map (Value.int .u8)).take k) ∧ Kept (fun x => x = G) w1 w5) := by
              refine ⟨?_, ?_⟩
              · have o1 := ownsRow_below HO.out.1 L5
                exact own_keptG o1 k5 (fun j hj => by have := (o1.lt j hj).1; omega)
              · exact (kept_below HO.out.2.1 L5 hsz).trans k5
            replace c1 : w5.cell? ⟨b, o + k, none⟩ = some (.int .u8 Z) := (k5.cell (p := ⟨b, o + k, none⟩) (Nat.lt_of_lt_of_le (World.block_lt_of_cell? _ _ c1) L5.size) (by show ¬ b = G; have := H1.out.2.2.2.2.2.2; omega)).trans ((L5.cell (p := ⟨b, o + k, none⟩) (World.block_lt_of_cell? _ _ c1)).trans c1)
            have hGW : G + 1 ≤ w5.heap.size := by rw [← hs1]; exact Nat.le_trans hsz (Nat.le_trans L5.size k5.size)
            clear hb s5 k5 L5
            go_wp2_with fail
            have HB : Hid (Blk w5 G 103 (u8s Y)) := hBY
            have cB := u8s_cell hBY r (by rw [HYY.out.2.1]; exact hr64)
            obtain ⟨B, hB⟩ : ∃ B, Y.getD r 0 = B := ⟨_, rfl⟩
            have bB : 0 ≤ B ∧ B < 256 := by rw [← hB]; exact HYY.out.2.2.at r (by rw [HYY.out.2.1]; exact hr64)
            rw [hB] at cB
            have hx32 := xor32_8 Z B bZ bB
            obtain ⟨D, hD⟩ : ∃ D, bits .xor .u8 Z B = D := ⟨_, rfl⟩
            rw [hD] at hx32
            have HD : Hid (V.getD k 0 = D ∧ k < V.length) := ⟨by rw [HN.out.1, HYY.out.1, hB, hD], HN.out.2⟩
            have y1 : IntKind.u64.wrap Z = Z := by simp only [IntKind.wrap, IntKind.bits, IntKind.signed]; simp; omega
            have y2 : IntKind.u64.wrap B = B := by simp only [IntKind.wrap, IntKind.bits, IntKind.signed]; simp; omega
            have y3 : IntKind.u8.wrap D = D := by simp only [IntKind.wrap, IntKind.bits, IntKind.signed]; simp; omega
            have HX3 : Hid (bits .xor .u32 Z B = D) := hx32.1
            have hDb := hx32.2
            clear hB hD hx32 hBY
            refine wp_region_noPanic (wp_region_held_drew (S := fun W => W.cell? ⟨b, o + k, none⟩ = some (.int .u8 Z) ∧ W.cell? ⟨G, r, none⟩ = some (.int .u8 B)) (by kernel_rfl) ⟨c1, cB⟩ (fun hH => ?_))
            refine hTake 0 (some 51) u6 rfl rfl (by kernel_rfl) (by kernel_rfl) (by kernel_rfl) (fun _ _ _ h => h) (by rfl) (fun _ _ => by rfl) hH ?_
            simp only [Act.put, List.setIfInBounds_toArray, List.set_cons_zero, List.set_cons_succ]
            refine hTake 1 (some 52) (.slice (some ⟨b, o, none⟩) n c) rfl rfl (by kernel_rfl) (by kernel_rfl) (by kernel_rfl) (fun _ _ _ h => h) (by rfl) (fun _ _ => by rfl) hH ?_
            simp only [Act.put, List.setIfInBounds_toArray, List.set_cons_zero, List.set_cons_succ]
            refine hTake 2 (some 53) (.int .i64 (k : Int)) rfl rfl (by kernel_rfl) (by kernel_rfl) (by kernel_rfl) (fun _ _ _ h => h) (by rfl) (fun _ _ => by rfl) hH ?_
            simp only [Act.put, List.setIfInBounds_toArray, List.set_cons_zero, List.set_cons_succ]
            refine hTake 3 (some 54) (.pointer (some ⟨b, o + k, none⟩)) rfl rfl (by kernel_rfl) (by kernel_rfl) (by kernel_rfl) (fun _ _ _ h => h) (by rfl) (fun _ _ => by go_simp) hH ?_
            simp only [Act.put, List.setIfInBounds_toArray, List.set_cons_zero, List.set_cons_succ]
            refine hTake 4 (some 55) (.int .u8 Z) rfl rfl (by kernel_rfl) (by kernel_rfl) (by kernel_rfl) (fun _ _ _ h => h) (by rfl) (fun _ hs => by (obtain ⟨z1, z2⟩ := hs; go_simp)) hH ?_
            simp only [Act.put, List.setIfInBounds_toArray, List.set_cons_zero, List.set_cons_succ]
            refine hTake 5 (some 56) (.int .u64 Z) rfl rfl (by kernel_rfl) (by kernel_rfl) (by kernel_rfl) (fun _ _ _ h => h) (by rfl) (fun _ _ => by go_simp) hH ?_
            simp only [Act.put, List.setIfInBounds_toArray, List.set_cons_zero, List.set_cons_succ]
            refine hTake 6 (some 57) (.int .u64 (A : Int)) rfl rfl (by kernel_rfl) (by kernel_rfl) (by kernel_rfl) (fun _ _ _ h => h) (by rfl) (fun _ _ => by rfl) hH ?_
            simp only [Act.put, List.setIfInBounds_toArray, List.set_cons_zero, List.set_cons_succ]
            refine hTake 7 (some 58) (.int .u64 (r : Int)) rfl rfl (by kernel_rfl) (by kernel_rfl) (by kernel_rfl) (fun _ _ _ h => h) (by rfl) (fun _ _ => by go_simp) hH ?_
            simp only [Act.put, List.setIfInBounds_toArray, List.set_cons_zero, List.set_cons_succ]
            refine hTake 8 (some 59) (.pointer (some ⟨G, r, none⟩)) rfl rfl (by kernel_rfl) (by kernel_rfl) (by kernel_rfl) (fun _ _ _ h => h) (by rfl) (fun _ _ => by go_simp) hH ?_
            simp only [Act.put, List.setIfInBounds_toArray, List.set_cons_zero, List.set_cons_succ]
            refine hTake 9 (some 60) (.int .u8 B) rfl rfl (by kernel_rfl) (by kernel_rfl) (by kernel_rfl) (fun _ _ _ h => h) (by rfl) (fun _ hs => by (obtain ⟨z1, z2⟩ := hs; go_simp)) hH ?_
            simp only [Act.put, List.setIfInBounds_toArray, List.set_cons_zero, List.set_cons_succ]
            refine hTake 10 (some 61) (.int .u64 B) rfl rfl (by kernel_rfl) (by kernel_rfl) (by kernel_rfl) (fun _ _ _ h => h) (by rfl) (fun _ _ => by go_simp) hH ?_
            simp only [Act.put, List.setIfInBounds_toArray, List.set_cons_zero, List.set_cons_succ]
            refine wpAnyH_ready (rs := [11]) (by kernel_rfl) (by simp) (AllReadyH.cons rfl (fun K hK => ?_) AllReadyH.nil)
            rw [if_pos (by rfl)]
            go_simp
            go_wp2_with (go_at_call 92; refine (ragainst_any Z B ⟨by omega, by omega⟩ ⟨by omega, by omega⟩ _).mono ?_; rintro e wA ⟨rfl, rfl⟩; rw [HX3.out])
            refine hK.out _ _ ⟨c1, cB⟩ (fun hH => ?_)
            clear hK K
            refine hTake 12 (some 63) (.int .u8 D) rfl rfl (by kernel_rfl) (by kernel_rfl) (by kernel_rfl) (fun _ _ _ h => h) (by rfl) (fun _ _ => by go_simp) hH ?_
            simp only [Act.put, List.setIfInBounds_toArray, List.set_cons_zero, List.set_cons_succ]
            refine wpAnyH_ready (rs := [13]) (by kernel_rfl) (by simp) (AllReadyH.cons rfl (fun K hK => ?_) AllReadyH.nil)
            rw [if_pos (by rfl)]
            go_simp
            have LA : Below w5.heap.size w5 (w5.drew.alloc (.cells #[.int .u8 D] 5)) := (below_dn (Below.refl _ _) 1).alloc (Nat.le_refl _) _
            have cb2 : b < w5.heap.size := World.block_lt_of_cell? _ _ c1
            have cG2 : G < w5.heap.size := HB.out.lt
            refine hK.out _ _ ⟨(LA.cell (p := ⟨b, o + k, none⟩) cb2).trans c1, (LA.cell (p := ⟨G, r, none⟩) cG2).trans cB⟩ (fun hH => ?_)
            clear hK K
            have sD : Seen (w5.drew.alloc (.cells #[.int .u8 D] 5)) (some ⟨w5.heap.size, 0, none⟩) 1 [D] := by
              have hb0 : Blk (w5.drew.alloc (.cells #[.int .u8 D] 5)) w5.heap.size 5 (u8s [D]) := heap_alloc_new w5.drew _
              exact seen_blk hb0 (fun z hz => by simp at hz; subst hz; exact hDb) (by simp)
            have oA : (w5.drew.alloc (.cells #[.int .u8 D] 5)).ownsRow (G + 1) 5 1 u6 k ((V.map (Value.int .u8)).take k) := ownsRow_below HO2.out.1 LA
            refine wpAnyH_ready (rs := [14]) (by kernel_rfl) (by simp) (AllReadyH.cons rfl (fun K hK => ?_) AllReadyH.nil)
            refine rstep_append (by rfl) (.tmp 51) (.tmp 64) (by rfl) (G + 1) u6 k _ (by rfl) oA (some ⟨w5.heap.size, 0, none⟩) 1 1 [D] (by rfl) sD (fun h => by cases h) (by omega) (Nat.le_trans hGW LA.size) ?_
            intro v2 w2 o2 g2
            have BG : Below (G + 1) w5 w2 := ((below_dn (Below.refl (G + 1) w5) 1).alloc hGW _).grown g2 (Nat.le_trans hGW LA.size) (fun j hj => (oA.lt j hj).1)
            have hbG : b < G + 1 := by have := H1.out.2.2.2.2.2.2; omega
            refine hK.out _ _ ⟨(BG.cell (p := ⟨b, o + k, none⟩) hbG).trans c1, (BG.cell (p := ⟨G, r, none⟩) (Nat.lt_succ_self _)).trans cB⟩ (fun hH => ?_)
            clear hK K
            refine hTake 15 (some 6) v2 rfl rfl (by kernel_rfl) (by kernel_rfl) (by kernel_rfl) (fun _ _ _ h => h) (by rfl) (fun _ _ => by rfl) hH ?_
            simp only [Act.put, List.setIfInBounds_toArray, List.set_cons_zero, List.set_cons_succ]
            refine wpAnyH_done (by kernel_rfl) (NoPanic.normal ?_) _
            have HF : Hid (w2.ownsRow (G + 1) 5 1 v2 (k + 1) ((V.map (Value.int .u8)).take (k + 1)) ∧ Blk w2 G 103 (u8s Y) ∧ Kept (fun x => x = G) w1 w2) := by
              refine ⟨?_, HB.out.later BG (Nat.lt_succ_self _), kept_below HO2.out.2 BG (by omega)⟩
              rw [List.take_succ_eq_append_getElem (by simpa using HD.out.2), List.getElem_map, getD_get HD.out.1 HD.out.2]
              exact o2
            clear o2 g2 BG hH sD oA LA c1 cB
            go_wp2_with fail
            exact ⟨⟨k + 1, by omega, by go_num, HF.out.1, ⟨Y, HYY.out.2.1, HYY.out.2.2, HF.out.2.1, fun _ => by rw [← HYY.out.1]; congr 2; have := HAA.out; omega⟩, HF.out.2.2⟩, by simp [intOf]; omega⟩
        · have f1 : ((r : Int) == 0) = false := by rw [beq_eq_false_iff_ne]; omega
          have hXq : X = blkB key (q : Int) nonce := by
            rw [hXk (by omega)]
            congr 2
            have := HAA.out
            omega
          have hBY : Blk wr G 103 (u8s Y) := by rw [← HYY.out.1, ← hXq]; exact hXB
          have HO2 : Hid (wr.ownsRow (G + 1) 5 1 u6 k ((V.map (Value.int .u8)).take k) ∧ Kept (fun x => x = G) w1 wr) := ⟨hown, hkp⟩
          have hGW : G + 1 ≤ wr.heap.size := by rw [← hs1]; exact hsz
          clear hXB hXl hXb hXk hR hown hkp hXq
          go_wp2_with fail
          have HB : Hid (Blk wr G 103 (u8s Y)) := hBY
          have cB := u8s_cell hBY r (by rw [HYY.out.2.1]; exact hr64)
          obtain ⟨B, hB⟩ : ∃ B, Y.getD r 0 = B := ⟨_, rfl⟩
          have bB : 0 ≤ B ∧ B < 256 := by rw [← hB]; exact HYY.out.2.2.at r (by rw [HYY.out.2.1]; exact hr64)
          rw [hB] at cB
          have hx32 := xor32_8 Z B bZ bB
          obtain ⟨D, hD⟩ : ∃ D, bits .xor .u8 Z B = D := ⟨_, rfl⟩
          rw [hD] at hx32
          have HD : Hid (V.getD k 0 = D ∧ k < V.length) := ⟨by rw [HN.out.1, HYY.out.1, hB, hD], HN.out.2⟩
          have y1 : IntKind.u64.wrap Z = Z := by simp only [IntKind.wrap, IntKind.bits, IntKind.signed]; simp; omega
          have y2 : IntKind.u64.wrap B = B := by simp only [IntKind.wrap, IntKind.bits, IntKind.signed]; simp; omega
          have y3 : IntKind.u8.wrap D = D := by simp only [IntKind.wrap, IntKind.bits, IntKind.signed]; simp; omega
          have HX3 : Hid (bits .xor .u32 Z B = D) := hx32.1
          have hDb := hx32.2
          clear hB hD hx32 hBY
          refine wp_region_noPanic (wp_region_held_drew (S := fun W => W.cell? ⟨b, o + k, none⟩ = some (.int .u8 Z) ∧ W.cell? ⟨G, r, none⟩ = some (.int .u8 B)) (by kernel_rfl) ⟨c1, cB⟩ (fun hH => ?_))
          refine hTake 0 (some 51) u6 rfl rfl (by kernel_rfl) (by kernel_rfl) (by kernel_rfl) (fun _ _ _ h => h) (by rfl) (fun _ _ => by rfl) hH ?_
          simp only [Act.put, List.setIfInBounds_toArray, List.set_cons_zero, List.set_cons_succ]
          refine hTake 1 (some 52) (.slice (some ⟨b, o, none⟩) n c) rfl rfl (by kernel_rfl) (by kernel_rfl) (by kernel_rfl) (fun _ _ _ h => h) (by rfl) (fun _ _ => by rfl) hH ?_
          simp only [Act.put, List.setIfInBounds_toArray, List.set_cons_zero, List.set_cons_succ]
          refine hTake 2 (some 53) (.int .i64 (k : Int)) rfl rfl (by kernel_rfl) (by kernel_rfl) (by kernel_rfl) (fun _ _ _ h => h) (by rfl) (fun _ _ => by rfl) hH ?_
          simp only [Act.put, List.setIfInBounds_toArray, List.set_cons_zero, List.set_cons_succ]
          refine hTake 3 (some 54) (.pointer (some ⟨b, o + k, none⟩)) rfl rfl (by kernel_rfl) (by kernel_rfl) (by kernel_rfl) (fun _ _ _ h => h) (by rfl) (fun _ _ => by go_simp) hH ?_
          simp only [Act.put, List.setIfInBounds_toArray, List.set_cons_zero, List.set_cons_succ]
          refine hTake 4 (some 55) (.int .u8 Z) rfl rfl (by kernel_rfl) (by kernel_rfl) (by kernel_rfl) (fun _ _ _ h => h) (by rfl) (fun _ hs => by (obtain ⟨z1, z2⟩ := hs; go_simp)) hH ?_
          simp only [Act.put, List.setIfInBounds_toArray, List.set_cons_zero, List.set_cons_succ]
          refine hTake 5 (some 56) (.int .u64 Z) rfl rfl (by kernel_rfl) (by kernel_rfl) (by kernel_rfl) (fun _ _ _ h => h) (by rfl) (fun _ _ => by go_simp) hH ?_
          simp only [Act.put, List.setIfInBounds_toArray, List.set_cons_zero, List.set_cons_succ]
          refine hTake 6 (some 57) (.int .u64 (A : Int)) rfl rfl (by kernel_rfl) (by kernel_rfl) (by kernel_rfl) (fun _ _ _ h => h) (by rfl) (fun _ _ => by rfl) hH ?_
          simp only [Act.put, List.setIfInBounds_toArray, List.set_cons_zero, List.set_cons_succ]
          refine hTake 7 (some 58) (.int .u64 (r : Int)) rfl rfl (by kernel_rfl) (by kernel_rfl) (by kernel_rfl) (fun _ _ _ h => h) (by rfl) (fun _ _ => by go_simp) hH ?_
          simp only [Act.put, List.setIfInBounds_toArray, List.set_cons_zero, List.set_cons_succ]
          refine hTake 8 (some 59) (.pointer (some ⟨G, r, none⟩)) rfl rfl (by kernel_rfl) (by kernel_rfl) (by kernel_rfl) (fun _ _ _ h => h) (by rfl) (fun _ _ => by go_simp) hH ?_
          simp only [Act.put, List.setIfInBounds_toArray, List.set_cons_zero, List.set_cons_succ]
          refine hTake 9 (some 60) (.int .u8 B) rfl rfl (by kernel_rfl) (by kernel_rfl) (by kernel_rfl) (fun _ _ _ h => h) (by rfl) (fun _ hs => by (obtain ⟨z1, z2⟩ := hs; go_simp)) hH ?_
          simp only [Act.put, List.setIfInBounds_toArray, List.set_cons_zero, List.set_cons_succ]
          refine hTake 10 (some 61) (.int .u64 B) rfl rfl (by kernel_rfl) (by kernel_rfl) (by kernel_rfl) (fun _ _ _ h => h) (by rfl) (fun _ _ => by go_simp) hH ?_
          simp only [Act.put, List.setIfInBounds_toArray, List.set_cons_zero, List.set_cons_succ]
          refine wpAnyH_ready (rs := [11]) (by kernel_rfl) (by simp) (AllReadyH.cons rfl (fun K hK => ?_) AllReadyH.nil)
          rw [if_pos (by rfl)]
          go_simp
          go_wp2_with (go_at_call 92; refine (ragainst_any Z B ⟨by omega, by omega⟩ ⟨by omega, by omega⟩ _).mono ?_; rintro e wA ⟨rfl, rfl⟩; rw [HX3.out])
          refine hK.out _ _ ⟨c1, cB⟩ (fun hH => ?_)
          clear hK K
          refine hTake 12 (some 63) (.int .u8 D) rfl rfl (by kernel_rfl) (by kernel_rfl) (by kernel_rfl) (fun _ _ _ h => h) (by rfl) (fun _ _ => by go_simp) hH ?_
          simp only [Act.put, List.setIfInBounds_toArray, List.set_cons_zero, List.set_cons_succ]
          refine wpAnyH_ready (rs := [13]) (by kernel_rfl) (by simp) (AllReadyH.cons rfl (fun K hK => ?_) AllReadyH.nil)
          rw [if_pos (by rfl)]
          go_simp
          have LA : Below wr.heap.size wr (wr.drew.alloc (.cells #[.int .u8 D] 5)) := (below_dn (Below.refl _ _) 1).alloc (Nat.le_refl _) _
          have cb2 : b < wr.heap.size := World.block_lt_of_cell? _ _ c1
          have cG2 : G < wr.heap.size := HB.out.lt
          refine hK.out _ _ ⟨(LA.cell (p := ⟨b, o + k, none⟩) cb2).trans c1, (LA.cell (p := ⟨G, r, none⟩) cG2).trans cB⟩ (fun hH => ?_)
          clear hK K
          have sD : Seen (wr.drew.alloc (.cells #[.int .u8 D] 5)) (some ⟨wr.heap.size, 0, none⟩) 1 [D] := by
            have hb0 : Blk (wr.drew.alloc (.cells #[.int .u8 D] 5)) wr.heap.size 5 (u8s [D]) := heap_alloc_new wr.drew _
            exact seen_blk hb0 (fun z hz => by simp at hz; subst hz; exact hDb) (by simp)
          have oA : (wr.drew.alloc (.cells #[.int .u8 D] 5)).ownsRow (G + 1) 5 1 u6 k ((V.map (Value.int .u8)).take k) := ownsRow_below HO2.out.1 LA
          refine wpAnyH_ready (rs := [14]) (by kernel_rfl) (by simp) (AllReadyH.cons rfl (fun K hK => ?_) AllReadyH.nil)
          refine rstep_append (by rfl) (.tmp 51) (.tmp 64) (by rfl) (G + 1) u6 k _ (by rfl) oA (some ⟨wr.heap.size, 0, none⟩) 1 1 [D] (by rfl) sD (fun h => by cases h) (by omega) (Nat.le_trans hGW LA.size) ?_
          intro v2 w2 o2 g2
          have BG : Below (G + 1) wr w2 := ((below_dn (Below.refl (G + 1) wr) 1).alloc hGW _).grown g2 (Nat.le_trans hGW LA.size) (fun j hj => (oA.lt j hj).1)
          have hbG : b < G + 1 := by have := H1.out.2.2.2.2.2.2; omega
          refine hK.out _ _ ⟨(BG.cell (p := ⟨b, o + k, none⟩) hbG).trans c1, (BG.cell (p := ⟨G, r, none⟩) (Nat.lt_succ_self _)).trans cB⟩ (fun hH => ?_)
          clear hK K
          refine hTake 15 (some 6) v2 rfl rfl (by kernel_rfl) (by kernel_rfl) (by kernel_rfl) (fun _ _ _ h => h) (by rfl) (fun _ _ => by rfl) hH ?_
          simp only [Act.put, List.setIfInBounds_toArray, List.set_cons_zero, List.set_cons_succ]
          refine wpAnyH_done (by kernel_rfl) (NoPanic.normal ?_) _
          have HF : Hid (w2.ownsRow (G + 1) 5 1 v2 (k + 1) ((V.map (Value.int .u8)).take (k + 1)) ∧ Blk w2 G 103 (u8s Y) ∧ Kept (fun x => x = G) w1 w2) := by
            refine ⟨?_, HB.out.later BG (Nat.lt_succ_self _), kept_below HO2.out.2 BG (by omega)⟩
            rw [List.take_succ_eq_append_getElem (by simpa using HD.out.2), List.getElem_map, getD_get HD.out.1 HD.out.2]
            exact o2
          clear o2 g2 BG hH sD oA LA c1 cB
          go_wp2_with fail
          exact ⟨⟨k + 1, by omega, by go_num, HF.out.1, ⟨Y, HYY.out.2.1, HYY.out.2.2, HF.out.2.1, fun _ => by rw [← HYY.out.1]; congr 2; have := HAA.out; omega⟩, HF.out.2.2⟩, by simp [intOf]; omega⟩
    · obtain rfl : n = k := by omega
      have cP := hR.place
      have fP := hR.frozen 44
      have i1 : ¬ (n : Int) < (n : Int) := by omega
      have u2 : IntKind.u64.wrap ((P : Int) + (n : Int)) = (P : Int) + (n : Int) := by simp only [IntKind.wrap, IntKind.bits, IntKind.signed]; simp; omega
      have u3 : ((P : Int) + (n : Int)) % 18446744073709551616 = (P : Int) + (n : Int) := by omega
      rw [List.take_of_length_le (by simp [HV.out.1])] at hown
      have HO : Hid (wr.ownsRow (G + 1) 5 1 u6 n (V.map (Value.int .u8)) ∧ Kept (fun x => x = G) w1 wr ∧ RtAt wr g key nonce P) := ⟨hown, hkp, hR⟩
      clear hown hkp hR hXB hXk hXb hXl
      go_wp2_with fail
      go_ret2
      have hm := HO.out.2.2.move (P + n) (by omega)
      rw [show ((P + n : Nat) : Int) = (P : Int) + (n : Int) by omega] at hm
      have e := H1.out
      refine ⟨_, rfl, ?_, hm, ?_⟩
      · have hg' : ∀ j, u6.ownBlock = some j → g ≠ j := fun j hj => by have := (HO.out.1.lt j hj).1; omega
        rw [e.2.2.2.2.2.2]
        exact ownsRow_base (own_other HO.out.1 hg' _) (by omega)
      · have k1 := HO.out.2.1
        refine ⟨?_, ?_, ?_, ?_, fun j hj hne => ?_⟩
        · show wr.os = w.os; rw [k1.os, e.2.2.2.1.os]
        · show wr.tape = w.tape; rw [k1.tape, e.2.2.2.1.tape]
        · show wr.output = w.output; rw [k1.output, e.2.2.2.1.output]
        · have := k1.size; have := e.2.2.2.1.size; simp [World.setCell]; omega
        · rw [Below.heap_setCell _ _ _ _ (show j ≠ g from hne), k1.block j (by omega) (by omega), e.2.2.2.1.block j hj]
end Go.Proofs.Ytcimiajkbgabiaa

namespace Go.Proofs.Ytcimiajkbgabiaa
open Go.RowKit
set_option linter.unusedVariables false
set_option linter.unusedSimpArgs false

theorem bit_any (x : Int) (hx : Word x) (w : World) :
    Calls Try.prog 93 #[.int .u64 x] w fun e w' => e = .returned (.int .u64 (mk (x % 2 == 1))) ∧ w = w' := by
  have H : Hid (IntKind.u64.wrap (wrap64 (-wrap64 (bits .and .u64 x 1))) = mk (x % 2 == 1)) := bit_code x hx
  go_enter Try.func93, Try.ntmps93
  go_wp2
  go_ret
  exact ⟨ret_int H.out, rfl⟩
theorem ch64_any (m x y : Int) (hm : Word m) (hx : Word x) (hy : Word y) (w : World) :
    Calls Try.prog 119 #[.int .u64 m, .int .u64 x, .int .u64 y] w fun e w' => e = .returned (.int .u64 (pk m x y)) ∧ w = w' := by
  have H : Hid (bits .xor .u64 y (bits .and .u64 (bits .xor .u64 x y) m) = pk m x y) := choose_u64 m x y hm hx hy
  go_enter Try.func119, Try.ntmps119
  go_wp2
  go_ret
  exact ⟨ret_int H.out, rfl⟩
theorem pick_any (m x y : Int) (hm : Word m) (hx : Word x) (hy : Word y) (w : World) :
    Calls Try.prog 114 #[.int .u64 m, .int .u64 x, .int .u64 y] w fun e w' => e = .returned (.int .u64 (pk m x y)) ∧ w = w' := by
  go_enter Try.func114, Try.ntmps114
  go_wp2_with (go_at_call 119; refine (ch64_any _ _ _ hm hx hy _).mono ?_; rintro e w' ⟨rfl, rfl⟩)
  go_ret
  exact ⟨rfl, rfl⟩
theorem add64 (x y c : Int) (hx : Word x) (hy : Word y) (hc0 : 0 ≤ c) (hc : c ≤ 1) (w : World) : (callFunc 115 #[.int .u64 x, .int .u64 y, .int .u64 c]).run Try.prog w =
    .ok (.value (.tuple #[.int .u64 ((x + y + c) % 18446744073709551616), .int .u64 ((x + y + c) / 18446744073709551616)])) w := by
  obtain ⟨h1, h2⟩ := hx
  obtain ⟨h3, h4⟩ := hy
  obtain ⟨x, rfl⟩ := Int.eq_ofNat_of_zero_le h1
  obtain ⟨y, rfl⟩ := Int.eq_ofNat_of_zero_le h3
  obtain ⟨c, rfl⟩ := Int.eq_ofNat_of_zero_le hc0
  rw [run_callFunc_extern Try.func115 (by kernel_rfl) (by kernel_rfl) (by kernel_rfl) (e := add64Entry) (by kernel_rfl), run_add64 x y c (by omega) (by omega) (by omega) (by omega)]
  simp only [Result.andThen]
theorem add64_0 (x y : Int) (hx : Word x) (hy : Word y) (w : World) : (callFunc 115 #[.int .u64 x, .int .u64 y, .int .u64 0]).run Try.prog w =
    .ok (.value (.tuple #[.int .u64 ((x + y) % 18446744073709551616), .int .u64 ((x + y) / 18446744073709551616)])) w := by
  simpa using add64 x y 0 hx hy (Int.le_refl 0) (by decide) w
def bor (x y : Int) : Int := if x < y then 1 else 0
theorem bor_bd (x y : Int) : 0 ≤ bor x y ∧ bor x y ≤ 1 := by unfold bor; split <;> decide
theorem sub64 (x y b : Int) (hx : Word x) (hy : Word y) (hb0 : 0 ≤ b) (hb : b ≤ 1) (w : World) : (callFunc 113 #[.int .u64 x, .int .u64 y, .int .u64 b]).run Try.prog w =
    .ok (.value (.tuple #[.int .u64 ((x - y - b) % 18446744073709551616), .int .u64 (bor x (y + b))])) w := by
  obtain ⟨h1, h2⟩ := hx
  obtain ⟨h3, h4⟩ := hy
  obtain ⟨x, rfl⟩ := Int.eq_ofNat_of_zero_le h1
  obtain ⟨y, rfl⟩ := Int.eq_ofNat_of_zero_le h3
  obtain ⟨b, rfl⟩ := Int.eq_ofNat_of_zero_le hb0
  rw [run_callFunc_extern Try.func113 (by kernel_rfl) (by kernel_rfl) (by kernel_rfl) (e := sub64Entry) (by kernel_rfl), run_sub64 x y b (by omega)]
  have e1 : (((x + 18446744073709551616 - y - b) % 18446744073709551616 : Nat) : Int) = ((x : Int) - y - b) % 18446744073709551616 := by omega
  have e2 : ((if x < y + b then 1 else 0 : Nat) : Int) = bor x (y + b) := by unfold bor; split <;> split <;> omega
  rw [e1, e2]
  rfl
theorem sub64_0 (x y : Int) (hx : Word x) (hy : Word y) (w : World) : (callFunc 113 #[.int .u64 x, .int .u64 y, .int .u64 0]).run Try.prog w =
    .ok (.value (.tuple #[.int .u64 ((x - y) % 18446744073709551616), .int .u64 (bor x y)])) w := by
  simpa using sub64 x y 0 hx hy (Int.le_refl 0) (by decide) w
set_option maxHeartbeats 1000000 in
theorem mul64_nat (x y : Nat) (hx : x < 18446744073709551616) (hy : y < 18446744073709551616) (w : World) :
    Calls Try.prog 121 #[.int .u64 x, .int .u64 y] w fun e w' => e = .returned (.tuple #[.int .u64 ((x * y / 18446744073709551616 : Nat) : Int), .int .u64 ((x * y % 18446744073709551616 : Nat) : Int)]) ∧ w' = w := by
  obtain ⟨bd, bt, bw, hhi⟩ := Lib.mul64_hi x y hx hy
  have ba := Lib.half_mul_le (a := x / 4294967296) (b := y / 4294967296) (by omega) (by omega)
  have bb := Lib.half_mul_le (a := x / 4294967296) (b := y % 4294967296) (by omega) (by omega)
  have bc := Lib.half_mul_le (a := x % 4294967296) (b := y / 4294967296) (by omega) (by omega)
  have ba' : x / 4294967296 * (y / 4294967296) < 18446744073709551616 := by omega
  have bb' : x / 4294967296 * (y % 4294967296) < 18446744073709551616 := by omega
  have bc' : x % 4294967296 * (y / 4294967296) < 18446744073709551616 := by omega
  have bh1 : x / 4294967296 * (y / 4294967296) + (x / 4294967296 * (y % 4294967296) + x % 4294967296 * (y % 4294967296) / 4294967296) / 4294967296 < 18446744073709551616 := by omega
  have bh : x / 4294967296 * (y / 4294967296) + (x / 4294967296 * (y % 4294967296) + x % 4294967296 * (y % 4294967296) / 4294967296) / 4294967296 + ((x / 4294967296 * (y % 4294967296) + x % 4294967296 * (y % 4294967296) / 4294967296) % 4294967296 + x % 4294967296 * (y / 4294967296)) / 4294967296 < 18446744073709551616 := by omega
  go_enter Try.func121, Try.ntmps121
  go_wp2
  simp only [Mul64.maskN x hx, Mul64.maskN y hy, Mul64.divN, Mul64.mulN, Mul64.addN, Mul64.wrapN _ bd, Mul64.wrapN _ bb', Mul64.wrapN _ bt, Mul64.maskN _ bt, Mul64.wrapN _ bc', Mul64.wrapN _ bw, Mul64.wrapN _ ba', Mul64.wrapN _ bh1, Mul64.wrapN _ bh, Mul64.wrapM (x * y)]
  rw [hhi]
  go_ret2
  exact ⟨rfl, rfl⟩
theorem mul64_any (x y : Int) (hx : Word x) (hy : Word y) (w : World) :
    Calls Try.prog 121 #[.int .u64 x, .int .u64 y] w fun e w' => e = .returned (.tuple #[.int .u64 (x * y / 18446744073709551616), .int .u64 (x * y % 18446744073709551616)]) ∧ w = w' := by
  obtain ⟨h1, h2⟩ := hx
  obtain ⟨h3, h4⟩ := hy
  obtain ⟨x, rfl⟩ := Int.eq_ofNat_of_zero_le h1
  obtain ⟨y, rfl⟩ := Int.eq_ofNat_of_zero_le h3
  refine (mul64_nat x y (by omega) (by omega) w).mono ?_
  rintro e w' ⟨rfl, rfl⟩
  exact ⟨by simp, rfl⟩
theorem Blk.whole {w : World} {g : Nat} {t : TypeId} {vs : List Value} (h : Blk w g t vs) : w.rangeAt g 0 vs := fun j v hv => by rw [Nat.zero_add, h.cell]; exact hv
theorem zeroPair : (Try.prog.info? 158).map (fun i => (i.zero, i.size)) = some (some (.agg (u64s [0, 0]).toArray), 2) := by kernel_rfl
theorem sizePair : (Try.prog.info? 158).map (·.size) = some 2 := by kernel_rfl
theorem zeroNumber : (Try.prog.info? 161).map (fun i => (i.zero, i.size)) = some (some (.agg (u64s [0, 0, 0]).toArray), 3) := by kernel_rfl
theorem sizeNumber : (Try.prog.info? 161).map (·.size) = some 3 := by kernel_rfl
theorem product_any (x y : Int) (hx : Word x) (hy : Word y) (w : World) :
    Calls Try.prog 118 #[.int .u64 x, .int .u64 y] w fun e w' => e = .returned (.agg (u64s (pr (x * y))).toArray) ∧ Below w.heap.size w w' := by
  obtain ⟨z, hz⟩ : ∃ z, x * y = z := ⟨_, rfl⟩
  have hm := mul64_any x y hx hy
  rw [hz] at hm ⊢
  clear hz
  go_enter Try.func118, Try.ntmps118
  go_wp2_with (go_at_call 121; refine (hm _).mono ?_; rintro e w' ⟨rfl, rfl⟩)
  simp [bodyPost, results, Try.results118, go_sem, pr, u64s]
  exact (Below.refl _ _).alloc (Nat.le_refl _) _
theorem pplus_any (x y : Int) (hx : 0 ≤ x ∧ x < 340282366920938463463374607431768211456) (hy : 0 ≤ y ∧ y < 340282366920938463463374607431768211456) (w : World) :
    Calls Try.prog 103 #[.agg (u64s (pr x)).toArray, .agg (u64s (pr y)).toArray] w fun e w' => e = .returned (.agg (u64s (pr ((x + y) % 340282366920938463463374607431768211456))).toArray) ∧ Below w.heap.size w w' := by
  obtain ⟨x0, hx0⟩ : ∃ z, x % 18446744073709551616 = z := ⟨_, rfl⟩
  obtain ⟨x1, hx1⟩ : ∃ z, x / 18446744073709551616 = z := ⟨_, rfl⟩
  obtain ⟨y0, hy0⟩ : ∃ z, y % 18446744073709551616 = z := ⟨_, rfl⟩
  obtain ⟨y1, hy1⟩ : ∃ z, y / 18446744073709551616 = z := ⟨_, rfl⟩
  have e0 : (x + y) % 340282366920938463463374607431768211456 % 18446744073709551616 = (x0 + y0) % 18446744073709551616 := by omega
  have e1 : (x + y) % 340282366920938463463374607431768211456 / 18446744073709551616 = (x1 + y1 + (x0 + y0) / 18446744073709551616) % 18446744073709551616 := by omega
  simp only [pr, u64s, List.map_cons, List.map_nil, hx0, hx1, hy0, hy1, e0, e1]
  have a0 : Word x0 := ⟨by omega, by omega⟩
  have a1 : Word x1 := ⟨by omega, by omega⟩
  have b0 : Word y0 := ⟨by omega, by omega⟩
  have b1 : Word y1 := ⟨by omega, by omega⟩
  have k0 : 0 ≤ (x0 + y0) / 18446744073709551616 := by omega
  have k1 : (x0 + y0) / 18446744073709551616 ≤ 1 := by omega
  clear hx hy hx0 hx1 hy0 hy1 e0 e1
  go_enter Try.func103, Try.ntmps103
  go_wp2_with (first | simp only [add64_0 x0 y0 a0 b0] | simp only [add64 x1 y1 _ a1 b1 k0 k1])
  simp [bodyPost, results, Try.results103, go_sem]
  exact (((Below.refl _ _).alloc (Nat.le_refl _) _).alloc (by simp) _).alloc (by simp; omega) _
theorem nplus_any (x y : Int) (hx : 0 ≤ x) (hy : 0 ≤ y) (hs : x + y < 6277101735386680763835789423207666416102355444464034512896) (w : World) :
    Calls Try.prog 111 #[.agg (u64s (nm x)).toArray, .agg (u64s (nm y)).toArray] w fun e w' => e = .returned (.agg (u64s (nm (x + y))).toArray) ∧ Below w.heap.size w w' := by
  obtain ⟨x0, hx0⟩ : ∃ z, x % 18446744073709551616 = z := ⟨_, rfl⟩
  obtain ⟨x1, hx1⟩ : ∃ z, x / 18446744073709551616 % 18446744073709551616 = z := ⟨_, rfl⟩
  obtain ⟨x2, hx2⟩ : ∃ z, x / 340282366920938463463374607431768211456 = z := ⟨_, rfl⟩
  obtain ⟨y0, hy0⟩ : ∃ z, y % 18446744073709551616 = z := ⟨_, rfl⟩
  obtain ⟨y1, hy1⟩ : ∃ z, y / 18446744073709551616 % 18446744073709551616 = z := ⟨_, rfl⟩
  obtain ⟨y2, hy2⟩ : ∃ z, y / 340282366920938463463374607431768211456 = z := ⟨_, rfl⟩
  have e0 : (x + y) % 18446744073709551616 = (x0 + y0) % 18446744073709551616 := by omega
  have e1 : (x + y) / 18446744073709551616 % 18446744073709551616 = (x1 + y1 + (x0 + y0) / 18446744073709551616) % 18446744073709551616 := by omega
  have e2 : (x + y) / 340282366920938463463374607431768211456 = x2 + y2 + (x1 + y1 + (x0 + y0) / 18446744073709551616) / 18446744073709551616 := by omega
  simp only [nm, u64s, List.map_cons, List.map_nil, hx0, hx1, hx2, hy0, hy1, hy2, e0, e1, e2]
  have a0 : Word x0 := ⟨by omega, by omega⟩
  have a1 : Word x1 := ⟨by omega, by omega⟩
  have b0 : Word y0 := ⟨by omega, by omega⟩
  have b1 : Word y1 := ⟨by omega, by omega⟩
  have k0 : 0 ≤ (x0 + y0) / 18446744073709551616 := by omega
  have k1 : (x0 + y0) / 18446744073709551616 ≤ 1 := by omega
  have c0 : 0 ≤ x2 + y2 := by omega
  have c1 : x2 + y2 + (x1 + y1 + (x0 + y0) / 18446744073709551616) / 18446744073709551616 < 18446744073709551616 := by omega
  have v1 : IntKind.u64.wrap (x2 + y2) = x2 + y2 := by rw [IntKind.wrap_u64]; omega
  have v2 : IntKind.u64.wrap (x2 + y2 + (x1 + y1 + (x0 + y0) / 18446744073709551616) / 18446744073709551616) = x2 + y2 + (x1 + y1 + (x0 + y0) / 18446744073709551616) / 18446744073709551616 := by rw [IntKind.wrap_u64]; omega
  clear hx hy hs hx0 hx1 hx2 hy0 hy1 hy2 e0 e1 e2
  go_enter Try.func111, Try.ntmps111
  go_wp2_with (first | simp only [add64_0 x0 y0 a0 b0] | simp only [add64 x1 y1 _ a1 b1 k0 k1])
  simp [bodyPost, results, Try.results111, go_sem]
  exact (((Below.refl _ _).alloc (Nat.le_refl _) _).alloc (by simp) _).alloc (by simp; omega) _
end Go.Proofs.Ytcimiajkbgabiaa
