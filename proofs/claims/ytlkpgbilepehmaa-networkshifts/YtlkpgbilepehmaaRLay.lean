/- Layer network: the document's Size, Pad, Layers, Gates. -/
import Derived.Laws.AppendOwn
import Derived.Test.YtlkpgbilepehmaaNRHop
import Derived.Test.YtlkpgbilepehmaaNMath
import Derived.Test.YtlkpgbilepehmaaNLen2
namespace Go.Proofs.Ytlkpgbilepehmaa
open Go.RowKit
set_option linter.unusedVariables false
set_option linter.unusedSimpArgs false

set_option maxHeartbeats 1000000 in
theorem rsize_yes (L : Nat) (hL : L ≤ 16) (w : World) : Calls Try.prog 39 #[.int .i64 ((2 ^ L : Nat) : Int)] w fun e w' => e = .returned (.bool true) ∧ w = w' := by
  obtain ⟨n, hn⟩ : ∃ n, 2 ^ L = n := ⟨_, rfl⟩
  rw [hn]
  have HN : Hid (2 ^ L = n) := hn
  clear hn
  go_enter Try.func39, Try.ntmps39
  go_wp2
  go_loopw [3] (fun v wr => ∃ k : Nat, k ≤ L ∧ v = .int .i64 ((2 ^ k : Nat) : Int) ∧ w = wr) (fun v _ => (131073 - intOf v).toNat)
  case atStart => exact ⟨0, Nat.zero_le _, rfl, rfl⟩
  case round =>
    obtain ⟨k, hk, rfl, rfl⟩ := hrel
    have hb := pow_le16 k (by omega)
    obtain ⟨s, hs⟩ : ∃ s, 2 ^ k = s := ⟨_, rfl⟩
    rw [hs] at hb ⊢
    have HS : Hid (2 ^ k = s) := hs
    clear hs
    have i1 : (s : Int) ≤ 65536 := by omega
    by_cases hlt : k < L
    · have hne : ((s : Int) == (n : Int)) = false := by
        have h1 := HN.out
        have h2 : 2 ^ k < 2 ^ L := Nat.pow_lt_pow_right (by decide) hlt
        have h3 := HS.out
        simp; omega
      have hne2 : ¬ (s : Int) = (n : Int) := by simpa using hne
      go_wp2
      go_roundw
      case rel => exact ⟨k + 1, by omega, by rw [Nat.pow_succ, HS.out]; go_num, by first | rfl | trivial⟩
      case measure => simp [intOf]; omega
    · obtain rfl : k = L := by omega
      have he : s = n := by have h1 := HN.out; have h3 := HS.out; omega
      subst he
      go_wp2
      go_ret
      exact ⟨rfl, rfl⟩
set_option maxHeartbeats 1000000 in
theorem rsize_no (n : Int) (hn : ¬ IsSz n) (w : World) : Calls Try.prog 39 #[.int .i64 n] w fun e w' => e = .returned (.bool false) ∧ w = w' := by
  go_enter Try.func39, Try.ntmps39
  go_wp2
  go_loopw [3] (fun v wr => ∃ k : Nat, k ≤ 17 ∧ v = .int .i64 ((2 ^ k : Nat) : Int) ∧ w = wr) (fun v _ => (131073 - intOf v).toNat)
  case atStart => exact ⟨0, Nat.zero_le _, rfl, rfl⟩
  case round =>
    obtain ⟨k, hk, rfl, rfl⟩ := hrel
    by_cases hlt : k ≤ 16
    · have hb := pow_le16 k hlt
      have hne0 : ¬ ((2 ^ k : Nat) : Int) = n := fun e => hn ⟨k, hlt, e.symm⟩
      obtain ⟨s, hs⟩ : ∃ s, 2 ^ k = s := ⟨_, rfl⟩
      rw [hs] at hb hne0 ⊢
      have HS : Hid (2 ^ k = s) := hs
      clear hs
      have i1 : (s : Int) ≤ 65536 := by omega
      have hne : ((s : Int) == n) = false := by simpa using hne0
      go_wp2
      go_roundw
      case rel => exact ⟨k + 1, by omega, by rw [Nat.pow_succ, HS.out]; go_num, by first | rfl | trivial⟩
      case measure => simp [intOf]; omega
    · obtain rfl : k = 17 := by omega
      go_wp2
      go_ret
      exact ⟨rfl, rfl⟩
set_option maxHeartbeats 1000000 in
theorem rpad_any (n : Int) (w : World) : Calls Try.prog 12 #[.int .i64 n] w fun e w' => e = .returned (.int .i64 (padI n)) ∧ w = w' := by
  by_cases h : n < 1 ∨ 65536 < n
  · rw [pad_out n h]
    rcases h with h | h
    · go_enter Try.func12, Try.ntmps12
      go_wp2
      go_ret
      exact ⟨rfl, rfl⟩
    · have h2 : ¬ n < 1 := by omega
      go_enter Try.func12, Try.ntmps12
      go_wp2
      go_ret
      exact ⟨rfl, rfl⟩
  · rw [pad_in n (by omega) (by omega)]
    obtain ⟨x, hx⟩ : ∃ x, (n - 1).toNat = x := ⟨_, rfl⟩
    rw [hx]
    have hxn : n = (x : Int) + 1 := by omega
    have HB : Hid (blen x ≤ 16 ∧ x < 2 ^ blen x ∧ n = (x : Int) + 1 ∧ (∀ k, x < 2 ^ k → blen x ≤ k)) := ⟨blen_le x 16 (by omega), blen_lt x, hxn, fun k hk => blen_le x k hk⟩
    have h1 : ¬ n < 1 := by omega
    have h2 : ¬ 65536 < n := by omega
    clear hx hxn h
    go_enter Try.func12, Try.ntmps12
    go_wp2
    go_loopw [3] (fun v wr => ∃ k : Nat, k ≤ blen x ∧ v = .int .i64 ((2 ^ k : Nat) : Int) ∧ w = wr) (fun v _ => (131073 - intOf v).toNat)
    case atStart => exact ⟨0, Nat.zero_le _, rfl, rfl⟩
    case round =>
      obtain ⟨k, hk, rfl, rfl⟩ := hrel
      have hb := pow_le16 k (by have := HB.out.1; omega)
      obtain ⟨s, hs⟩ : ∃ s, 2 ^ k = s := ⟨_, rfl⟩
      rw [hs] at hb ⊢
      have HS : Hid (2 ^ k = s ∧ k ≤ blen x) := ⟨hs, hk⟩
      clear hs hk
      by_cases hlt : (s : Int) < n
      · go_wp2
        go_roundw
        case rel =>
          refine ⟨k + 1, ?_, by rw [Nat.pow_succ, HS.out.1]; go_num, by first | rfl | trivial⟩
          rcases Nat.lt_or_ge k (blen x) with h | h
          · omega
          · have h3 : 2 ^ blen x ≤ 2 ^ k := Nat.pow_le_pow_right (by decide) h
            have h4 := HS.out.1
            have h5 := HB.out
            omega
        case measure => simp [intOf]; omega
      · have he : k = blen x := by
          have h4 := HS.out
          have h5 := HB.out
          have h6 := h5.2.2.2 k (by omega)
          omega
        have HE : Hid (2 ^ blen x = s) := by show 2 ^ blen x = s; rw [← he]; exact HS.out.1
        clear he
        go_wp2
        go_ret
        refine ⟨?_, rfl⟩
        show Ending.returned (Value.int .i64 (s : Int)) = _
        rw [← HE.out]
        simp

/-- A row of gates in a header. -/
def GRow (w : World) (base : Nat) (h : Value) (r : List (Int × Int)) : Prop := w.ownsRow base 29 2 h r.length (hopC r) ∧ r ≠ []
/-- Rows of gates. -/
def GRows (w : World) (base : Nat) (v : Value) (rows : List (List (Int × Int))) : Prop := ∃ hs : List Value, w.ownsRow base 22 1 v rows.length hs ∧ ∀ (i : Nat) r, rows[i]? = some r → ∃ h, hs[i]? = some h ∧ GRow w base h r
theorem GRow.kept {w w' : World} {base : Nat} {h : Value} {r : List (Int × Int)} (hr : GRow w base h r) (hk : ∀ (g : Nat) (cur : Array Value), w.heap[g]? = some (.cells cur 29 (0, 0)) → w'.heap[g]? = w.heap[g]?) : GRow w' base h r := by
  refine ⟨⟨hr.1.1, ?_⟩, hr.2⟩
  rcases hr.1.2 with ⟨h0, h1⟩ | ⟨g, cap, cur, e, hb, hh, rest⟩
  · exact .inl ⟨h0, h1⟩
  · exact .inr ⟨g, cap, cur, e, hb, (hk g cur hh).trans hh, rest⟩
theorem GRow.low {w : World} {base base' : Nat} {h : Value} {r : List (Int × Int)} (hr : GRow w base h r) (hb : base' ≤ base) : GRow w base' h r := by
  refine ⟨⟨hr.1.1, ?_⟩, hr.2⟩
  rcases hr.1.2 with ⟨h0, h1⟩ | ⟨g, cap, cur, e, hb2, rest⟩
  · exact .inl ⟨h0, h1⟩
  · exact .inr ⟨g, cap, cur, e, by omega, rest⟩
theorem owns_below {w w' : World} {base : Nat} {t : TypeId} {z n : Nat} {v : Value} {xs : List Value} (h : w.ownsRow base t z v n xs) (hb : Below w.heap.size w w') : w'.ownsRow base t z v n xs := by
  refine ⟨h.1, ?_⟩
  rcases h.2 with ⟨h0, h1⟩ | ⟨g, cap, cur, e, hb2, hh, rest⟩
  · exact .inl ⟨h0, h1⟩
  · exact .inr ⟨g, cap, cur, e, hb2, (hb.block g (Array.getElem?_eq_some_iff.1 hh).1).trans hh, rest⟩
theorem GRows.below {w w' : World} {base : Nat} {v : Value} {rows : List (List (Int × Int))} (h : GRows w base v rows) (hb : Below w.heap.size w w') : GRows w' base v rows := by
  obtain ⟨hs, h1, h2⟩ := h
  refine ⟨hs, owns_below h1 hb, fun i r hi => ?_⟩
  obtain ⟨x, h3, h4⟩ := h2 i r hi
  exact ⟨x, h3, GRow.kept h4 (fun g cur hg => hb.block g (Array.getElem?_eq_some_iff.1 hg).1)⟩
theorem GRows.nil (w : World) (base : Nat) : GRows w base (.slice none 0 0) [] := ⟨[], World.ownsRow_nil _ _ _ _, fun i r h => by simp at h⟩
theorem infoGate : (Try.prog.info? 29).map (fun i => (i.zero, i.size, i.bytes)) = some (some (.agg #[.int .i64 0, .int .i64 0]), 2, 16) := by kernel_rfl
theorem infoGates : (Try.prog.info? 22).map (fun i => (i.zero, i.size, i.bytes)) = some (some (.slice none 0 0), 1, 24) := by kernel_rfl
theorem cell_one_newN (w : World) (a : Value) (t : TypeId) (j : Nat) (u : Value) (h : [a][j]? = some u) : (w.alloc (.cells #[a] t)).cell? ((⟨w.heap.size, 0, none⟩ : Addr).add j) = some u := by
  have e : (⟨w.heap.size, 0, none⟩ : Addr).add j = ⟨w.heap.size, j, none⟩ := by unfold Addr.add; split <;> simp_all
  rw [e, cell_of_row _ w.heap.size _ #[a] t (0, 0) (World.alloc_heap_new w _)]
  simpa using h
theorem rowN_ne (f e N : Nat) (hN : 1 ≤ N) : rowN f e N ≠ [] := by
  have h1 : rowN f e 1 ≠ [] := by rw [rowN, if_pos (by simp)]; simp [rowN]
  obtain ⟨r, hr⟩ := rowN_pre f e 1 N hN
  intro h
  rw [h] at hr
  have := List.append_eq_nil_iff.1 hr
  exact h1 this.1
theorem rowN_one (f e i : Nat) (hb : i / 2 ^ e % 2 = 0) : rowN f e (i + 1) = rowN f e i ++ [gateN f e i] := by rw [rowN, if_pos hb]
theorem rowN_skip (f e i : Nat) (hb : ¬ i / 2 ^ e % 2 = 0) : rowN f e (i + 1) = rowN f e i := by rw [rowN, if_neg hb]
theorem stepsK_len (f : Nat) (hf : f ≤ 16) : (stepsK f).length ≤ 16 * 17 := by
  have : ∀ f, (stepsK f).length ≤ f * (f + 1) := by
    intro f
    induction f with
    | zero => simp [stepsK]
    | succ f ih => rw [stepsK, List.length_append]; simp only [stepsF, List.length_map, List.length_range]; have : (f + 1) * (f + 1 + 1) = f * (f + 1) + 2 * (f + 1) := by rw [Nat.mul_add, Nat.add_mul]; omega
                   omega
  exact Nat.le_trans (this f) (Nat.mul_le_mul hf (by omega))
/-- The rows of 2^L places. -/
def laysL (N : Nat) (l : List Stp) : List (List (Int × Int)) := l.map fun x => rowN x.1.val x.2.val N

set_option maxRecDepth 100000 in
set_option maxHeartbeats 4000000 in
theorem rlayers_yes (L : Nat) (hL : L ≤ 16) (N : Nat) (hN : 2 ^ L = N) (w : World) : Calls Try.prog 16 #[.int .i64 (N : Int)] w fun e w' => ∃ v, e = .returned v ∧ GRows w' w.heap.size v (laysL N (stepsK L)) ∧ Below w.heap.size w w' := by
  have hN1 : 1 ≤ N := by rw [← hN]; exact Nat.pow_pos (by decide)
  have hN2 : N ≤ 65536 := by rw [← hN]; exact Nat.pow_le_pow_right (by decide) hL
  have HI : Hid (∀ w, Calls Try.prog 39 #[.int .i64 (N : Int)] w fun e w' => e = .returned (.bool true) ∧ w = w') := by
    show ∀ w, Calls Try.prog 39 #[.int .i64 (N : Int)] w fun e w' => e = .returned (.bool true) ∧ w = w'
    rw [← hN]; exact fun w => rsize_yes L hL w
  have HN : Hid (2 ^ L = N) := hN
  clear hN
  obtain ⟨i0, hi, hz0, hz1, hz2⟩ := info_parts infoGate
  obtain ⟨j0, hj0, hj1, hj2, hj3⟩ := info_parts infoGates
  go_enter Try.func16, Try.ntmps16
  go_wp2_with (go_at_call 39; refine (HI.out _).mono ?_; rintro e w1 ⟨rfl, rfl⟩)
  go_loopw [3, 4] (fun o v wr => ∃ f : Nat, v = .int .i64 ((2 ^ (f + 1) : Nat) : Int) ∧ f ≤ L ∧ GRows wr w.heap.size o (laysL N (stepsK f)) ∧ Below w.heap.size w wr) (fun _ v _ => (131073 - intOf v).toNat)
  case atStart => exact ⟨0, rfl, by omega, GRows.nil _ _, Below.refl _ _⟩
  case round =>
    obtain ⟨f, rfl, hf, hR, hB1⟩ := hrel
    obtain ⟨K, hK⟩ : ∃ K, 2 ^ (f + 1) = K := ⟨_, rfl⟩
    rw [hK]
    have hKN : K ≤ N ↔ f + 1 ≤ L := by rw [← hK, ← HN.out]; exact Nat.pow_le_pow_iff_right (by decide)
    have HK : Hid (2 ^ (f + 1) = K ∧ f ≤ L ∧ (K ≤ N ↔ f + 1 ≤ L)) := ⟨hK, hf, hKN⟩
    clear hK hf hKN
    by_cases hlt : K ≤ N
    · have HF : Hid (f + 1 ≤ L) := HK.out.2.2.1 hlt
      obtain ⟨D, hD⟩ : ∃ D, 2 ^ f = D := ⟨_, rfl⟩
      have i3 : K = 2 * D := by rw [← HK.out.1, ← hD, Nat.pow_succ]; omega
      have HD : Hid (2 ^ f = D ∧ K = 2 * D) := ⟨hD, i3⟩
      have i2 : (K : Int) ≤ (N : Int) := by omega
      have i5 : (K : Int) / 2 = (D : Int) := by omega
      have i4 : (K : Int).tdiv 2 = (D : Int) := by rw [Int.tdiv_eq_ediv_of_nonneg (by omega)]; exact i5
      have hKp : 0 < K := by rw [← HK.out.1]; exact Nat.pow_pos (by decide)
      clear hD i3
      have hR' : GRows wr w.heap.size u3 (laysL N (stepsK f ++ (stepsF f).take 0)) := by simpa using hR
      clear hR
      go_wp2_with (fail)
      go_loopw [3, 5] (fun o v wr => ∃ i : Nat, v = .int .i64 ((2 ^ f / 2 ^ i : Nat) : Int) ∧ i ≤ f + 1 ∧ GRows wr w.heap.size o (laysL N (stepsK f ++ (stepsF f).take i)) ∧ Below w.heap.size w wr) (fun _ v _ => (intOf v).toNat)
      case atStart => exact ⟨0, by rw [Nat.pow_zero, Nat.div_one, HD.out.1], by omega, hR', hB1⟩
      case round =>
        obtain ⟨i, rfl, hif0, hR2, hB2⟩ := hrel
        obtain ⟨G, hG⟩ : ∃ G, 2 ^ f / 2 ^ i = G := ⟨_, rfl⟩
        rw [hG]
        have HG : Hid (2 ^ f / 2 ^ i = G ∧ i ≤ f + 1) := ⟨hG, hif0⟩
        clear hG hif0
        obtain ⟨wI, hwI⟩ : ∃ wI, wI = wr := ⟨_, rfl⟩
        rw [← hwI] at hR2 hB2 ⊢
        clear hwI
        by_cases hif : i ≤ f
        · have hG0 : 0 < G := by rw [← HG.out.1, pow_le f i hif]; exact Nat.pow_pos (by decide)
          have hGb : G ≤ D := by rw [← HG.out.1, ← HD.out.1]; exact Nat.div_le_self _ _
          have hf15 : f < 16 := by have := HF.out; omega
          have hGe : G = 2 ^ (f - i) := by rw [← HG.out.1, pow_le f i hif]
          have HP : Hid (G = 2 ^ (f - i) ∧ (stepsF f).take (i + 1) = (stepsF f).take i ++ [stp f i] ∧ (stp f i).1.val = f + 1 ∧ (stp f i).2.val = f - i ∧ i ≤ f) := ⟨hGe, stepsF_take f i hif, stp_fst f i hf15, stp_snd f i hf15, hif⟩
          obtain ⟨G2, hG2⟩ : ∃ G2, G / 2 = G2 := ⟨_, rfl⟩
          have i8 : (G : Int) / 2 = (G2 : Int) := by omega
          have i7 : (G : Int).tdiv 2 = (G2 : Int) := by rw [Int.tdiv_eq_ediv_of_nonneg (by omega)]; exact i8
          have HH : Hid (2 ^ f / 2 ^ (i + 1) = G2 ∧ G2 < G) := ⟨by rw [← half_pow, HG.out.1]; exact hG2, by omega⟩
          have g0 : (0 : Int) < (G : Int) := by omega
          have hDN : D ≤ 32768 := by have := HD.out.2; omega
          clear hG2 hGe hf15 hif
          go_wp2_with (fail)
          go_loopw [6, 7] (fun o v wr => ∃ m : Nat, v = .int .i64 (m : Int) ∧ m ≤ N ∧ wr.ownsRow wI.heap.size 29 2 o (rowN (f + 1) (f - i) m).length (hopC (rowN (f + 1) (f - i) m)) ∧ Below wI.heap.size wI wr) (fun _ v _ => N - (intOf v).toNat)
          case atStart => exact ⟨0, rfl, by omega, World.ownsRow_nil _ _ _ _, Below.refl _ _⟩
          case round =>
            obtain ⟨m, rfl, hm, hO, hB3⟩ := hrel
            by_cases hmN : m < N
            · have j1 : (m : Int) < (N : Int) := by omega
              obtain ⟨q, hq⟩ : ∃ q, m / G = q := ⟨_, rfl⟩
              obtain ⟨p, hp⟩ : ∃ p, m / K = p := ⟨_, rfl⟩
              have q2 : (m : Int) / (G : Int) = (q : Int) := by rw [← hq]; exact (Int.natCast_ediv m G).symm
              have q1 : (m : Int).tdiv (G : Int) = (q : Int) := by rw [Int.tdiv_eq_ediv_of_nonneg (by omega)]; exact q2
              have p2 : (m : Int) / (K : Int) = (p : Int) := by rw [← hp]; exact (Int.natCast_ediv m K).symm
              have p1 : (m : Int).tdiv (K : Int) = (p : Int) := by rw [Int.tdiv_eq_ediv_of_nonneg (by omega)]; exact p2
              have qb : q ≤ 65536 := by rw [← hq]; exact Nat.le_trans (Nat.div_le_self _ _) (by omega)
              have pb : p ≤ 65536 := by rw [← hp]; exact Nat.le_trans (Nat.div_le_self _ _) (by omega)
              have gz : ((G : Int) == 0) = false := by simp; omega
              have gz2 : ¬ (G : Int) = 0 := by omega
              have kz : ((K : Int) == 0) = false := by simp; omega
              have kz2 : ¬ (K : Int) = 0 := by omega
              have HQ : Hid (m / G = q ∧ m / K = p ∧ m / 2 ^ (f - i) = q ∧ m / 2 ^ (f + 1) = p) := ⟨hq, hp, by rw [← HP.out.1]; exact hq, by rw [HK.out.1]; exact hp⟩
              clear hq hp
              rcases Nat.mod_two_eq_zero_or_one q with hq0 | hq1
              · have q4 : (q : Int) % 2 = 0 := by omega
                have q3 : (q : Int).tmod 2 = 0 := by rw [Int.tmod_eq_emod_of_nonneg (by omega)]; exact q4
                rcases Nat.mod_two_eq_zero_or_one p with hp0 | hp1
                · have p4 : (p : Int) % 2 = 0 := by omega
                  have p3 : (p : Int).tmod 2 = 0 := by rw [Int.tmod_eq_emod_of_nonneg (by omega)]; exact p4
                  have HO : Hid (wr.ownsRow wI.heap.size 29 2 u6 (rowN (f + 1) (f - i) m).length (hopC (rowN (f + 1) (f - i) m))) := hO
                  clear hO
                  have HR : Hid (rowN (f + 1) (f - i) (m + 1) = rowN (f + 1) (f - i) m ++ [((m : Int), (m : Int) + (G : Int))]) := by
                    show rowN (f + 1) (f - i) (m + 1) = rowN (f + 1) (f - i) m ++ [((m : Int), (m : Int) + (G : Int))]
                    rw [rowN_one _ _ _ (by rw [HQ.out.2.2.1]; exact hq0), gateN, if_pos (by rw [HQ.out.2.2.2]; omega), ← HP.out.1]
                    simp
                  have HM : Hid ((rowN (f + 1) (f - i) m).length ≤ 65536) := Nat.le_trans (rowN_len _ _ _) (by omega)
                  clear hq0 hp0
                  go_wp2_with (at_builtin; refine wpList_append_own _ rfl _ _ 22 rfl wI.heap.size 29 i0 _ 2 16 Try.underlying22 hi hz0 hz1 hz2 rfl (by decide) _ _ _ rfl ((HO.out.alloc _).alloc _) ⟨wr.heap.size + 1, 0, none⟩ 1 1 [.int .i64 ((m : Int)), .int .i64 ((m : Int) + (G : Int))] rfl rfl (fun j u h => by have := cell_two_new (wr.alloc (.cells #[.int .i64 ((m : Int)), .int .i64 ((m : Int) + (G : Int))] 29)) (.int .i64 ((m : Int))) (.int .i64 ((m : Int) + (G : Int))) 29 j u h; rw [World.size_alloc] at this; exact this) (by simp [Value.oneCell']) (by have := HM.out; simp only [maxLen]; omega) (by have := HM.out; omega) (by have := hB3.size; simp; omega) ?_; intro v1 w1 hO3 hg1 _)
                  go_roundw
                  case rel =>
                    refine ⟨m + 1, by go_num, by omega, ?_, ?_⟩
                    · rw [HR.out, ← hopC_snoc, List.length_append (bs := [((m : Int), (m : Int) + (G : Int))])]; exact hO3
                    · exact hB3.trans ((((Below.refl _ wr).alloc (by have := hB3.size; omega) _).alloc (by have := hB3.size; simp; omega) _).trans (below_own ((HO.out.alloc _).alloc _) hg1 hO3 (by have := hB3.size; simp; omega)))
                  case measure => simp [intOf]; omega
                · have p4 : (p : Int) % 2 = 1 := by omega
                  have p3 : (p : Int).tmod 2 = 1 := by rw [Int.tmod_eq_emod_of_nonneg (by omega)]; exact p4
                  have HO : Hid (wr.ownsRow wI.heap.size 29 2 u6 (rowN (f + 1) (f - i) m).length (hopC (rowN (f + 1) (f - i) m))) := hO
                  clear hO
                  have HR : Hid (rowN (f + 1) (f - i) (m + 1) = rowN (f + 1) (f - i) m ++ [((m : Int) + (G : Int), (m : Int))]) := by
                    show rowN (f + 1) (f - i) (m + 1) = rowN (f + 1) (f - i) m ++ [((m : Int) + (G : Int), (m : Int))]
                    rw [rowN_one _ _ _ (by rw [HQ.out.2.2.1]; exact hq0), gateN, if_neg (by rw [HQ.out.2.2.2]; omega), ← HP.out.1]
                    simp
                  have HM : Hid ((rowN (f + 1) (f - i) m).length ≤ 65536) := Nat.le_trans (rowN_len _ _ _) (by omega)
                  clear hq0 hp1
                  go_wp2_with (at_builtin; refine wpList_append_own _ rfl _ _ 22 rfl wI.heap.size 29 i0 _ 2 16 Try.underlying22 hi hz0 hz1 hz2 rfl (by decide) _ _ _ rfl ((HO.out.alloc _).alloc _) ⟨wr.heap.size + 1, 0, none⟩ 1 1 [.int .i64 ((m : Int) + (G : Int)), .int .i64 ((m : Int))] rfl rfl (fun j u h => by have := cell_two_new (wr.alloc (.cells #[.int .i64 ((m : Int) + (G : Int)), .int .i64 ((m : Int))] 29)) (.int .i64 ((m : Int) + (G : Int))) (.int .i64 ((m : Int))) 29 j u h; rw [World.size_alloc] at this; exact this) (by simp [Value.oneCell']) (by have := HM.out; simp only [maxLen]; omega) (by have := HM.out; omega) (by have := hB3.size; simp; omega) ?_; intro v1 w1 hO3 hg1 _)
                  go_roundw
                  case rel =>
                    refine ⟨m + 1, by go_num, by omega, ?_, ?_⟩
                    · rw [HR.out, ← hopC_snoc, List.length_append (bs := [((m : Int) + (G : Int), (m : Int))])]; exact hO3
                    · exact hB3.trans ((((Below.refl _ wr).alloc (by have := hB3.size; omega) _).alloc (by have := hB3.size; simp; omega) _).trans (below_own ((HO.out.alloc _).alloc _) hg1 hO3 (by have := hB3.size; simp; omega)))
                  case measure => simp [intOf]; omega
              · have q4 : (q : Int) % 2 = 1 := by omega
                have q3 : (q : Int).tmod 2 = 1 := by rw [Int.tmod_eq_emod_of_nonneg (by omega)]; exact q4
                have HR : Hid (rowN (f + 1) (f - i) (m + 1) = rowN (f + 1) (f - i) m) := rowN_skip _ _ _ (by rw [HQ.out.2.2.1]; omega)
                have HO : Hid (wr.ownsRow wI.heap.size 29 2 u6 (rowN (f + 1) (f - i) m).length (hopC (rowN (f + 1) (f - i) m))) := hO
                clear hO hq1
                go_wp2_with (fail)
                go_roundw
                case rel => exact ⟨m + 1, by go_num, by omega, by rw [HR.out]; exact HO.out, hB3⟩
                case measure => simp [intOf]; omega
            · obtain rfl : m = N := by omega
              have HO : Hid (wr.ownsRow wI.heap.size 29 2 u6 (rowN (f + 1) (f - i) m).length (hopC (rowN (f + 1) (f - i) m))) := hO
              clear hmN
              obtain ⟨g6, c6, cur6, rfl, hg6, hh6, hr6⟩ : ∃ g6 c6 cur6, u6 = .slice (some ⟨g6, 0, none⟩) (rowN (f + 1) (f - i) m).length c6 ∧ wI.heap.size ≤ g6 ∧ wr.heap[g6]? = some (.cells cur6 29 (0, 0)) ∧ True := by
                rcases hO.2 with ⟨_, h0⟩ | ⟨g, cap, cur, e, hb, hh, _⟩
                · exact absurd (List.eq_nil_of_length_eq_zero h0) (rowN_ne _ _ _ hN1)
                · exact ⟨g, cap, cur, e, hb, hh, trivial⟩
              obtain ⟨hs, h1, h2⟩ := hR2.below hB3
              obtain ⟨R0, hR0⟩ : ∃ R0, laysL m (stepsK f ++ (stepsF f).take i) = R0 := ⟨_, rfl⟩
              have HL : Hid (laysL m (stepsK f ++ (stepsF f).take (i + 1)) = R0 ++ [rowN (f + 1) (f - i) m]) := by
                show laysL m (stepsK f ++ (stepsF f).take (i + 1)) = R0 ++ [rowN (f + 1) (f - i) m]
                rw [HP.out.2.1, ← hR0]
                simp [laysL, HP.out.2.2.1, HP.out.2.2.2.1]
              have HRl : Hid (R0.length ≤ 1024) := by
                show R0.length ≤ 1024
                rw [← hR0]
                have h3 : (stepsK f).length ≤ 16 * 17 := stepsK_len f (by have := HF.out; omega)
                have h4 : ((stepsF f).take i).length ≤ f + 1 := by simp [stepsF]; omega
                have := HF.out
                simp only [laysL, List.length_map, List.length_append]
                omega
              rw [hR0] at h1 h2
              obtain ⟨rl, hrl⟩ : ∃ rl, (rowN (f + 1) (f - i) m).length = rl := ⟨_, rfl⟩
              rw [hrl]
              have HW : Hid (wr.ownsRow w.heap.size 22 1 u3 R0.length hs ∧ (∀ (i : Nat) r, R0[i]? = some r → ∃ h, hs[i]? = some h ∧ GRow wr w.heap.size h r) ∧ GRow wr w.heap.size (.slice (some ⟨g6, 0, none⟩) rl c6) (rowN (f + 1) (f - i) m)) := ⟨h1, h2, GRow.low (base := wI.heap.size) ⟨by rw [← hrl]; exact hO, rowN_ne _ _ _ hN1⟩ hB2.size⟩
              clear hO h1 h2 hR0 hrl
              go_wp2_with (at_builtin; refine wpList_append_own _ rfl _ _ 39 rfl w.heap.size 22 j0 _ 1 24 Try.underlying39 hj0 hj1 hj2 hj3 rfl (by decide) _ _ _ rfl (HW.out.1.alloc _) ⟨wr.heap.size, 0, none⟩ 1 1 [.slice (some ⟨g6, 0, none⟩) rl c6] rfl rfl (cell_one_newN _ _ _) (by simp [Value.oneCell']) (by have := HRl.out; simp only [maxLen]; omega) (by have := HRl.out; omega) (by have := hB3.size; have := hB2.size; simp; omega) ?_; intro v1 w1 hO3 hg1 _)
              go_roundw
              case rel =>
                have hsz : w.heap.size ≤ wr.heap.size := Nat.le_trans hB2.size hB3.size
                have keep : ∀ (g : Nat) (cur : Array Value), wr.heap[g]? = some (.cells cur 29 (0, 0)) → w1.heap[g]? = wr.heap[g]? := fun g cur hg => by
                  have hlt := (Array.getElem?_eq_some_iff.1 hg).1
                  rw [hg1.block g (by simp; omega) (fun e => ?_), Below.heap_alloc _ _ _ hlt]
                  rcases HW.out.1.2 with ⟨e0, _⟩ | ⟨g9, cap9, cur9, e9, _, hh9, _⟩
                  · rw [e0] at e; cases e
                  · rw [e9] at e
                    have e8 : g = g9 := Option.some.inj e
                    rw [← e8, hg] at hh9
                    simp at hh9
                refine ⟨i + 1, by rw [HH.out.1], by have := HP.out.2.2.2.2; omega, ?_, ?_⟩
                · rw [HL.out]
                  refine ⟨hs ++ [.slice (some ⟨g6, 0, none⟩) rl c6], by rw [List.length_append]; exact hO3, fun k r hk => ?_⟩
                  have hsl : hs.length = R0.length := by have := HW.out.1.1; omega
                  by_cases hkl : k < R0.length
                  · rw [List.getElem?_append_left hkl] at hk
                    obtain ⟨h, e1, e2⟩ := HW.out.2.1 k r hk
                    exact ⟨h, by rw [List.getElem?_append_left (by omega)]; exact e1, e2.kept keep⟩
                  · rw [List.getElem?_append_right (by omega)] at hk
                    have hk0 : k - R0.length = 0 := by
                      have := (List.getElem?_eq_some_iff.1 hk).1
                      simp at this; omega
                    rw [hk0] at hk
                    have hr : rowN (f + 1) (f - i) m = r := by simpa using hk
                    refine ⟨_, by rw [List.getElem?_append_right (by omega), hsl, hk0]; rfl, ?_⟩
                    rw [← hr]
                    exact HW.out.2.2.kept keep
                · exact (hB2.trans ⟨hB3.os, hB3.tape, hB3.output, hB3.size, fun j hj => hB3.block j (by have := hB2.size; omega)⟩).trans ((((Below.refl _ wr).alloc hsz _)).trans (below_own (HW.out.1.alloc _) hg1 hO3 (by simp; omega)))
              case measure => have := HH.out.2; simp [intOf]; omega
        · have hG0 : G = 0 := by rw [← HG.out.1]; have h1 := HG.out.2; have : i = f + 1 := by omega
                                 rw [this]; exact Nat.div_eq_of_lt (Nat.pow_lt_pow_right (by decide) (by omega))
          subst hG0
          have hfull : (stepsF f).take i = stepsF f := List.take_of_length_le (by simp [stepsF]; omega)
          rw [hfull] at hR2
          have HJ : Hid (GRows wI w.heap.size u3 (laysL N (stepsK (f + 1)))) := hR2
          clear hfull hR2
          go_wp2_with (fail)
          go_roundw
          case rel => exact ⟨f + 1, by have := HK.out.1; rw [Nat.pow_succ, this]; simp; omega, HF.out, HJ.out, hB2⟩
          case measure => simp [intOf]; omega
    · have i2 : ¬ (K : Int) ≤ (N : Int) := by omega
      go_wp2_with (fail)
      go_ret
      have : f = L := by have h1 := HK.out.2.1; have h2 := HK.out.2.2; omega
      exact ⟨_, rfl, by rw [← this]; exact hR, hB1⟩
end Go.Proofs.Ytlkpgbilepehmaa
