/- Layer network: the document's Hops. -/
import Derived.Laws.AppendOwn
import Derived.Test.YtlkpgbilepehmaaNHop
namespace Go.Proofs.Ytlkpgbilepehmaa
open Go.RowKit
set_option linter.unusedVariables false
set_option linter.unusedSimpArgs false

def hopC (l : List (Int × Int)) : List Value := l.flatMap fun x => [.int .i64 x.1, .int .i64 x.2]
theorem hopC_snoc (l : List (Int × Int)) (x : Int × Int) : hopC l ++ [.int .i64 x.1, .int .i64 x.2] = hopC (l ++ [x]) := by simp [hopC]
theorem hopsK_len (n e : Nat) : (hopsK n e).length ≤ e * n := by
  induction e with
  | zero => simp [hopsK]
  | succ e ih =>
    have : n - 2 ^ e ≤ n := Nat.sub_le _ _
    rw [hopsK, List.length_append, hopsD_length, Nat.succ_mul]; exact Nat.add_le_add ih this
theorem mid_len (n e j d : Nat) (he : e ≤ 16) (hn : n ≤ 65536) : (hopsK n e ++ (hopsD n d).take j).length ≤ 1114112 := by
  have h1 := hopsK_len n e
  have h2 : ((hopsD n d).take j).length ≤ n := by rw [List.length_take, hopsD_length]; omega
  have h3 : e * n ≤ 16 * 65536 := Nat.mul_le_mul he hn
  rw [List.length_append]; omega
theorem infoHop : (Try.prog.info? 38).map (fun i => (i.zero, i.size, i.bytes)) = some (some (.agg #[.int .i64 0, .int .i64 0]), 2, 16) := by kernel_rfl
theorem cell_two_new (w : World) (a b : Value) (t : TypeId) (j : Nat) (u : Value) (h : [a, b][j]? = some u) : (w.alloc (.cells #[a, b] t)).cell? ((⟨w.heap.size, 0, none⟩ : Addr).add j) = some u := by
  have e : (⟨w.heap.size, 0, none⟩ : Addr).add j = ⟨w.heap.size, j, none⟩ := by unfold Addr.add; split <;> simp_all
  rw [e, cell_of_row _ w.heap.size _ #[a, b] t (0, 0) (World.alloc_heap_new w _)]
  simpa using h

theorem below_own {w w' : World} {B : Nat} {e e' : TypeId} {z z' : Nat} {v v' : Value} {n n' : Nat} {xs xs' : List Value} (h : w.ownsRow B e z v n xs) (hg : w.grownBy w' v.ownBlock) (h' : w'.ownsRow B e' z' v' n' xs') (hB : B ≤ w.heap.size) : Below B w w' := by
  refine (Below.refl B w).grown hg hB (fun k hk => ?_)
  rcases h.2 with ⟨rfl, rfl⟩ | ⟨g, cap, cur, rfl, hB, hh, hc, hm, hs, ht⟩
  · simp [Value.ownBlock] at hk
  · simp [Value.ownBlock] at hk
    omega
set_option maxRecDepth 100000 in
set_option maxHeartbeats 2000000 in
theorem rhops_any (n : Int) (w : World) : Calls Try.prog 14 #[.int .i64 n] w fun e w' => ∃ v, e = .returned v ∧ w'.ownsRow w.heap.size 38 2 v (hopsOf n).length (hopC (hopsOf n)) ∧ Below w.heap.size w w' := by
  by_cases hb : 65536 < n
  · go_enter Try.func14, Try.ntmps14
    go_wp2
    go_ret
    refine ⟨_, rfl, ?_, Below.refl _ _⟩
    simp [hopsOf, hb]
    exact World.ownsRow_nil _ _ _ _
  · have e1 : hopsOf n = hopsL n.toNat := by simp [hopsOf, hb]
    rw [e1]
    obtain ⟨N, hN⟩ : ∃ N, n.toNat = N := ⟨_, rfl⟩
    have hn : N ≤ 65536 := by omega
    rw [hN]
    obtain ⟨i0, hi, hz0, hz1, hz2⟩ := info_parts infoHop
    go_enter Try.func14, Try.ntmps14
    go_wp2
    go_loopw [3, 4] (fun o v wr => ∃ e : Nat, v = .int .i64 ((2 ^ e : Nat) : Int) ∧ e ≤ 17 ∧ wr.ownsRow w.heap.size 38 2 o (hopsK N e).length (hopC (hopsK N e)) ∧ Below w.heap.size w wr) (fun _ v _ => (131073 - intOf v).toNat)
    case atStart => exact ⟨0, rfl, by omega, World.ownsRow_nil _ _ _ _, Below.refl _ _⟩
    case round =>
      obtain ⟨e, rfl, he, hO, hB1⟩ := hrel
      obtain ⟨D, hD⟩ : ∃ D, 2 ^ e = D := ⟨_, rfl⟩
      rw [hD]
      have HD : Hid (2 ^ e = D ∧ e ≤ 17) := ⟨hD, he⟩
      clear hD he
      by_cases hlt : D < N
      · have i2 : (D : Int) < n := by omega
        have HN : Hid (n = (N : Int)) := by show n = (N : Int); omega
        have hO' : wr.ownsRow w.heap.size 38 2 u3 (hopsK N e ++ (hopsD N D).take 0).length (hopC (hopsK N e ++ (hopsD N D).take 0)) := by simpa using hO
        clear hO
        go_wp2
        go_loopw [3, 5] (fun o v wr => ∃ j : Nat, v = .int .i64 ((D + j : Nat) : Int) ∧ D + j ≤ N ∧ wr.ownsRow w.heap.size 38 2 o (hopsK N e ++ (hopsD N D).take j).length (hopC (hopsK N e ++ (hopsD N D).take j)) ∧ Below w.heap.size w wr) (fun _ v _ => (65537 - intOf v).toNat)
        case atStart => exact ⟨0, rfl, by omega, hO', hB1⟩
        case round =>
          obtain ⟨j, rfl, hj, hO2, hB2⟩ := hrel
          obtain ⟨G, hG⟩ : ∃ G, D + j = G := ⟨_, rfl⟩
          rw [hG] at hj ⊢
          have HG : Hid (D + j = G) := hG
          clear hG
          by_cases hlt2 : G < N
          · have i4 : (G : Int) < n := by rw [HN.out]; omega
            have hw : (G : Int) - (D : Int) = (j : Int) := by have := HG.out; omega
            have HM : Hid ((hopsK N e ++ (hopsD N D).take j).length ≤ 1114112) := mid_len N e j D (by have := e_small HD.out.1 hlt hn; omega) hn
            have hnext : (hopsD N D).take (j + 1) = (hopsD N D).take j ++ [((G : Int), (j : Int))] := by
              have := hopsD_take N D j (by have h3 := HG.out; omega)
              rw [HG.out] at this
              exact this
            have HX : Hid ((hopsD N D).take (j + 1) = (hopsD N D).take j ++ [((G : Int), (j : Int))]) := hnext
            clear hnext
            have HO : Hid (wr.ownsRow w.heap.size 38 2 u3 (hopsK N e ++ (hopsD N D).take j).length (hopC (hopsK N e ++ (hopsD N D).take j))) := hO2
            clear hO2
            go_wp2_with (refine wpList_append_own _ rfl _ _ 32 rfl w.heap.size 38 i0 _ 2 16 Try.underlying32 hi hz0 hz1 hz2 rfl (by decide) _ _ _ rfl (HO.out.alloc _) ⟨wr.heap.size, 0, none⟩ 1 1 [.int .i64 (G : Int), .int .i64 (j : Int)] rfl rfl (cell_two_new _ _ _ _) (by simp [Value.oneCell']) (by have := HM.out; simp only [maxLen]; omega) (by have := HM.out; omega) (by have := hB2.size; simp; omega) ?_; intro v1 w1 hO3 hg1 hx1)
            go_roundw
            case rel =>
              refine ⟨j + 1, by have := HG.out; simp; omega, by have := HG.out; omega, ?_, ?_⟩
              · rw [HX.out, ← List.append_assoc, ← hopC_snoc, List.length_append (bs := [((G : Int), (j : Int))])]
                exact hO3
              · exact hB2.trans (((Below.refl _ wr).alloc (by have := hB2.size; omega) _).trans (below_own (HO.out.alloc _) hg1 hO3 (by have := hB2.size; simp; omega)))
            case measure => simp [intOf]; omega
          · have i4 : ¬ (G : Int) < n := by rw [HN.out]; omega
            have hfull : (hopsD N D).take j = hopsD N D := List.take_of_length_le (by rw [hopsD_length]; have := HG.out; omega)
            have HF : Hid (wr.ownsRow w.heap.size 38 2 u3 (hopsK N (e + 1)).length (hopC (hopsK N (e + 1)))) := by show wr.ownsRow w.heap.size 38 2 u3 (hopsK N (e + 1)).length (hopC (hopsK N (e + 1))); rw [hopsK, HD.out.1, ← hfull]; exact hO2
            clear hfull hO2
            go_wp2
            go_roundw
            case rel => exact ⟨e + 1, by have := HD.out.1; rw [Nat.pow_succ, this]; simp; omega, by have := e_small HD.out.1 hlt hn; omega, HF.out, hB2⟩
            case measure => have hp : 0 < D := (by rw [← HD.out.1]; exact Nat.pow_pos (by decide)); simp [intOf]; omega
      · have i2 : ¬ (D : Int) < n := by omega
        go_wp2
        go_ret
        refine ⟨_, rfl, ?_, hB1⟩
        rw [hopsL, hopsK_stop N e 17 HD.out.2 (by have := HD.out.1; omega)]
        exact hO
end Go.Proofs.Ytlkpgbilepehmaa
