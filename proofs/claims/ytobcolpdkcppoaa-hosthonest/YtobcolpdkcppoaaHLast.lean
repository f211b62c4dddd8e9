/- Layer host: the statements' last; steps as data. -/
import Derived.Test.YtobcolpdkcppoaaHSame
namespace Go.Proofs.Ytobcolpdkcppoaa
open Go.RowKit
set_option linter.unusedVariables false
set_option linter.unusedSimpArgs false

/-- A step with the slice that holds its bytes. -/
structure RS where
  s : Stp1
  a : Option Addr
  c : Nat
instance : Inhabited RS := ⟨⟨default, none, 0⟩⟩
def rsC (r : RS) : List Value := stC r.s r.a r.c
theorem rsC_length (r : RS) : (rsC r).length = 4 := rfl
theorem rsflat_at (l : List RS) (i j : Nat) (hi : i < l.length) (hj : j < 4) : (l.flatMap rsC)[i * 4 + j]? = (rsC (l.getD i default))[j]? := by
  induction l generalizing i with
  | nil => cases hi
  | cons a r ih =>
    rw [List.flatMap_cons]
    cases i with
    | zero => rw [Nat.zero_mul, Nat.zero_add, List.getElem?_append_left (by rw [rsC_length]; exact hj)]; rfl
    | succ i =>
      rw [List.getElem?_append_right (by rw [rsC_length]; omega), rsC_length, show (i + 1) * 4 + j - 4 = i * 4 + j by omega, ih i (by simpa using hi)]
      simp
/-- A slice of steps that reads as these. -/
def RsS (w : World) (v : Value) (l : List RS) : Prop := ∃ a c, v = .slice a l.length c ∧ ∀ i, i < l.length → ∃ g o, a = some ⟨g, o, none⟩ ∧ g < w.heap.size ∧ w.rangeAt g (o + i * 4) (rsC (l.getD i default))
theorem rss_own {w : World} {B : Nat} {v : Value} {l : List RS} (h : w.ownsRow B 34 4 v l.length (l.flatMap rsC)) : RsS w v l := by
  rcases h.2 with ⟨h2, h3⟩ | ⟨g, cap, cur, hv, _, hh, hc, _, hs, ht⟩
  · rw [h2]
    refine ⟨none, 0, by rw [h3], fun i hi => (by omega)⟩
  · rw [hv]
    refine ⟨_, cap, rfl, fun i hi => ⟨g, 0, rfl, lt_of_block hh, fun j u hj => ?_⟩⟩
    have hj4 : j < 4 := by have := (List.getElem?_eq_some_iff.1 hj).1; rw [rsC_length] at this; exact this
    rw [Nat.zero_add, cell_of_row w g _ cur 34 (0, 0) hh, ← hj, ← rsflat_at l i j hi hj4, ← ht, List.getElem?_take, if_pos (by omega)]
    simp
/-- What lies on a page behind these writes, if there was one. -/
def lastO (l : List RS) (p : Int) : Option (List Int) := l.foldl (fun z r => if r.s.p = p then some r.s.z else z) none
def lastZ (l : List RS) (p : Int) (n : Nat) : List Int := (lastO l p).getD (List.replicate n 0)
theorem lastO_snoc (l : List RS) (r : RS) (p : Int) : lastO (l ++ [r]) p = if r.s.p = p then some r.s.z else lastO l p := by simp [lastO, List.foldl_append]
theorem lastO_take (l : List RS) (p : Int) (i : Nat) (hi : i < l.length) : lastO (l.take (i + 1)) p = if (l.getD i default).s.p = p then some (l.getD i default).s.z else lastO (l.take i) p := by
  have e : l.getD i default = l[i] := by simp [List.getD, hi]
  rw [List.take_succ_eq_append_getElem hi, lastO_snoc, e]
set_option maxRecDepth 20000 in
set_option maxHeartbeats 1000000 in
theorem last_any (v : Value) (l : List RS) (p : Int) (n : Nat) (hn : n ≤ 4124) (w : World) (x : RsS w v l) (hl : l.length ≤ 3000000000000) (hd : ∀ r ∈ l, Seen w r.a r.s.z.length r.s.z) :
    Calls Try.prog 14 #[v, .int .i64 p, .int .i64 n] w fun e w' => ∃ a c, e = .returned (.slice a (lastZ l p n).length c) ∧ Seen w' a (lastZ l p n).length (lastZ l p n) ∧ Below w.heap.size w w' ∧ ((∃ r ∈ l, r.a = a ∧ lastZ l p n = r.s.z) ∨ AnsB w (fun _ => False) w' (.slice a (lastZ l p n).length c) (lastZ l p n)) := by
  obtain ⟨a, c, rfl, hx⟩ := x
  have X : Hid ((∀ i, i < l.length → ∃ g o, a = some ⟨g, o, none⟩ ∧ g < w.heap.size ∧ w.rangeAt g (o + i * 4) (rsC (l.getD i default))) ∧ (∀ r ∈ l, Seen w r.a r.s.z.length r.s.z)) := ⟨hx, hd⟩
  obtain ⟨m, hm⟩ : ∃ m, l.length = m := ⟨_, rfl⟩
  rw [hm] at hl ⊢
  have HM : Hid (l.length = m) := hm
  have mk := mk_bytes n (by omega)
  clear hx hd hm
  go_enter Try.func14, Try.ntmps14
  go_wp2_with fail
  go_loopw [7] (fun i wr => ∃ k : Nat, k ≤ m ∧ i = .int .i64 ((k : Int) - 1) ∧ lastO l p = lastO (l.take k) p ∧ wr = w) (fun i _ => (intOf i + 1).toNat)
  case atStart => exact ⟨m, Nat.le_refl _, rfl, by rw [List.take_of_length_le (by rw [HM.out]; exact Nat.le_refl _)], rfl⟩
  case round =>
    obtain ⟨k, hk, rfl, hlo, rfl⟩ := hrel
    have HLo : Hid (lastO l p = lastO (l.take k) p) := hlo
    clear hlo
    rcases Nat.eq_zero_or_pos k with h0 | h0
    · subst h0
      have HZ : Hid (lastZ l p n = List.replicate n 0) := by
        have : lastO l p = none := HLo.out
        show lastZ l p n = _
        unfold lastZ; rw [this]; rfl
      go_wp2_with fail
      go_ret
      have l1 : Below wr.heap.size wr (wr.alloc (.cells (madeCells #[.int .u8 0] n) 5)) := (Below.refl _ _).alloc (Nat.le_refl _) _
      have b1 : Blk (wr.alloc (.cells (madeCells #[.int .u8 0] n) 5)) wr.heap.size 5 (u8s (List.replicate n 0)) := by rw [← zeros_u8s]; exact made_blk _ _ _ _
      refine ⟨some ⟨wr.heap.size, 0, none⟩, n, ?_, ?_, l1, .inr ?_⟩
      · rw [HZ.out, List.length_replicate]; rfl
      · rw [HZ.out]; exact seen_blk b1 (bytes_zeros n) (by rw [List.length_replicate]; omega)
      · rw [HZ.out]; exact .inr ⟨wr.heap.size, by rw [List.length_replicate], b1, fun h => h, Nat.le_refl _, bytes_zeros n, by rw [List.length_replicate]; exact hn⟩
    · obtain ⟨j, rfl⟩ : ∃ j, k = j + 1 := ⟨k - 1, by omega⟩
      have hj : j < l.length := by rw [HM.out]; omega
      obtain ⟨g, o, rfl, hg, hr⟩ := X.out.1 j hj
      obtain ⟨r, hre⟩ : ∃ r, l.getD j default = r := ⟨_, rfl⟩
      rw [hre] at hr
      have HT := lastO_take l p j hj
      rw [hre] at HT
      have hmem : r ∈ l := by
        have e : l.getD j default = l[j] := by simp [List.getD, hj]
        rw [← hre, e]; exact List.getElem_mem hj
      have HS : Hid (Seen wr r.a r.s.z.length r.s.z ∧ lastO l p = (if r.s.p = p then some r.s.z else lastO (l.take j) p)) := ⟨X.out.2 r hmem, HLo.out.trans HT⟩
      have HMm : Hid (r ∈ l) := hmem
      have c1 : wr.cell? ⟨g, o + j * 4 + 1, none⟩ = some (.int .i64 r.s.p) := hr 1 _ rfl
      have c3 : wr.cell? ⟨g, o + j * 4 + 3, none⟩ = some (.slice r.a r.s.z.length r.c) := hr 3 _ rfl
      have e1 : (((j + 1 : Nat) : Int) - 1) = (j : Int) := by omega
      rw [e1]
      have i1 : (0 : Int) ≤ (j : Int) := by omega
      have i2 : (j : Int) < (m : Int) := by omega
      clear hr hg hre HT hmem hj e1 HLo
      by_cases hp : r.s.p = p
      · have q1 : (r.s.p == p) = true := by simp [hp]
        have HZ : Hid (lastZ l p n = r.s.z) := by
          have : lastO l p = some r.s.z := by rw [HS.out.2, if_pos hp]
          show lastZ l p n = _
          unfold lastZ; rw [this]; rfl
        clear hp
        go_wp2_with fail
        go_ret
        exact ⟨r.a, r.c, by rw [HZ.out]; rfl, by rw [HZ.out]; exact HS.out.1, Below.refl _ _, .inl ⟨r, HMm.out, rfl, HZ.out⟩⟩
      · have q1 : (r.s.p == p) = false := by simp [hp]
        have HZ : Hid (lastO l p = lastO (l.take j) p) := by
          have : lastO l p = lastO (l.take j) p := by rw [HS.out.2, if_neg hp]
          exact this
        clear hp
        go_wp2_with fail
        go_roundw
        case rel => exact ⟨j, by omega, by go_num, HZ.out, by first | rfl | trivial⟩
        case measure => simp [intOf] <;> omega
end Go.Proofs.Ytobcolpdkcppoaa
