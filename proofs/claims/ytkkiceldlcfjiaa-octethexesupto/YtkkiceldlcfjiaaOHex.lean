/- Layer octet, texts: digitOf, Hex, Unhex. -/
import Derived.Test.YtkkiceldlcfjiaaOMem
import Derived.Laws.BytesArg
namespace Go.Proofs.Ytkkiceldlcfjiaa
open Go.RowKit
set_option linter.unusedVariables false
set_option linter.unusedSimpArgs false

/-- The sign of a digit; the digits of bytes. -/
def dig (n : Int) : Int := if n < 10 then 48 + n else 87 + n
def hexL : List Int → List Int
  | [] => []
  | z :: zs => dig (z / 16) :: dig (z % 16) :: hexL zs
theorem hexL_length (zs : List Int) : (hexL zs).length = 2 * zs.length := by
  induction zs with
  | nil => rfl
  | cons z zs ih => simp [hexL, ih]; omega
theorem hexL_app (xs ys : List Int) : hexL (xs ++ ys) = hexL xs ++ hexL ys := by
  induction xs with
  | nil => rfl
  | cons x xs ih => simp [hexL, ih]
theorem dig_bd (n : Int) (h : 0 ≤ n ∧ n < 16) : 48 ≤ dig n ∧ dig n < 103 := by unfold dig; split <;> omega
theorem hexL_bytes (zs : List Int) (h : Bytes zs) : Bytes (hexL zs) := by
  induction zs with
  | nil => intro z hz; cases hz
  | cons z zs ih =>
    have hz := h z (by simp)
    have h1 := dig_bd (z / 16) (by omega)
    have h2 := dig_bd (z % 16) (by omega)
    have h3 := ih (fun y hy => h y (by simp [hy]))
    intro y hy
    simp only [hexL, List.mem_cons] at hy
    rcases hy with rfl | rfl | hy
    · omega
    · omega
    · exact h3 y hy
theorem hexL_take (zs : List Int) (k : Nat) (hk : k < zs.length) : hexL (zs.take (k + 1)) = hexL (zs.take k) ++ [dig (zs.getD k 0 / 16), dig (zs.getD k 0 % 16)] := by
  rw [List.take_succ_eq_append_getElem hk, hexL_app]
  simp [hexL, List.getD, hk]

abbrev digitsS : ByteArray := { data := #[48, 49, 50, 51, 52, 53, 54, 55, 56, 57, 97, 98, 99, 100, 101, 102] }
set_option maxRecDepth 20000 in
theorem dig_index (x : Int) (hx : 0 ≤ x ∧ x < 16) (w : World) : (Instr.index 9 (.string digitsS) (.int .u8 x)).run Try.prog w = .ok (.int .u8 (dig x)) w := by
  obtain ⟨x, rfl⟩ := Int.eq_ofNat_of_zero_le hx.1
  have h : x < 16 := by omega
  rcases (by omega : x = 0 ∨ x = 1 ∨ x = 2 ∨ x = 3 ∨ x = 4 ∨ x = 5 ∨ x = 6 ∨ x = 7 ∨ x = 8 ∨ x = 9 ∨ x = 10 ∨ x = 11 ∨ x = 12 ∨ x = 13 ∨ x = 14 ∨ x = 15) with rfl | rfl | rfl | rfl | rfl | rfl | rfl | rfl | rfl | rfl | rfl | rfl | rfl | rfl | rfl | rfl <;> rfl
theorem and15 (z : Int) (hz : 0 ≤ z ∧ z < 256) : bits .and .u8 z 15 = z % 16 := by
  rw [u8_and z 15 hz.1 hz.2 (by decide) (by decide)]
  have := Nat.and_two_pow_sub_one_eq_mod z.toNat 4
  show ((z.toNat &&& 15 : Nat) : Int) = _
  rw [show (15 : Nat) = 2 ^ 4 - 1 from rfl, this]; omega

theorem cell_two_new (w : World) (x y : Value) (t : TypeId) : ∀ j u, [x, y][j]? = some u → ((w.drew).alloc (.cells #[x, y] t)).cell? ((⟨w.heap.size, 0, none⟩ : Addr).add j) = some u := by
  intro j u hj
  rw [add_at, Nat.zero_add]
  have h : ((w.drew).alloc (.cells #[x, y] t)).heap[w.heap.size]? = some (.cells [x, y].toArray t (0, 0)) := heap_alloc_new w.drew _
  rw [cell_of_row _ _ j _ t (0, 0) h]
  simpa using hj
set_option maxHeartbeats 1000000 in
set_option maxRecDepth 20000 in
theorem hex_any (ao : Option Addr) (n c : Nat) (zs : List Int) (w : World) (hx : Seen w ao n zs) (hn : 2 * n ≤ 140737488355328) :
    Calls Try.prog 35 #[.slice ao n c] w fun e w' => e = .returned (.string (strOfNums (hexL zs))) ∧ Below w.heap.size w w' := by
  obtain ⟨i0, hi, hz0, hz1, hz2⟩ := info_parts info_byte
  obtain ⟨w0, hmk, ho1, hg0⟩ := run_make_own (P := Try.prog) w w.heap.size 22 5 i0 (.int .u8 0) 1 Try.underlying22 hi hz0 hz1 .i64 .i64 (2 * n) (by rw [hz2]; omega) (by unfold maxLen; omega) (Nat.le_refl _)
  have hb1 : Below w.heap.size w w0 := (Below.refl _ _).grown hg0 (Nat.le_refl _) (fun j hj => by cases hj)
  have ec : ((2 * n : Nat) : Int) = 2 * (n : Int) := by omega
  rw [ec] at hmk
  have HL : Hid (zs.length = n) := hx.len
  go_enter Try.func35, Try.ntmps35
  go_wp2
  go_loopw [3, 12] (fun v i wr => ∃ k : Nat, k ≤ n ∧ i = .int .i64 k ∧ wr.ownsRow w.heap.size 5 1 v (2 * k) ((hexL (zs.take k)).map (Value.int .u8)) ∧ Below w.heap.size w wr) (fun _ i _ => n - (intOf i).toNat)
  case atStart => exact ⟨0, Nat.zero_le _, rfl, ho1, hb1⟩
  case round =>
    clear ho1 hb1 hg0
    obtain ⟨k, hk, rfl, hown, hbel⟩ := hrel
    by_cases hlt : k < n
    · obtain ⟨b, o, rfl, hb, hc⟩ := hx.cells (by omega)
      have c1 := (hbel.cell (p := ⟨b, o + k, none⟩) hb).trans (hc k hlt)
      have bZ := hx.bytes.at k (by have := HL.out; omega)
      have HT : Hid _ := hexL_take zs k (by have := HL.out; omega)
      obtain ⟨Z, hZ⟩ : ∃ Z, zs.getD k 0 = Z := ⟨_, rfl⟩
      rw [hZ] at c1 bZ
      have i1 : (0 : Int) ≤ (k : Int) := by omega
      have i2 : (k : Int) < (n : Int) := by omega
      have hsz := hbel.size
      have f1 := dig_index (Z / 16) (by omega)
      have f2 := dig_index (Z % 16) (by omega)
      have f3 := and15 Z bZ
      clear hc hx
      go_wp2
      go_region_held3 (fun _ => True) (trivial) (first | (refine step_append_lies _ (by rfl) (.tmp 16) (.tmp 23) 22 (by rfl) w.heap.size 5 i0 (.int .u8 0) 1 1 Try.underlying22 hi hz0 hz1 hz2 rfl (by decide) _ _ _ (by rfl) (hown.drew.alloc _) ⟨wr.heap.size, 0, none⟩ 2 2 [.int .u8 (dig (Z / 16)), .int .u8 (dig (Z % 16))] (by rfl) rfl (cell_two_new _ _ _ _) (by intro u hu; simp at hu; rcases hu with rfl | rfl <;> rfl) (by decide) (by unfold maxLen; omega) (by omega) (by simp; omega) _ rfl ?_; intro g cap w1 hown' hgrow hat hlt2))
      all_goals
        have R1 : w1.ownsRow w.heap.size 5 1 (.slice (some ⟨g, 0, none⟩) (2 * k + 2) cap) (2 * (k + 1)) ((hexL (zs.take (k + 1))).map (Value.int .u8)) := by
          rw [HT.out, List.map_append, hZ]; exact hown'
        have R2 : Below w.heap.size w w1 := ((hbel.alloc hsz (.cells #[.int .u8 (dig (Z / 16)), .int .u8 (dig (Z % 16))] 5)).drew).grown hgrow (by simp; omega) (fun j hj => (hown.lt j hj).1)
        clear hown' hgrow hown hbel c1 f1 f2 f3
        go_wp2
        go_roundw
        case rel => exact ⟨k + 1, by omega, by go_num, R1, R2⟩
        case measure => simp [intOf]; omega
    · have e : k = n := by omega
      subst e
      rw [List.take_of_length_le (by have := HL.out; omega)] at hown
      have HB : Hid _ := hbel
      have HH : Hid ((hexL zs).length = 2 * k) := by show _ = _; rw [hexL_length, HL.out]
      rcases own_len HH.out hown with ⟨rfl, h0⟩ | ⟨g, cap, rfl, hr, hg, hc, hm⟩
      · have hcv : ∀ wx, (convert 22 9 (.slice none 0 0)).run Try.prog wx = .ok (.string ByteArray.empty) wx := fun wx => run_convert_bytes_nil wx 22 5 Try.underlying22 Try.underlying5 0 0 9 Try.underlying9
        have HE : Hid (ByteArray.empty = strOfNums (hexL zs)) := by
          show _ = _
          rw [List.length_eq_zero_iff.1 (by rw [HH.out, h0] : (hexL zs).length = 0)]; rfl
        clear hown hbel
        go_wp2
        go_ret
        exact ⟨by rw [← HE.out]; rfl, HB.out⟩
      · have hcv : (convert 22 9 (.slice (some ⟨g, 0, none⟩) (2 * k) cap)).run Try.prog wr = .ok (.string (strOfNums (hexL zs))) wr := run_convert_bytes_arg wr 22 5 Try.underlying22 Try.underlying5 g 0 (2 * k) cap (hexL zs) HH.out (fun i hi => by rw [Nat.zero_add]; exact hr.cell i (by rw [HH.out]; exact hi)) 9 Try.underlying9
        clear hown hbel hr
        go_wp2
        go_ret
        exact ⟨rfl, HB.out⟩

/-! ### digitOf -/
def isDig (s : Int) : Bool := decide (48 ≤ s ∧ s ≤ 57) || decide (97 ≤ s ∧ s ≤ 102)
def dv (s : Int) : Int := if 48 ≤ s ∧ s ≤ 57 then s - 48 else if 97 ≤ s ∧ s ≤ 102 then s - 87 else 0
theorem dv_bd (s : Int) : 0 ≤ dv s ∧ dv s < 16 := by
  unfold dv
  split
  · omega
  · split <;> omega
theorem digitOf_any (s : Int) (hs : 0 ≤ s ∧ s < 256) (w : World) :
    Calls Try.prog 73 #[.int .u8 s] w fun e w' => e = .returned (.tuple #[.int .u8 (dv s), .bool (isDig s)]) ∧ w = w' := by
  by_cases h1 : 48 ≤ s ∧ s ≤ 57
  · have e1 : dv s = s - 48 := by unfold dv; rw [if_pos h1]
    have e2 : isDig s = true := by simp [isDig, h1]
    rw [e1, e2]
    obtain ⟨a1, a2⟩ := h1
    go_enter Try.func73, Try.ntmps73
    go_wp2
    go_ret2
    exact ⟨by first | rfl | (congr 3; omega), rfl⟩
  · by_cases h2 : 97 ≤ s ∧ s ≤ 102
    · have e1 : dv s = s - 87 := by unfold dv; rw [if_neg h1, if_pos h2]
      have e2 : isDig s = true := by simp [isDig, h2]
      rw [e1, e2]
      obtain ⟨a1, a2⟩ := h2
      have a3 : (48 : Int) ≤ s := by omega
      have a4 : ¬ s ≤ 57 := by omega
      have e3 : s - 97 + 10 = s - 87 := by omega
      clear h1
      go_enter Try.func73, Try.ntmps73
      go_wp2
      go_ret2
      exact ⟨by first | rfl | (congr 3; omega), rfl⟩
    · have e1 : dv s = 0 := by unfold dv; rw [if_neg h1, if_neg h2]
      have e2 : isDig s = false := by simp [isDig]; omega
      rw [e1, e2]
      have HF : Hid (¬ (48 ≤ s ∧ s ≤ 57) ∧ ¬ (97 ≤ s ∧ s ≤ 102)) := ⟨h1, h2⟩
      clear h1 h2
      by_cases a1 : 48 ≤ s
      · have a2 : ¬ s ≤ 57 := by have := HF.out; omega
        by_cases a3 : 97 ≤ s
        · have a4 : ¬ s ≤ 102 := by have := HF.out; omega
          go_enter Try.func73, Try.ntmps73
          go_wp2
          go_ret2
          exact ⟨rfl, rfl⟩
        · go_enter Try.func73, Try.ntmps73
          go_wp2
          go_ret2
          exact ⟨rfl, rfl⟩
      · have a3 : ¬ 97 ≤ s := by omega
        go_enter Try.func73, Try.ntmps73
        go_wp2
        go_ret2
        exact ⟨rfl, rfl⟩
end Go.Proofs.Ytkkiceldlcfjiaa
