/- The document's own numbers: Little, turned, Big, Bytes, PutLittle, PutBig (trystref02). -/
import Derived.Test.YtgcpckkhkppnhaaOBig
namespace Go.Proofs.Ytgcpckkhkppnhaa
open Go.RowKit
set_option linter.unusedVariables false
set_option linter.unusedSimpArgs false

theorem rlittle_any (ao : Option Addr) (n c : Nat) (zs : List Int) (k : Nat) (hk : k ≤ 8) (w : World) (hx : Seen w ao n zs) :
    Calls Try.prog 39 #[.slice ao n c, .int .i64 k] w fun e w' => e = .returned (.tuple #[.int .u64 (leV k n zs), .int .i64 (fit n k)]) ∧ w = w' := by
  have t1 := hx.top
  rcases Nat.lt_trichotomy n k with h | h | h
  · rw [fit_short h, leV_no zs (by omega)]
    have h1 : (n : Int) < (k : Int) := by omega
    go_enter Try.func39, Try.ntmps39
    go_wp2
    go_ret2
    exact ⟨rfl, rfl⟩
  · subst h
    rw [fit_ok, leV_ok]
    have HL : Hid (zs.length = n) := hx.len
    have HB : Hid (Bytes zs) := hx.bytes
    go_enter Try.func39, Try.ntmps39
    go_wp2
    go_loopw [6, 7] (fun v i wr => ∃ (m : Nat) (I : Int), m ≤ n ∧ I + 1 = m ∧ i = .int .i64 I ∧ v = .int .u64 (le (zs.drop m)) ∧ wr = w) (fun _ i _ => (intOf i + 1).toNat)
    case atStart => exact ⟨n, (n : Int) - 1, Nat.le_refl _, by omega, rfl, by rw [List.drop_of_length_le (by have := HL.out; omega)]; rfl, rfl⟩
    case round =>
      obtain ⟨m, I, hm, hI, rfl, rfl, rfl⟩ := hrel
      by_cases hlt : 0 < m
      · obtain ⟨b, o, rfl, hb, hc⟩ := hx.cells (by omega)
        obtain ⟨p, rfl⟩ : ∃ p, m = p + 1 := ⟨m - 1, by omega⟩
        obtain rfl : I = (p : Int) := by omega
        have c1 := hc p (by omega)
        have hd := le_drop zs p (by have := HL.out; omega)
        have hbd := le_drop_bd zs HB.out n (p + 1) HL.out hk (by omega)
        have hz := HB.out.at p (by have := HL.out; omega)
        have hbd2 := le_bd (zs.drop p) (bytes_drop HB.out p)
        have hlt2 : le (zs.drop p) < 18446744073709551616 := by
          have : 256 ^ (zs.drop p).length ≤ 256 ^ 8 := Nat.pow_le_pow_right (by decide) (by rw [List.length_drop]; have := HL.out; omega)
          have h2 : (256 : Int) ^ (zs.drop p).length ≤ 256 ^ 8 := by
            show ((256 : Nat) : Int) ^ _ ≤ ((256 : Nat) : Int) ^ 8
            rw [← Int.natCast_pow, ← Int.natCast_pow]
            exact Int.ofNat_le.2 this
          omega
        obtain ⟨Z, hZ⟩ : ∃ Z, zs.getD p 0 = Z := ⟨_, rfl⟩
        obtain ⟨A, hA⟩ : ∃ A, le (zs.drop (p + 1)) = A := ⟨_, rfl⟩
        rw [hZ] at c1 hd hz
        rw [hA] at hd hbd
        rw [hd] at hlt2
        have HO : Hid (A * 256 + Z = le (zs.drop p)) := by show _ = _; rw [hd]; omega
        rw [hA]
        have w1 : A * 256 % 18446744073709551616 = A * 256 := by omega
        have w2 : (A * 256 + Z) % 18446744073709551616 = A * 256 + Z := by omega
        have i1 : (0 : Int) ≤ (p : Int) := by omega
        have i2 : (p : Int) < (n : Int) := by omega
        clear hZ hA hc hx hd hbd2
        go_wp2
        go_roundw
        case rel => exact ⟨p, (p : Int) - 1, by omega, by omega, by go_num, by rw [← HO.out], by first | rfl | trivial⟩
        case measure => simp [intOf] <;> omega
      · obtain rfl : m = 0 := by omega
        obtain rfl : I = -1 := by omega
        rw [List.drop_zero]
        obtain ⟨A, hA⟩ : ∃ A, le zs = A := ⟨_, rfl⟩
        rw [hA]
        have HA : Hid (le zs = A) := hA
        clear hx hA
        go_wp2
        go_ret2
        exact ⟨by rw [HA.out]; rfl, rfl⟩
  · rw [fit_rest h, leV_no zs (by omega)]
    have h1 : (k : Int) < (n : Int) := by omega
    go_enter Try.func39, Try.ntmps39
    go_wp2
    go_ret2
    exact ⟨rfl, rfl⟩

set_option maxHeartbeats 1000000 in
theorem rbytes_any (x : Int) (hv : Word x) (k : Nat) (hk : k ≤ 8) (w : World) :
    Calls Try.prog 29 #[.int .u64 x, .int .i64 k] w fun e w' => ∃ v, e = .returned v ∧ w'.ownsRow w.heap.size 5 1 v k ((leB k x).map (Value.int .u8)) ∧ Below w.heap.size w w' := by
  have A1 : Hid (∀ i, i < k → (leB k x).getD i 0 = x / 256 ^ i % 256) := fun i hi => leB_at _ _ _ hi
  have A4 : Hid ((leB k x).length = k) := leB_length _ _
  generalize leB k x = zm at *
  obtain ⟨i0, hi, hz0, hz1, hz2⟩ := info_parts info_byte
  go_enter Try.func29, Try.ntmps29
  go_wp2
  go_loopw [0, 5, 6] (fun u v i wr => ∃ m : Nat, m ≤ k ∧ u = .int .u64 (x / 256 ^ m) ∧ i = .int .i64 m ∧ wr.ownsRow w.heap.size 5 1 v m ((zm.map (Value.int .u8)).take m) ∧ Below w.heap.size w wr) (fun _ _ i _ => k - (intOf i).toNat)
  case atStart => exact ⟨0, Nat.zero_le _, by simp, rfl, by simpa using World.ownsRow_nil _ _ _ _, Below.refl _ _⟩
  case round =>
    obtain ⟨m, hm, rfl, rfl, hown, hbel⟩ := hrel
    have hq : 0 ≤ x / 256 ^ m ∧ x / 256 ^ m < 18446744073709551616 := by
      have hp : (0 : Int) < 256 ^ m := Int.pow_pos (by decide)
      have h1 := Int.ediv_nonneg hv.1 (Int.le_of_lt hp)
      have h2 : x / 256 ^ m ≤ x := Int.ediv_le_self _ hv.1
      have h3 := hv.2
      exact ⟨h1, by omega⟩
    have HP : Hid (x / 256 ^ (m + 1) = x / 256 ^ m / 256) := by
      show _ = _
      rw [Int.pow_succ, Int.ediv_ediv_of_nonneg (Int.le_of_lt (Int.pow_pos (by decide)))]
    by_cases hlt : m < k
    · have HZ : Hid (zm.getD m 0 = x / 256 ^ m % 256) := A1.out m hlt
      obtain ⟨Y, hY⟩ : ∃ Y, x / 256 ^ m = Y := ⟨_, rfl⟩
      have HY : Hid (x / 256 ^ m = Y) := hY
      rw [hY] at hq ⊢
      have e1 : Y % 256 % 256 = Y % 256 := by omega
      have hsz := hbel.size
      have i2 : (m : Int) < (k : Int) := by omega
      clear hY
      go_wp2_with (at_builtin; refine wpList_append_own _ rfl _ _ 22 rfl w.heap.size 5 i0 (.int .u8 0) 1 1 Try.underlying22 hi hz0 hz1 hz2 rfl (by decide) _ _ _ rfl (hown.alloc _) ⟨wr.heap.size, 0, none⟩ 1 1 [.int .u8 (Y % 256)] rfl rfl ?c1 ?c2 ?c3 ?c4 ?c5 ?_)
      case c1 => exact cell_one_new _ _ _
      case c2 => intro u hu; simp at hu; subst hu; rfl
      case c3 => unfold maxLen; omega
      case c4 => omega
      case c5 => simp; omega
      · intro v' w1 hown' hgrow _
        have R := step_own hbel hown (by have := A4.out; omega) (by rw [HZ.out, HY.out]) hown' hgrow
        clear hown' hgrow hown hbel
        go_wp2
        go_roundw
        case rel => exact ⟨m + 1, by omega, by rw [HP.out, HY.out], by go_num, R.1, R.2⟩
        case measure => simp [intOf]; omega
    · obtain rfl : m = k := by omega
      have HO : Hid (wr.ownsRow w.heap.size 5 1 u5 m ((zm.map (Value.int .u8)).take m)) := hown
      have HB : Hid _ := hbel
      clear hown hbel
      go_wp2
      go_ret
      refine ⟨_, rfl, ?_, HB.out⟩
      have h := HO.out
      rwa [List.take_of_length_le (by have := A4.out; simp; omega)] at h

end Go.Proofs.Ytgcpckkhkppnhaa
