/- Layer octet: Big, PutBig at each type; the statements' little, big, putLittle, putBig, cut. -/
import Derived.Test.YtkkiceldlcfjiaaOUnhex
namespace Go.Proofs.Ytkkiceldlcfjiaa
open Go.RowKit
set_option linter.unusedVariables false
set_option linter.unusedSimpArgs false

theorem le_rev (zs : List Int) (k : Nat) (hk : k < zs.length) : le (zs.take (k + 1)).reverse = zs.getD k 0 + 256 * le (zs.take k).reverse := by
  have e : zs.getD k 0 = zs[k] := by simp [List.getD, hk]
  rw [List.take_succ_eq_append_getElem hk, List.reverse_append, List.reverse_singleton, List.singleton_append, e]
  rfl
theorem le_rev_bd (zs : List Int) (h : Bytes zs) (k : Nat) (hk : k ≤ 7) : 0 ≤ le (zs.take k).reverse ∧ le (zs.take k).reverse * 256 < 18446744073709551616 := by
  have b := le_bd _ (bytes_rev (bytes_take h k))
  have hle : (256 : Int) ^ ((zs.take k).reverse).length ≤ 256 ^ 7 := by
    have : 256 ^ ((zs.take k).reverse).length ≤ 256 ^ 7 := Nat.pow_le_pow_right (by decide) (by simp; omega)
    show ((256 : Nat) : Int) ^ _ ≤ ((256 : Nat) : Int) ^ 7
    rw [← Int.natCast_pow, ← Int.natCast_pow]
    exact Int.ofNat_le.2 this
  omega
theorem rev_at (l : List Int) (K m : Nat) (hl : l.length = K) (hm : m < K) : l.reverse.getD m 0 = l.getD (K - 1 - m) 0 := by
  subst hl
  have h : l.length - 1 - m < l.length := by omega
  simp [List.getD, hm, List.getElem?_reverse, h]
theorem leB_mod (k : Nat) (x : Int) : leB k (x % 256 ^ k) = leB k x := by
  have h := leB_le (leB k x) (leB_bytes k x)
  rw [leB_length, le_leB] at h
  exact h

theorem big_8 (ao : Option Addr) (n c : Nat) (zs : List Int) (w : World) (hx : Seen w ao n zs) :
    Calls Try.prog 45 #[.slice ao n c] w fun e w' => e = .returned (.tuple #[.int .u8 (leV 1 n zs.reverse), .int .i64 (fit n 1)]) ∧ w = w' := by
  have t1 := hx.top
  by_cases hn : n = 1
  · subst hn
    have HL : Hid (zs.length = 1) := hx.len
    have HB : Hid (Bytes zs) := hx.bytes
    rw [leV_ok, fit_ok]
    have hf := fits_8 ao 1 c (by decide) w
    rw [fit_ok] at hf
    go_enter Try.func45, Try.ntmps45
    go_wp2_with (go_at_call 74; refine hf.mono ?_; rintro e w' ⟨rfl, rfl⟩)
    go_loopw [5, 15] (fun v i wr => ∃ m : Nat, m ≤ 1 ∧ i = .int .i64 m ∧ v = .int .u64 (le (zs.take m).reverse) ∧ wr = w) (fun _ i _ => 1 - (intOf i).toNat)
    case atStart => exact ⟨0, Nat.zero_le _, rfl, rfl, rfl⟩
    case round =>
      obtain ⟨m, hm, rfl, rfl, rfl⟩ := hrel
      by_cases hlt : m < 1
      · obtain ⟨b, o, rfl, hb, hc⟩ := hx.cells (by decide)
        have c1 := hc m hlt
        have hd := le_rev zs m (by have := HL.out; omega)
        have hbd := le_rev_bd zs HB.out m (by omega)
        have hz := HB.out.at m (by have := HL.out; omega)
        obtain ⟨Z, hZ⟩ : ∃ Z, zs.getD m 0 = Z := ⟨_, rfl⟩
        obtain ⟨A, hA⟩ : ∃ A, le (zs.take m).reverse = A := ⟨_, rfl⟩
        rw [hZ] at c1 hd hz
        rw [hA] at hd hbd
        have HO : Hid (bits .or .u64 (A * 256) Z = le (zs.take (m + 1)).reverse) := by show _ = _; rw [or_low A Z hbd hz, hd]
        rw [hA]
        have w1 : A * 256 % 18446744073709551616 = A * 256 := by omega
        have i1 : (0 : Int) ≤ (m : Int) := by omega
        have i2 : (m : Int) < 1 := by omega
        clear hZ hA hc hx hd hf
        go_wp2
        go_roundw
        case rel => exact ⟨m + 1, by omega, by go_num, by rw [← HO.out], by first | rfl | trivial⟩
        case measure => simp [intOf] <;> omega
      · obtain rfl : m = 1 := by omega
        have hbd := le_bd zs.reverse (bytes_rev HB.out)
        rw [List.length_reverse, HL.out] at hbd
        have hbd' : 0 ≤ le zs.reverse ∧ le zs.reverse < 256 := by simpa using hbd
        rw [List.take_of_length_le (by have := HL.out; omega)]
        obtain ⟨A, hA⟩ : ∃ A, le zs.reverse = A := ⟨_, rfl⟩
        rw [hA] at hbd' ⊢
        have HA : Hid (le zs.reverse = A) := hA
        clear hx hf hbd hA
        go_wp2
        go_ret2
        exact ⟨by rw [HA.out]; rfl, rfl⟩
  · rw [leV_no _ hn]
    have hf := fits_8 ao n c t1 w
    have he : (fit n 1 != 0) = true := by
      rcases Nat.lt_or_gt_of_ne hn with h | h
      · rw [fit_short h]; rfl
      · rw [fit_rest h]; rfl
    generalize fit n 1 = E at *
    go_enter Try.func45, Try.ntmps45
    go_wp2_with (go_at_call 74; refine hf.mono ?_; rintro e w' ⟨rfl, rfl⟩)
    go_ret2
    exact ⟨rfl, rfl⟩

set_option maxHeartbeats 1000000 in
set_option maxRecDepth 20000 in
theorem putb_8 (ao : Option Addr) (n c : Nat) (zs : List Int) (x : Int) (w : World) (hx : Seen w ao n zs) (hc : ao = none → c = 0) (hn : n + 8 ≤ 140737488355328) (hv : 0 ≤ x ∧ x < 256) :
    Calls Try.prog 53 #[.slice ao n c, .int .u8 x] w fun e w' => ∃ v, e = .returned v ∧ w'.ownsRow w.heap.size 5 1 v (n + 1) ((zs ++ (leB 1 x).reverse).map (Value.int .u8)) ∧ Below w.heap.size w w' := by
  obtain ⟨i0, hi, hz0, hz1, hz2⟩ := info_parts info_byte
  have A1 : Hid (∀ k, k < 1 → (zs ++ (leB 1 x).reverse).getD (n + k) 0 = x / 256 ^ (1 - 1 - k) % 256) := fun k hk => by rw [app_getD _ _ _ _ hx.len, rev_at _ _ _ (leB_length _ _) hk, leB_at _ _ _ (by omega)]
  have A2 : Hid (((zs ++ (leB 1 x).reverse).map (Value.int .u8)).take n = zs.map (Value.int .u8)) := app_take _ _ _ hx.len
  have A3 : Hid (((zs ++ (leB 1 x).reverse).map (Value.int .u8)).take (n + 1) = (zs ++ (leB 1 x).reverse).map (Value.int .u8)) := app_all _ _ _ _ hx.len (by rw [List.length_reverse, leB_length])
  have A4 : Hid ((zs ++ (leB 1 x).reverse).length = n + 1) := by show _ = _; rw [List.length_append, hx.len, List.length_reverse, leB_length]
  generalize zs ++ (leB 1 x).reverse = zm at *
  have hr := room_any ao n c 1 zs w hx hc (by decide)
  go_enter Try.func53, Try.ntmps53
  go_wp2_with (first | (go_at_call 79; with_reducible refine (width_8 _).mono ?_; rintro e w' ⟨rfl, rfl⟩) | (go_at_call 78; refine hr.mono ?_; rintro e w1 ⟨v, rfl, hown, hbel⟩))
  go_loopw [5, 6] (fun v i wr => ∃ (k : Nat) (I : Int), k ≤ 1 ∧ I + 1 + k = 1 ∧ i = .int .i64 I ∧ wr.ownsRow w.heap.size 5 1 v (n + k) ((zm.map (Value.int .u8)).take (n + k)) ∧ Below w.heap.size w wr) (fun _ i _ => (intOf i + 1).toNat)
  case atStart => exact ⟨0, 1 - 1, Nat.zero_le _, by omega, rfl, by rw [Nat.add_zero, A2.out]; exact hown, hbel⟩
  case round =>
    clear hown hbel hx hr
    obtain ⟨k, I, hk, hI, rfl, hown, hbel⟩ := hrel
    by_cases hlt : k < 1
    · obtain ⟨p, rfl⟩ : ∃ p : Nat, I = (p : Int) := ⟨I.toNat, by omega⟩
      have hsz := hbel.size
      have hp : p = 1 - 1 - k := by omega
      have HZ : Hid (zm.getD (n + k) 0 = x / 256 ^ p % 256) := by rw [hp]; exact A1.out k hlt
      have i1 : (0 : Int) ≤ (p : Int) := by omega
      have hp3 : p < 1 := by omega
      clear hp
      go_wp2_with fail
      refine (byteAt_8 x hv p hp3 wr).mono ?_
      rintro e w' ⟨rfl, rfl⟩
      go_wp2_with (at_builtin; refine wpList_append_own _ rfl _ _ 22 rfl w.heap.size 5 i0 (.int .u8 0) 1 1 Try.underlying22 hi hz0 hz1 hz2 rfl (by decide) _ _ _ rfl (hown.alloc _) ⟨wr.heap.size, 0, none⟩ 1 1 [.int .u8 (x / 256 ^ p % 256)] rfl rfl ?c1 ?c2 ?c3 ?c4 ?c5 ?_)
      case c1 => exact cell_one_new _ _ _
      case c2 => intro u hu; simp at hu; subst hu; rfl
      case c3 => unfold maxLen; omega
      case c4 => omega
      case c5 => simp; omega
      · intro v' w1 hown' hgrow _
        have R := step_own hbel hown (by have := A4.out; omega) HZ.out hown' hgrow
        clear hown' hgrow hown hbel
        go_wp2
        go_roundw
        case rel => exact ⟨k + 1, (p : Int) - 1, by omega, by omega, by go_num, R.1, R.2⟩
        case measure => simp [intOf] <;> omega
    · obtain rfl : k = 1 := by omega
      obtain rfl : I = -1 := by omega
      have HO : Hid _ := hown
      have HB : Hid _ := hbel
      clear hown hbel
      go_wp2
      go_ret
      refine ⟨_, rfl, ?_, HB.out⟩
      have h := HO.out
      rwa [A3.out] at h
theorem big_32 (ao : Option Addr) (n c : Nat) (zs : List Int) (w : World) (hx : Seen w ao n zs) :
    Calls Try.prog 47 #[.slice ao n c] w fun e w' => e = .returned (.tuple #[.int .u32 (leV 4 n zs.reverse), .int .i64 (fit n 4)]) ∧ w = w' := by
  have t1 := hx.top
  by_cases hn : n = 4
  · subst hn
    have HL : Hid (zs.length = 4) := hx.len
    have HB : Hid (Bytes zs) := hx.bytes
    rw [leV_ok, fit_ok]
    have hf := fits_32 ao 4 c (by decide) w
    rw [fit_ok] at hf
    go_enter Try.func47, Try.ntmps47
    go_wp2_with (go_at_call 76; refine hf.mono ?_; rintro e w' ⟨rfl, rfl⟩)
    go_loopw [5, 15] (fun v i wr => ∃ m : Nat, m ≤ 4 ∧ i = .int .i64 m ∧ v = .int .u64 (le (zs.take m).reverse) ∧ wr = w) (fun _ i _ => 4 - (intOf i).toNat)
    case atStart => exact ⟨0, Nat.zero_le _, rfl, rfl, rfl⟩
    case round =>
      obtain ⟨m, hm, rfl, rfl, rfl⟩ := hrel
      by_cases hlt : m < 4
      · obtain ⟨b, o, rfl, hb, hc⟩ := hx.cells (by decide)
        have c1 := hc m hlt
        have hd := le_rev zs m (by have := HL.out; omega)
        have hbd := le_rev_bd zs HB.out m (by omega)
        have hz := HB.out.at m (by have := HL.out; omega)
        obtain ⟨Z, hZ⟩ : ∃ Z, zs.getD m 0 = Z := ⟨_, rfl⟩
        obtain ⟨A, hA⟩ : ∃ A, le (zs.take m).reverse = A := ⟨_, rfl⟩
        rw [hZ] at c1 hd hz
        rw [hA] at hd hbd
        have HO : Hid (bits .or .u64 (A * 256) Z = le (zs.take (m + 1)).reverse) := by show _ = _; rw [or_low A Z hbd hz, hd]
        rw [hA]
        have w1 : A * 256 % 18446744073709551616 = A * 256 := by omega
        have i1 : (0 : Int) ≤ (m : Int) := by omega
        have i2 : (m : Int) < 4 := by omega
        clear hZ hA hc hx hd hf
        go_wp2
        go_roundw
        case rel => exact ⟨m + 1, by omega, by go_num, by rw [← HO.out], by first | rfl | trivial⟩
        case measure => simp [intOf] <;> omega
      · obtain rfl : m = 4 := by omega
        have hbd := le_bd zs.reverse (bytes_rev HB.out)
        rw [List.length_reverse, HL.out] at hbd
        have hbd' : 0 ≤ le zs.reverse ∧ le zs.reverse < 4294967296 := by simpa using hbd
        rw [List.take_of_length_le (by have := HL.out; omega)]
        obtain ⟨A, hA⟩ : ∃ A, le zs.reverse = A := ⟨_, rfl⟩
        rw [hA] at hbd' ⊢
        have HA : Hid (le zs.reverse = A) := hA
        clear hx hf hbd hA
        go_wp2
        go_ret2
        exact ⟨by rw [HA.out]; rfl, rfl⟩
  · rw [leV_no _ hn]
    have hf := fits_32 ao n c t1 w
    have he : (fit n 4 != 0) = true := by
      rcases Nat.lt_or_gt_of_ne hn with h | h
      · rw [fit_short h]; rfl
      · rw [fit_rest h]; rfl
    generalize fit n 4 = E at *
    go_enter Try.func47, Try.ntmps47
    go_wp2_with (go_at_call 76; refine hf.mono ?_; rintro e w' ⟨rfl, rfl⟩)
    go_ret2
    exact ⟨rfl, rfl⟩

set_option maxHeartbeats 1000000 in
set_option maxRecDepth 20000 in
theorem putb_32 (ao : Option Addr) (n c : Nat) (zs : List Int) (x : Int) (w : World) (hx : Seen w ao n zs) (hc : ao = none → c = 0) (hn : n + 8 ≤ 140737488355328) (hv : 0 ≤ x ∧ x < 4294967296) :
    Calls Try.prog 55 #[.slice ao n c, .int .u32 x] w fun e w' => ∃ v, e = .returned v ∧ w'.ownsRow w.heap.size 5 1 v (n + 4) ((zs ++ (leB 4 x).reverse).map (Value.int .u8)) ∧ Below w.heap.size w w' := by
  obtain ⟨i0, hi, hz0, hz1, hz2⟩ := info_parts info_byte
  have A1 : Hid (∀ k, k < 4 → (zs ++ (leB 4 x).reverse).getD (n + k) 0 = x / 256 ^ (4 - 1 - k) % 256) := fun k hk => by rw [app_getD _ _ _ _ hx.len, rev_at _ _ _ (leB_length _ _) hk, leB_at _ _ _ (by omega)]
  have A2 : Hid (((zs ++ (leB 4 x).reverse).map (Value.int .u8)).take n = zs.map (Value.int .u8)) := app_take _ _ _ hx.len
  have A3 : Hid (((zs ++ (leB 4 x).reverse).map (Value.int .u8)).take (n + 4) = (zs ++ (leB 4 x).reverse).map (Value.int .u8)) := app_all _ _ _ _ hx.len (by rw [List.length_reverse, leB_length])
  have A4 : Hid ((zs ++ (leB 4 x).reverse).length = n + 4) := by show _ = _; rw [List.length_append, hx.len, List.length_reverse, leB_length]
  generalize zs ++ (leB 4 x).reverse = zm at *
  have hr := room_any ao n c 4 zs w hx hc (by decide)
  go_enter Try.func55, Try.ntmps55
  go_wp2_with (first | (go_at_call 83; with_reducible refine (width_32 _).mono ?_; rintro e w' ⟨rfl, rfl⟩) | (go_at_call 78; refine hr.mono ?_; rintro e w1 ⟨v, rfl, hown, hbel⟩))
  go_loopw [5, 6] (fun v i wr => ∃ (k : Nat) (I : Int), k ≤ 4 ∧ I + 1 + k = 4 ∧ i = .int .i64 I ∧ wr.ownsRow w.heap.size 5 1 v (n + k) ((zm.map (Value.int .u8)).take (n + k)) ∧ Below w.heap.size w wr) (fun _ i _ => (intOf i + 1).toNat)
  case atStart => exact ⟨0, 4 - 1, Nat.zero_le _, by omega, rfl, by rw [Nat.add_zero, A2.out]; exact hown, hbel⟩
  case round =>
    clear hown hbel hx hr
    obtain ⟨k, I, hk, hI, rfl, hown, hbel⟩ := hrel
    by_cases hlt : k < 4
    · obtain ⟨p, rfl⟩ : ∃ p : Nat, I = (p : Int) := ⟨I.toNat, by omega⟩
      have hsz := hbel.size
      have hp : p = 4 - 1 - k := by omega
      have HZ : Hid (zm.getD (n + k) 0 = x / 256 ^ p % 256) := by rw [hp]; exact A1.out k hlt
      have i1 : (0 : Int) ≤ (p : Int) := by omega
      have hp3 : p < 4 := by omega
      clear hp
      go_wp2_with fail
      refine (byteAt_32 x hv p hp3 wr).mono ?_
      rintro e w' ⟨rfl, rfl⟩
      go_wp2_with (at_builtin; refine wpList_append_own _ rfl _ _ 22 rfl w.heap.size 5 i0 (.int .u8 0) 1 1 Try.underlying22 hi hz0 hz1 hz2 rfl (by decide) _ _ _ rfl (hown.alloc _) ⟨wr.heap.size, 0, none⟩ 1 1 [.int .u8 (x / 256 ^ p % 256)] rfl rfl ?c1 ?c2 ?c3 ?c4 ?c5 ?_)
      case c1 => exact cell_one_new _ _ _
      case c2 => intro u hu; simp at hu; subst hu; rfl
      case c3 => unfold maxLen; omega
      case c4 => omega
      case c5 => simp; omega
      · intro v' w1 hown' hgrow _
        have R := step_own hbel hown (by have := A4.out; omega) HZ.out hown' hgrow
        clear hown' hgrow hown hbel
        go_wp2
        go_roundw
        case rel => exact ⟨k + 1, (p : Int) - 1, by omega, by omega, by go_num, R.1, R.2⟩
        case measure => simp [intOf] <;> omega
    · obtain rfl : k = 4 := by omega
      obtain rfl : I = -1 := by omega
      have HO : Hid _ := hown
      have HB : Hid _ := hbel
      clear hown hbel
      go_wp2
      go_ret
      refine ⟨_, rfl, ?_, HB.out⟩
      have h := HO.out
      rwa [A3.out] at h
theorem big_64 (ao : Option Addr) (n c : Nat) (zs : List Int) (w : World) (hx : Seen w ao n zs) :
    Calls Try.prog 48 #[.slice ao n c] w fun e w' => e = .returned (.tuple #[.int .u64 (leV 8 n zs.reverse), .int .i64 (fit n 8)]) ∧ w = w' := by
  have t1 := hx.top
  by_cases hn : n = 8
  · subst hn
    have HL : Hid (zs.length = 8) := hx.len
    have HB : Hid (Bytes zs) := hx.bytes
    rw [leV_ok, fit_ok]
    have hf := fits_64 ao 8 c (by decide) w
    rw [fit_ok] at hf
    go_enter Try.func48, Try.ntmps48
    go_wp2_with (go_at_call 77; refine hf.mono ?_; rintro e w' ⟨rfl, rfl⟩)
    go_loopw [5, 15] (fun v i wr => ∃ m : Nat, m ≤ 8 ∧ i = .int .i64 m ∧ v = .int .u64 (le (zs.take m).reverse) ∧ wr = w) (fun _ i _ => 8 - (intOf i).toNat)
    case atStart => exact ⟨0, Nat.zero_le _, rfl, rfl, rfl⟩
    case round =>
      obtain ⟨m, hm, rfl, rfl, rfl⟩ := hrel
      by_cases hlt : m < 8
      · obtain ⟨b, o, rfl, hb, hc⟩ := hx.cells (by decide)
        have c1 := hc m hlt
        have hd := le_rev zs m (by have := HL.out; omega)
        have hbd := le_rev_bd zs HB.out m (by omega)
        have hz := HB.out.at m (by have := HL.out; omega)
        obtain ⟨Z, hZ⟩ : ∃ Z, zs.getD m 0 = Z := ⟨_, rfl⟩
        obtain ⟨A, hA⟩ : ∃ A, le (zs.take m).reverse = A := ⟨_, rfl⟩
        rw [hZ] at c1 hd hz
        rw [hA] at hd hbd
        have HO : Hid (bits .or .u64 (A * 256) Z = le (zs.take (m + 1)).reverse) := by show _ = _; rw [or_low A Z hbd hz, hd]
        rw [hA]
        have w1 : A * 256 % 18446744073709551616 = A * 256 := by omega
        have i1 : (0 : Int) ≤ (m : Int) := by omega
        have i2 : (m : Int) < 8 := by omega
        clear hZ hA hc hx hd hf
        go_wp2
        go_roundw
        case rel => exact ⟨m + 1, by omega, by go_num, by rw [← HO.out], by first | rfl | trivial⟩
        case measure => simp [intOf] <;> omega
      · obtain rfl : m = 8 := by omega
        have hbd := le_bd zs.reverse (bytes_rev HB.out)
        rw [List.length_reverse, HL.out] at hbd
        have hbd' : 0 ≤ le zs.reverse ∧ le zs.reverse < 18446744073709551616 := by simpa using hbd
        rw [List.take_of_length_le (by have := HL.out; omega)]
        obtain ⟨A, hA⟩ : ∃ A, le zs.reverse = A := ⟨_, rfl⟩
        rw [hA] at hbd' ⊢
        have HA : Hid (le zs.reverse = A) := hA
        clear hx hf hbd hA
        go_wp2
        go_ret2
        exact ⟨by rw [HA.out]; rfl, rfl⟩
  · rw [leV_no _ hn]
    have hf := fits_64 ao n c t1 w
    have he : (fit n 8 != 0) = true := by
      rcases Nat.lt_or_gt_of_ne hn with h | h
      · rw [fit_short h]; rfl
      · rw [fit_rest h]; rfl
    generalize fit n 8 = E at *
    go_enter Try.func48, Try.ntmps48
    go_wp2_with (go_at_call 77; refine hf.mono ?_; rintro e w' ⟨rfl, rfl⟩)
    go_ret2
    exact ⟨rfl, rfl⟩

set_option maxHeartbeats 1000000 in
set_option maxRecDepth 20000 in
theorem putb_64 (ao : Option Addr) (n c : Nat) (zs : List Int) (x : Int) (w : World) (hx : Seen w ao n zs) (hc : ao = none → c = 0) (hn : n + 8 ≤ 140737488355328) (hv : 0 ≤ x ∧ x < 18446744073709551616) :
    Calls Try.prog 56 #[.slice ao n c, .int .u64 x] w fun e w' => ∃ v, e = .returned v ∧ w'.ownsRow w.heap.size 5 1 v (n + 8) ((zs ++ (leB 8 x).reverse).map (Value.int .u8)) ∧ Below w.heap.size w w' := by
  obtain ⟨i0, hi, hz0, hz1, hz2⟩ := info_parts info_byte
  have A1 : Hid (∀ k, k < 8 → (zs ++ (leB 8 x).reverse).getD (n + k) 0 = x / 256 ^ (8 - 1 - k) % 256) := fun k hk => by rw [app_getD _ _ _ _ hx.len, rev_at _ _ _ (leB_length _ _) hk, leB_at _ _ _ (by omega)]
  have A2 : Hid (((zs ++ (leB 8 x).reverse).map (Value.int .u8)).take n = zs.map (Value.int .u8)) := app_take _ _ _ hx.len
  have A3 : Hid (((zs ++ (leB 8 x).reverse).map (Value.int .u8)).take (n + 8) = (zs ++ (leB 8 x).reverse).map (Value.int .u8)) := app_all _ _ _ _ hx.len (by rw [List.length_reverse, leB_length])
  have A4 : Hid ((zs ++ (leB 8 x).reverse).length = n + 8) := by show _ = _; rw [List.length_append, hx.len, List.length_reverse, leB_length]
  generalize zs ++ (leB 8 x).reverse = zm at *
  have hr := room_any ao n c 8 zs w hx hc (by decide)
  go_enter Try.func56, Try.ntmps56
  go_wp2_with (first | (go_at_call 85; with_reducible refine (width_64 _).mono ?_; rintro e w' ⟨rfl, rfl⟩) | (go_at_call 78; refine hr.mono ?_; rintro e w1 ⟨v, rfl, hown, hbel⟩))
  go_loopw [5, 6] (fun v i wr => ∃ (k : Nat) (I : Int), k ≤ 8 ∧ I + 1 + k = 8 ∧ i = .int .i64 I ∧ wr.ownsRow w.heap.size 5 1 v (n + k) ((zm.map (Value.int .u8)).take (n + k)) ∧ Below w.heap.size w wr) (fun _ i _ => (intOf i + 1).toNat)
  case atStart => exact ⟨0, 8 - 1, Nat.zero_le _, by omega, rfl, by rw [Nat.add_zero, A2.out]; exact hown, hbel⟩
  case round =>
    clear hown hbel hx hr
    obtain ⟨k, I, hk, hI, rfl, hown, hbel⟩ := hrel
    by_cases hlt : k < 8
    · obtain ⟨p, rfl⟩ : ∃ p : Nat, I = (p : Int) := ⟨I.toNat, by omega⟩
      have hsz := hbel.size
      have hp : p = 8 - 1 - k := by omega
      have HZ : Hid (zm.getD (n + k) 0 = x / 256 ^ p % 256) := by rw [hp]; exact A1.out k hlt
      have i1 : (0 : Int) ≤ (p : Int) := by omega
      have hp3 : p < 8 := by omega
      clear hp
      go_wp2_with fail
      refine (byteAt_64 x hv p hp3 wr).mono ?_
      rintro e w' ⟨rfl, rfl⟩
      go_wp2_with (at_builtin; refine wpList_append_own _ rfl _ _ 22 rfl w.heap.size 5 i0 (.int .u8 0) 1 1 Try.underlying22 hi hz0 hz1 hz2 rfl (by decide) _ _ _ rfl (hown.alloc _) ⟨wr.heap.size, 0, none⟩ 1 1 [.int .u8 (x / 256 ^ p % 256)] rfl rfl ?c1 ?c2 ?c3 ?c4 ?c5 ?_)
      case c1 => exact cell_one_new _ _ _
      case c2 => intro u hu; simp at hu; subst hu; rfl
      case c3 => unfold maxLen; omega
      case c4 => omega
      case c5 => simp; omega
      · intro v' w1 hown' hgrow _
        have R := step_own hbel hown (by have := A4.out; omega) HZ.out hown' hgrow
        clear hown' hgrow hown hbel
        go_wp2
        go_roundw
        case rel => exact ⟨k + 1, (p : Int) - 1, by omega, by omega, by go_num, R.1, R.2⟩
        case measure => simp [intOf] <;> omega
    · obtain rfl : k = 8 := by omega
      obtain rfl : I = -1 := by omega
      have HO : Hid _ := hown
      have HB : Hid _ := hbel
      clear hown hbel
      go_wp2
      go_ret
      refine ⟨_, rfl, ?_, HB.out⟩
      have h := HO.out
      rwa [A3.out] at h
theorem big_W (ao : Option Addr) (n c : Nat) (zs : List Int) (w : World) (hx : Seen w ao n zs) :
    Calls Try.prog 46 #[.slice ao n c] w fun e w' => e = .returned (.tuple #[.int .u16 (leV 2 n zs.reverse), .int .i64 (fit n 2)]) ∧ w = w' := by
  have t1 := hx.top
  by_cases hn : n = 2
  · subst hn
    have HL : Hid (zs.length = 2) := hx.len
    have HB : Hid (Bytes zs) := hx.bytes
    rw [leV_ok, fit_ok]
    have hf := fits_W ao 2 c (by decide) w
    rw [fit_ok] at hf
    go_enter Try.func46, Try.ntmps46
    go_wp2_with (go_at_call 75; refine hf.mono ?_; rintro e w' ⟨rfl, rfl⟩)
    go_loopw [5, 15] (fun v i wr => ∃ m : Nat, m ≤ 2 ∧ i = .int .i64 m ∧ v = .int .u64 (le (zs.take m).reverse) ∧ wr = w) (fun _ i _ => 2 - (intOf i).toNat)
    case atStart => exact ⟨0, Nat.zero_le _, rfl, rfl, rfl⟩
    case round =>
      obtain ⟨m, hm, rfl, rfl, rfl⟩ := hrel
      by_cases hlt : m < 2
      · obtain ⟨b, o, rfl, hb, hc⟩ := hx.cells (by decide)
        have c1 := hc m hlt
        have hd := le_rev zs m (by have := HL.out; omega)
        have hbd := le_rev_bd zs HB.out m (by omega)
        have hz := HB.out.at m (by have := HL.out; omega)
        obtain ⟨Z, hZ⟩ : ∃ Z, zs.getD m 0 = Z := ⟨_, rfl⟩
        obtain ⟨A, hA⟩ : ∃ A, le (zs.take m).reverse = A := ⟨_, rfl⟩
        rw [hZ] at c1 hd hz
        rw [hA] at hd hbd
        have HO : Hid (bits .or .u64 (A * 256) Z = le (zs.take (m + 1)).reverse) := by show _ = _; rw [or_low A Z hbd hz, hd]
        rw [hA]
        have w1 : A * 256 % 18446744073709551616 = A * 256 := by omega
        have i1 : (0 : Int) ≤ (m : Int) := by omega
        have i2 : (m : Int) < 2 := by omega
        clear hZ hA hc hx hd hf
        go_wp2
        go_roundw
        case rel => exact ⟨m + 1, by omega, by go_num, by rw [← HO.out], by first | rfl | trivial⟩
        case measure => simp [intOf] <;> omega
      · obtain rfl : m = 2 := by omega
        have hbd := le_bd zs.reverse (bytes_rev HB.out)
        rw [List.length_reverse, HL.out] at hbd
        have hbd' : 0 ≤ le zs.reverse ∧ le zs.reverse < 65536 := by simpa using hbd
        rw [List.take_of_length_le (by have := HL.out; omega)]
        obtain ⟨A, hA⟩ : ∃ A, le zs.reverse = A := ⟨_, rfl⟩
        rw [hA] at hbd' ⊢
        have HA : Hid (le zs.reverse = A) := hA
        clear hx hf hbd hA
        go_wp2
        go_ret2
        exact ⟨by rw [HA.out]; rfl, rfl⟩
  · rw [leV_no _ hn]
    have hf := fits_W ao n c t1 w
    have he : (fit n 2 != 0) = true := by
      rcases Nat.lt_or_gt_of_ne hn with h | h
      · rw [fit_short h]; rfl
      · rw [fit_rest h]; rfl
    generalize fit n 2 = E at *
    go_enter Try.func46, Try.ntmps46
    go_wp2_with (go_at_call 75; refine hf.mono ?_; rintro e w' ⟨rfl, rfl⟩)
    go_ret2
    exact ⟨rfl, rfl⟩

set_option maxHeartbeats 1000000 in
set_option maxRecDepth 20000 in
theorem putb_W (ao : Option Addr) (n c : Nat) (zs : List Int) (x : Int) (w : World) (hx : Seen w ao n zs) (hc : ao = none → c = 0) (hn : n + 8 ≤ 140737488355328) (hv : 0 ≤ x ∧ x < 65536) :
    Calls Try.prog 54 #[.slice ao n c, .int .u16 x] w fun e w' => ∃ v, e = .returned v ∧ w'.ownsRow w.heap.size 5 1 v (n + 2) ((zs ++ (leB 2 x).reverse).map (Value.int .u8)) ∧ Below w.heap.size w w' := by
  obtain ⟨i0, hi, hz0, hz1, hz2⟩ := info_parts info_byte
  have A1 : Hid (∀ k, k < 2 → (zs ++ (leB 2 x).reverse).getD (n + k) 0 = x / 256 ^ (2 - 1 - k) % 256) := fun k hk => by rw [app_getD _ _ _ _ hx.len, rev_at _ _ _ (leB_length _ _) hk, leB_at _ _ _ (by omega)]
  have A2 : Hid (((zs ++ (leB 2 x).reverse).map (Value.int .u8)).take n = zs.map (Value.int .u8)) := app_take _ _ _ hx.len
  have A3 : Hid (((zs ++ (leB 2 x).reverse).map (Value.int .u8)).take (n + 2) = (zs ++ (leB 2 x).reverse).map (Value.int .u8)) := app_all _ _ _ _ hx.len (by rw [List.length_reverse, leB_length])
  have A4 : Hid ((zs ++ (leB 2 x).reverse).length = n + 2) := by show _ = _; rw [List.length_append, hx.len, List.length_reverse, leB_length]
  generalize zs ++ (leB 2 x).reverse = zm at *
  have hr := room_any ao n c 2 zs w hx hc (by decide)
  go_enter Try.func54, Try.ntmps54
  go_wp2_with (first | (go_at_call 81; with_reducible refine (width_W _).mono ?_; rintro e w' ⟨rfl, rfl⟩) | (go_at_call 78; refine hr.mono ?_; rintro e w1 ⟨v, rfl, hown, hbel⟩))
  go_loopw [5, 6] (fun v i wr => ∃ (k : Nat) (I : Int), k ≤ 2 ∧ I + 1 + k = 2 ∧ i = .int .i64 I ∧ wr.ownsRow w.heap.size 5 1 v (n + k) ((zm.map (Value.int .u8)).take (n + k)) ∧ Below w.heap.size w wr) (fun _ i _ => (intOf i + 1).toNat)
  case atStart => exact ⟨0, 2 - 1, Nat.zero_le _, by omega, rfl, by rw [Nat.add_zero, A2.out]; exact hown, hbel⟩
  case round =>
    clear hown hbel hx hr
    obtain ⟨k, I, hk, hI, rfl, hown, hbel⟩ := hrel
    by_cases hlt : k < 2
    · obtain ⟨p, rfl⟩ : ∃ p : Nat, I = (p : Int) := ⟨I.toNat, by omega⟩
      have hsz := hbel.size
      have hp : p = 2 - 1 - k := by omega
      have HZ : Hid (zm.getD (n + k) 0 = x / 256 ^ p % 256) := by rw [hp]; exact A1.out k hlt
      have i1 : (0 : Int) ≤ (p : Int) := by omega
      have hp3 : p < 2 := by omega
      clear hp
      go_wp2_with fail
      refine (byteAt_W x hv p hp3 wr).mono ?_
      rintro e w' ⟨rfl, rfl⟩
      go_wp2_with (at_builtin; refine wpList_append_own _ rfl _ _ 22 rfl w.heap.size 5 i0 (.int .u8 0) 1 1 Try.underlying22 hi hz0 hz1 hz2 rfl (by decide) _ _ _ rfl (hown.alloc _) ⟨wr.heap.size, 0, none⟩ 1 1 [.int .u8 (x / 256 ^ p % 256)] rfl rfl ?c1 ?c2 ?c3 ?c4 ?c5 ?_)
      case c1 => exact cell_one_new _ _ _
      case c2 => intro u hu; simp at hu; subst hu; rfl
      case c3 => unfold maxLen; omega
      case c4 => omega
      case c5 => simp; omega
      · intro v' w1 hown' hgrow _
        have R := step_own hbel hown (by have := A4.out; omega) HZ.out hown' hgrow
        clear hown' hgrow hown hbel
        go_wp2
        go_roundw
        case rel => exact ⟨k + 1, (p : Int) - 1, by omega, by omega, by go_num, R.1, R.2⟩
        case measure => simp [intOf] <;> omega
    · obtain rfl : k = 2 := by omega
      obtain rfl : I = -1 := by omega
      have HO : Hid _ := hown
      have HB : Hid _ := hbel
      clear hown hbel
      go_wp2
      go_ret
      refine ⟨_, rfl, ?_, HB.out⟩
      have h := HO.out
      rwa [A3.out] at h

/-! ### The statements' own roads, by the number of bytes -/
abbrev Width (k : Nat) : Prop := k = 1 ∨ k = 2 ∨ k = 4 ∨ k = 8
theorem leV_bd (k n : Nat) (hk : k ≤ 8) (zs : List Int) (h : Bytes zs) (hl : zs.length = n) : 0 ≤ leV k n zs ∧ leV k n zs < 256 ^ k := by
  unfold leV
  split
  · next h1 => have := le_bd zs h; rw [hl, h1] at this; exact this
  · exact ⟨Int.le_refl _, Int.pow_pos (by decide)⟩
theorem llittle_any (ao : Option Addr) (n c : Nat) (zs : List Int) (k : Nat) (hk : Width k) (w : World) (hx : Seen w ao n zs) :
    Calls Try.prog 13 #[.slice ao n c, .int .i64 k] w fun e w' => e = .returned (.tuple #[.int .u64 (leV k n zs), .int .i64 (fit n k)]) ∧ w = w' := by
  have hb := leV_bd k n (by omega) zs hx.bytes hx.len
  rcases hk with rfl | rfl | rfl | rfl
  · have hl := little_8 ao n c zs w hx
    generalize leV 1 n zs = V at *
    go_enter Try.func13, Try.ntmps13
    go_wp2_with (go_at_call 41; refine hl.mono ?_; rintro e w' ⟨rfl, rfl⟩)
    go_ret2
    exact ⟨rfl, rfl⟩
  · have hl := little_W ao n c zs w hx
    generalize leV 2 n zs = V at *
    go_enter Try.func13, Try.ntmps13
    go_wp2_with (go_at_call 42; refine hl.mono ?_; rintro e w' ⟨rfl, rfl⟩)
    go_ret2
    exact ⟨rfl, rfl⟩
  · have hl := little_32 ao n c zs w hx
    generalize leV 4 n zs = V at *
    go_enter Try.func13, Try.ntmps13
    go_wp2_with (go_at_call 43; refine hl.mono ?_; rintro e w' ⟨rfl, rfl⟩)
    go_ret2
    exact ⟨rfl, rfl⟩
  · have hl := little_64 ao n c zs w hx
    generalize leV 8 n zs = V at *
    go_enter Try.func13, Try.ntmps13
    go_wp2_with (go_at_call 44; refine hl.mono ?_; rintro e w' ⟨rfl, rfl⟩)
    go_ret2
    exact ⟨rfl, rfl⟩
theorem lbig_any (ao : Option Addr) (n c : Nat) (zs : List Int) (k : Nat) (hk : Width k) (w : World) (hx : Seen w ao n zs) :
    Calls Try.prog 14 #[.slice ao n c, .int .i64 k] w fun e w' => e = .returned (.tuple #[.int .u64 (leV k n zs.reverse), .int .i64 (fit n k)]) ∧ w = w' := by
  have hb := leV_bd k n (by omega) zs.reverse (bytes_rev hx.bytes) (by rw [List.length_reverse]; exact hx.len)
  rcases hk with rfl | rfl | rfl | rfl
  · have hl := big_8 ao n c zs w hx
    generalize leV 1 n zs.reverse = V at *
    go_enter Try.func14, Try.ntmps14
    go_wp2_with (go_at_call 45; refine hl.mono ?_; rintro e w' ⟨rfl, rfl⟩)
    go_ret2
    exact ⟨rfl, rfl⟩
  · have hl := big_W ao n c zs w hx
    generalize leV 2 n zs.reverse = V at *
    go_enter Try.func14, Try.ntmps14
    go_wp2_with (go_at_call 46; refine hl.mono ?_; rintro e w' ⟨rfl, rfl⟩)
    go_ret2
    exact ⟨rfl, rfl⟩
  · have hl := big_32 ao n c zs w hx
    generalize leV 4 n zs.reverse = V at *
    go_enter Try.func14, Try.ntmps14
    go_wp2_with (go_at_call 47; refine hl.mono ?_; rintro e w' ⟨rfl, rfl⟩)
    go_ret2
    exact ⟨rfl, rfl⟩
  · have hl := big_64 ao n c zs w hx
    generalize leV 8 n zs.reverse = V at *
    go_enter Try.func14, Try.ntmps14
    go_wp2_with (go_at_call 48; refine hl.mono ?_; rintro e w' ⟨rfl, rfl⟩)
    go_ret2
    exact ⟨rfl, rfl⟩
theorem cut_any (x : Int) (hx : Word x) (k : Nat) (hk : Width k) (w : World) :
    Calls Try.prog 20 #[.int .u64 x, .int .i64 k] w fun e w' => e = .returned (.int .u64 (x % 256 ^ k)) ∧ w = w' := by
  rcases hk with rfl | rfl | rfl | rfl
  · go_enter Try.func20, Try.ntmps20
    go_wp2
    go_ret
    exact ⟨ret_int (by rfl), rfl⟩
  · go_enter Try.func20, Try.ntmps20
    go_wp2
    go_ret
    exact ⟨ret_int (by rfl), rfl⟩
  · go_enter Try.func20, Try.ntmps20
    go_wp2
    go_ret
    exact ⟨ret_int (by rfl), rfl⟩
  · have e : x % 256 ^ 8 = x := by have h := hx; simp only [Word] at h; omega
    rw [e]
    go_enter Try.func20, Try.ntmps20
    go_wp2
    go_ret
    exact ⟨rfl, rfl⟩
theorem lput_any (ao : Option Addr) (n c : Nat) (zs : List Int) (x : Int) (hv : Word x) (k : Nat) (hk : Width k) (w : World) (hx : Seen w ao n zs) (hc : ao = none → c = 0) (hn : n + 8 ≤ 140737488355328) :
    Calls Try.prog 17 #[.slice ao n c, .int .u64 x, .int .i64 k] w fun e w' => ∃ v, e = .returned v ∧ w'.ownsRow w.heap.size 5 1 v (n + k) ((zs ++ leB k x).map (Value.int .u8)) ∧ Below w.heap.size w w' := by
  have hm := leB_mod k x
  rcases hk with rfl | rfl | rfl | rfl
  · have hp := put_8 ao n c zs (x % 256) w hx hc hn (by omega)
    rw [show x % 256 = x % 256 ^ 1 by rfl, hm] at hp
    go_enter Try.func17, Try.ntmps17
    go_wp2_with (go_at_call 49; refine hp.mono ?_; rintro e w1 ⟨v, rfl, o1, b1⟩)
    go_ret
    exact ⟨_, rfl, o1, b1⟩
  · have hp := put_W ao n c zs (x % 65536) w hx hc hn (by omega)
    rw [show x % 65536 = x % 256 ^ 2 by rfl, hm] at hp
    go_enter Try.func17, Try.ntmps17
    go_wp2_with (go_at_call 50; refine hp.mono ?_; rintro e w1 ⟨v, rfl, o1, b1⟩)
    go_ret
    exact ⟨_, rfl, o1, b1⟩
  · have hp := put_32 ao n c zs (x % 4294967296) w hx hc hn (by omega)
    rw [show x % 4294967296 = x % 256 ^ 4 by rfl, hm] at hp
    go_enter Try.func17, Try.ntmps17
    go_wp2_with (go_at_call 51; refine hp.mono ?_; rintro e w1 ⟨v, rfl, o1, b1⟩)
    go_ret
    exact ⟨_, rfl, o1, b1⟩
  · have hp := put_64 ao n c zs x w hx hc hn hv
    go_enter Try.func17, Try.ntmps17
    go_wp2_with (go_at_call 52; refine hp.mono ?_; rintro e w1 ⟨v, rfl, o1, b1⟩)
    go_ret
    exact ⟨_, rfl, o1, b1⟩
theorem lputb_any (ao : Option Addr) (n c : Nat) (zs : List Int) (x : Int) (hv : Word x) (k : Nat) (hk : Width k) (w : World) (hx : Seen w ao n zs) (hc : ao = none → c = 0) (hn : n + 8 ≤ 140737488355328) :
    Calls Try.prog 18 #[.slice ao n c, .int .u64 x, .int .i64 k] w fun e w' => ∃ v, e = .returned v ∧ w'.ownsRow w.heap.size 5 1 v (n + k) ((zs ++ (leB k x).reverse).map (Value.int .u8)) ∧ Below w.heap.size w w' := by
  have hm := leB_mod k x
  rcases hk with rfl | rfl | rfl | rfl
  · have hp := putb_8 ao n c zs (x % 256) w hx hc hn (by omega)
    rw [show x % 256 = x % 256 ^ 1 by rfl, hm] at hp
    go_enter Try.func18, Try.ntmps18
    go_wp2_with (go_at_call 53; refine hp.mono ?_; rintro e w1 ⟨v, rfl, o1, b1⟩)
    go_ret
    exact ⟨_, rfl, o1, b1⟩
  · have hp := putb_W ao n c zs (x % 65536) w hx hc hn (by omega)
    rw [show x % 65536 = x % 256 ^ 2 by rfl, hm] at hp
    go_enter Try.func18, Try.ntmps18
    go_wp2_with (go_at_call 54; refine hp.mono ?_; rintro e w1 ⟨v, rfl, o1, b1⟩)
    go_ret
    exact ⟨_, rfl, o1, b1⟩
  · have hp := putb_32 ao n c zs (x % 4294967296) w hx hc hn (by omega)
    rw [show x % 4294967296 = x % 256 ^ 4 by rfl, hm] at hp
    go_enter Try.func18, Try.ntmps18
    go_wp2_with (go_at_call 55; refine hp.mono ?_; rintro e w1 ⟨v, rfl, o1, b1⟩)
    go_ret
    exact ⟨_, rfl, o1, b1⟩
  · have hp := putb_64 ao n c zs x w hx hc hn hv
    go_enter Try.func18, Try.ntmps18
    go_wp2_with (go_at_call 56; refine hp.mono ?_; rintro e w1 ⟨v, rfl, o1, b1⟩)
    go_ret
    exact ⟨_, rfl, o1, b1⟩
end Go.Proofs.Ytkkiceldlcfjiaa
