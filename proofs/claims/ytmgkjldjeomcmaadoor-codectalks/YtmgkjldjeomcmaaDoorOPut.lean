/- Layer octet: PutLittle at each type; the statements' lent, still, same. -/
import Derived.Test.YtmgkjldjeomcmaaDoorOMake
namespace Go.Proofs.YtmgkjldjeomcmaaDoor
open Go.RowKit
set_option linter.unusedVariables false
set_option linter.unusedSimpArgs false

theorem app_getD (xs ys : List Int) (n k : Nat) (hl : xs.length = n) : (xs ++ ys).getD (n + k) 0 = ys.getD k 0 := by
  subst hl
  simp [List.getD, List.getElem?_append_right]
theorem app_take (xs ys : List Int) (n : Nat) (hl : xs.length = n) : ((xs ++ ys).map (Value.int .u8)).take n = xs.map (Value.int .u8) := by
  rw [List.map_append, List.take_append_of_le_length (by simp; omega), List.take_of_length_le (by simp; omega)]
theorem app_all (xs ys : List Int) (n k : Nat) (hl : xs.length = n) (hk : ys.length = k) : ((xs ++ ys).map (Value.int .u8)).take (n + k) = (xs ++ ys).map (Value.int .u8) :=
  List.take_of_length_le (by simp; omega)

set_option maxHeartbeats 1000000 in
set_option maxRecDepth 20000 in
theorem put_32 (ao : Option Addr) (n c : Nat) (zs : List Int) (x : Int) (w : World) (hx : Seen w ao n zs) (hc : ao = none → c = 0) (hn : n + 8 ≤ 140737488355328) (hv : 0 ≤ x ∧ x < 4294967296) :
    Calls Tryd.prog 83 #[.slice ao n c, .int .u32 x] w fun e w' => ∃ v, e = .returned v ∧ w'.ownsRow w.heap.size 5 1 v (n + 4) ((zs ++ leB 4 x).map (Value.int .u8)) ∧ Below w.heap.size w w' := by
  obtain ⟨i0, hi, hz0, hz1, hz2⟩ := info_parts info_byte
  have A1 : Hid (∀ k, k < 4 → (zs ++ leB 4 x).getD (n + k) 0 = x / 256 ^ k % 256) := fun k hk => by rw [app_getD _ _ _ _ hx.len, leB_at _ _ _ hk]
  have A2 : Hid (((zs ++ leB 4 x).map (Value.int .u8)).take n = zs.map (Value.int .u8)) := app_take _ _ _ hx.len
  have A3 : Hid (((zs ++ leB 4 x).map (Value.int .u8)).take (n + 4) = (zs ++ leB 4 x).map (Value.int .u8)) := app_all _ _ _ _ hx.len (leB_length _ _)
  have A4 : Hid ((zs ++ leB 4 x).length = n + 4) := by show _ = _; rw [List.length_append, hx.len, leB_length]
  generalize zs ++ leB 4 x = zm at *
  have hr := room_any ao n c 4 zs w hx hc (by decide)
  go_enter Tryd.func83, Tryd.ntmps83
  go_wp2_with (first | (go_at_call 95; with_reducible refine (width_32 _).mono ?_; rintro e w' ⟨rfl, rfl⟩) | (go_at_call 94; refine hr.mono ?_; rintro e w1 ⟨v, rfl, hown, hbel⟩))
  go_loopw [5, 11] (fun v i wr => ∃ k : Nat, k ≤ 4 ∧ i = .int .i64 k ∧ wr.ownsRow w.heap.size 5 1 v (n + k) ((zm.map (Value.int .u8)).take (n + k)) ∧ Below w.heap.size w wr) (fun _ i _ => 4 - (intOf i).toNat)
  case atStart => exact ⟨0, Nat.zero_le _, rfl, by rw [Nat.add_zero, A2.out]; exact hown, hbel⟩
  case round =>
    clear hown hbel hx hr
    obtain ⟨k, hk, rfl, hown, hbel⟩ := hrel
    by_cases hlt : k < 4
    · have hsz := hbel.size
      have HZ : Hid (zm.getD (n + k) 0 = x / 256 ^ k % 256) := A1.out k hlt
      have i1 : (k : Int) < 4 := by omega
      go_wp2_with fail
      refine (byteAt_32 x hv k hlt wr).mono ?_
      rintro e w' ⟨rfl, rfl⟩
      go_wp2_with (at_builtin; refine wpList_append_own _ rfl _ _ 24 rfl w.heap.size 5 i0 (.int .u8 0) 1 1 Tryd.underlying24 hi hz0 hz1 hz2 rfl (by decide) _ _ _ rfl (hown.alloc _) ⟨wr.heap.size, 0, none⟩ 1 1 [.int .u8 (x / 256 ^ k % 256)] rfl rfl ?c1 ?c2 ?c3 ?c4 ?c5 ?_)
      case c1 => exact cell_one_new _ _ _
      case c2 => intro u hu; simp at hu; subst hu; rfl
      case c3 => unfold maxLen; omega
      case c4 => omega
      case c5 => simp; omega
      · intro v' w1 hown' hgrow _
        have R := step_own hbel hown (by have := A4.out; omega) HZ.out hown' hgrow
        clear hown' hgrow hown hbel
        go_wp2
        go_roundw
        case rel => exact ⟨k + 1, by omega, by go_num, R.1, R.2⟩
        case measure => simp [intOf] <;> omega
    · have e : k = 4 := by omega
      subst e
      have HO : Hid _ := hown
      have HB : Hid _ := hbel
      clear hown hbel
      go_wp2
      go_ret
      refine ⟨_, rfl, ?_, HB.out⟩
      have h := HO.out
      rwa [A3.out] at h
end Go.Proofs.YtmgkjldjeomcmaaDoor
