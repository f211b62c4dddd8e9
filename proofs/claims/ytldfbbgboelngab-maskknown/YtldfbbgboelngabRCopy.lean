/- The document's own Copy and Trade: new lists, picked bit by bit. -/
import Derived.Test.YtldfbbgboelngabTwins
import Derived.Deep.AppendLies
namespace Go.Proofs.Ytldfbbgboelngab
open Go.RowKit
set_option linter.unusedVariables false
attribute [local go_sem ↓] Go.wp_at_zero Go.wp_at_succ

theorem rcopy_len (m : Int) (a b : Option Addr) (n n' c c' : Nat) (hne : n ≠ n') (w : World) :
    Calls Try.prog 43 #[.int .u64 m, .slice a n c, .slice b n' c'] w fun e w' => e = .returned (.tuple #[.slice none 0 0, .int .i64 4]) ∧ w' = w := by
  have h : ((n : Int) != (n' : Int)) = true := by simp; omega
  go_enter Try.func43, Try.ntmps43
  go_wp2
  go_ret2
  exact ⟨rfl, rfl⟩

theorem ownsRow_below {w w' : World} {base : Nat} {e : TypeId} {size : Nat} {v : Value} {n : Nat} {xs : List Value} (h : w.ownsRow base e size v n xs) (hb : Below w.heap.size w w') : w'.ownsRow base e size v n xs := by
  refine ⟨h.1, ?_⟩
  rcases h.2 with h2 | ⟨g, cap, cur, hv, hg, hh, r⟩
  · exact .inl h2
  · exact .inr ⟨g, cap, cur, hv, hg, by rw [hb.block g (lt_of_block hh)]; exact hh, r⟩
theorem ownsRow_base {w : World} {base base' : Nat} {e : TypeId} {size : Nat} {v : Value} {n : Nat} {xs : List Value} (h : w.ownsRow base e size v n xs) (hb : base' ≤ base) : w.ownsRow base' e size v n xs := by
  refine ⟨h.1, ?_⟩
  rcases h.2 with h2 | ⟨g, cap, cur, hv, hg, r⟩
  · exact .inl h2
  · exact .inr ⟨g, cap, cur, hv, by omega, r⟩
theorem mixed_step {w wr w1 : World} {v v' : Value} {xs ys : List Int} {m Z : Int} {n k : Nat} {W : World}
    (hb : Below w.heap.size w wr) (hown : wr.ownsRow w.heap.size 5 1 v k (((mix m n xs ys).map (Value.int .u8)).take k)) (hk : k < n) (hx : xs.length = n) (hZ : pk m (ys.getD k 0) (xs.getD k 0) = Z)
    (hown' : w1.ownsRow w.heap.size 5 1 v' (k + 1) (((mix m n xs ys).map (Value.int .u8)).take k ++ [.int .u8 Z])) (hW : Below w.heap.size w W) (hg : W.grownBy w1 v.ownBlock) :
    w1.ownsRow w.heap.size 5 1 v' (k + 1) (((mix m n xs ys).map (Value.int .u8)).take (k + 1)) ∧ Below w.heap.size w w1 := by
  constructor
  · rw [List.take_succ_eq_append_getElem (by rw [List.length_map, mix_length]; omega)]
    have hl : k < (mix m n xs ys).length := by rw [mix_length]; omega
    have e : (mix m n xs ys)[k] = Z := by
      have := mix_getD m n xs ys k (by omega)
      rw [if_pos hk, hZ] at this
      rw [← this]; simp [List.getD, hl]
    rw [List.getElem_map, e]; exact hown'
  · exact hW.grown hg hW.size (fun j hj => (hown.lt j hj).1)

set_option maxHeartbeats 2000000 in
theorem rcopy_any (m : Int) (hm : Word m) (ao bo : Option Addr) (n c c' : Nat) (xs ys : List Int) (w : World) (hx : Seen w ao n xs) (hy : Seen w bo n ys) :
    Calls Try.prog 43 #[.int .u64 m, .slice ao n c, .slice bo n c'] w fun e w' => ∃ v, e = .returned (.tuple #[v, .int .i64 0]) ∧ w'.ownsRow w.heap.size 5 1 v n ((mix m n xs ys).map (Value.int .u8)) ∧ Below w.heap.size w w' := by
  have t1 := hx.top
  have HL : Hid (xs.length = n ∧ ys.length = n) := ⟨hx.len, hy.len⟩
  obtain ⟨i0, hi, hz0, hz1, hz2⟩ := info_parts info_byte
  go_enter Try.func43, Try.ntmps43
  go_wp2
  go_loopw [8, 9] (fun v i wr => ∃ k : Nat, k ≤ n ∧ i = .int .i64 k ∧ wr.ownsRow w.heap.size 5 1 v k (((mix m n xs ys).map (Value.int .u8)).take k) ∧ Below w.heap.size w wr) (fun _ i _ => n - (intOf i).toNat)
  case atStart => exact ⟨0, Nat.zero_le _, rfl, by simpa using World.ownsRow_nil _ _ _ _, Below.refl _ _⟩
  case round =>
    obtain ⟨k, hk, rfl, hown, hbel⟩ := hrel
    by_cases hlt : k < n
    · obtain ⟨b, o, rfl, hb, hc⟩ := hx.cells (by omega)
      obtain ⟨b', o', rfl, hb', hc'⟩ := hy.cells (by omega)
      have c1 := (hbel.cell (p := ⟨b, o + k, none⟩) hb).trans (hc k hlt)
      have c2 := (hbel.cell (p := ⟨b', o' + k, none⟩) hb').trans (hc' k hlt)
      have bX := hx.bytes.at k (by have := HL.out.1; omega)
      have bY := hy.bytes.at k (by have := HL.out.2; omega)
      have bZ := pk_bd8 m (ys.getD k 0) (xs.getD k 0) bY bX
      have HS := @mixed_step w wr
      obtain ⟨X, hX⟩ : ∃ X, xs.getD k 0 = X := ⟨_, rfl⟩
      obtain ⟨Y, hY⟩ : ∃ Y, ys.getD k 0 = Y := ⟨_, rfl⟩
      obtain ⟨Z, hZ⟩ : ∃ Z, pk m (ys.getD k 0) (xs.getD k 0) = Z := ⟨_, rfl⟩
      have HZ : Hid (pk m (ys.getD k 0) (xs.getD k 0) = Z) := hZ
      have HP : Hid (pk m Y X = Z) := by show _ = _; rw [← hX, ← hY]; exact hZ
      rw [hX] at c1 bX
      rw [hY] at c2 bY
      rw [hZ] at bZ
      have eZ : Z % 256 = Z := by omega
      have wX : Word X := ⟨by omega, by omega⟩
      have wY : Word Y := ⟨by omega, by omega⟩
      have vX : IntKind.u64.wrap X = X := by rw [IntKind.wrap_u64]; omega
      have vY : IntKind.u64.wrap Y = Y := by rw [IntKind.wrap_u64]; omega
      have vZ : IntKind.u8.wrap Z = Z := by rw [IntKind.wrap_u8']; omega
      have hsz := hbel.size
      have i1 : (0 : Int) ≤ (k : Int) := by omega
      have i2 : (k : Int) < (n : Int) := by omega
      have rp : ∀ W, Calls Try.prog 31 #[.int .u64 m, .int .u64 Y, .int .u64 X] W fun e w' => e = .returned (.int .u64 Z) ∧ w' = W := fun W => (rpick_any m Y X hm wY wX W).mono fun _ _ ⟨he, hw⟩ => ⟨by rw [he, HP.out], hw⟩
      clear hX hY hZ hc hc' hx hy HS
      have n1 := fun e => Nat.lt_irrefl _ (Nat.lt_of_lt_of_le hb (hown.lt b e).1)
      have n2 := fun e => Nat.lt_irrefl _ (Nat.lt_of_lt_of_le hb' (hown.lt b' e).1)
      have q1 := World.new_ne wr ⟨b, o + k, none⟩ c1
      have q2 := World.new_ne wr ⟨b', o' + k, none⟩ c2
      go_wp2
      go_region_held3 (fun w' => w'.cell? ⟨b, o + k, none⟩ = some (.int .u8 X) ∧ w'.cell? ⟨b', o' + k, none⟩ = some (.int .u8 Y)) (first | (go_keep; done) | (refine ⟨(World.grownBy.cell_far hgrow ⟨b, o + k, none⟩ (by simp; omega) (fun e => n1 e.symm)).trans ?_, (World.grownBy.cell_far hgrow ⟨b', o' + k, none⟩ (by simp; omega) (fun e => n2 e.symm)).trans ?_⟩ <;> go_keep)) (first | (go_at_call 31; refine (rp _).mono ?_; rintro e w' ⟨rfl, rfl⟩) | (refine step_append_lies _ (by rfl) (.tmp 21) (.tmp 35) 23 (by rfl) w.heap.size 5 i0 (.int .u8 0) 1 1 Try.underlying23 hi hz0 hz1 hz2 rfl (by decide) _ _ _ (by rfl) (hown.drew.alloc _) ⟨wr.heap.size, 0, none⟩ 1 1 [.int .u8 Z] (by rfl) rfl (cell_one_new _ _ _) (by intro u hu; simp at hu; subst hu; rfl) (by decide) (by unfold maxLen; omega) (by omega) (by simp; omega) _ rfl ?_; intro g cap w1 hown' hgrow hat hlt2))
      have R := mixed_step hbel hown hlt HL.out.1 HZ.out hown' ((hbel.alloc hsz _).drew) hgrow
      clear hown' hgrow hown hbel c1 c2 q1 q2 n1 n2 rp
      go_wp2
      go_roundw
      case rel => exact ⟨k + 1, by omega, by go_num, R.1, R.2⟩
      case measure => simp [intOf]; omega
    · have e : k = n := by omega
      subst e
      have HO : Hid _ := hown
      have HB : Hid _ := hbel
      clear hown hbel
      go_wp2
      go_ret2
      refine ⟨_, rfl, ?_, HB.out⟩
      have h := HO.out
      rwa [List.take_of_length_le (by have := HL.out.1; simp [mix_length]; omega)] at h

theorem rtrade_len (m : Int) (a b : Option Addr) (n n' c c' : Nat) (hne : n ≠ n') (w : World) :
    Calls Try.prog 44 #[.int .u64 m, .slice a n c, .slice b n' c'] w fun e w' => e = .returned (.tuple #[.slice none 0 0, .slice none 0 0, .int .i64 4]) ∧ w' = w := by
  have hne' : n' ≠ n := fun e => hne e.symm
  go_enter Try.func44, Try.ntmps44
  go_wp2_with fail
  refine (rcopy_len m a b n n' c c' hne w).mono ?_
  rintro e w ⟨rfl, rfl⟩
  go_wp2_with fail
  refine (rcopy_len m b a n' n c' c hne' _).mono ?_
  rintro e w ⟨rfl, rfl⟩
  go_wp2
  go_ret3
  exact ⟨rfl, rfl⟩
theorem rtrade_any (m : Int) (hm : Word m) (ao bo : Option Addr) (n c c' : Nat) (xs ys : List Int) (w : World) (hx : Seen w ao n xs) (hy : Seen w bo n ys) :
    Calls Try.prog 44 #[.int .u64 m, .slice ao n c, .slice bo n c'] w fun e w' => ∃ v v', e = .returned (.tuple #[v, v', .int .i64 0]) ∧
      w'.ownsRow w.heap.size 5 1 v n ((mix m n xs ys).map (Value.int .u8)) ∧ w'.ownsRow w.heap.size 5 1 v' n ((mix m n ys xs).map (Value.int .u8)) ∧ Below w.heap.size w w' := by
  go_enter Try.func44, Try.ntmps44
  go_wp2_with fail
  refine (rcopy_any m hm ao bo n c c' xs ys w hx hy).mono ?_
  rintro e w1 ⟨v, rfl, o1, b1⟩
  go_wp2_with fail
  refine (rcopy_any m hm bo ao n c' c ys xs w1 (hy.later b1 (Nat.le_refl _)) (hx.later b1 (Nat.le_refl _))).mono ?_
  rintro e w2 ⟨v', rfl, o2, b2⟩
  have R1 : Hid (w2.ownsRow w.heap.size 5 1 v n ((mix m n xs ys).map (Value.int .u8))) := ownsRow_below o1 b2
  have R2 : Hid (w2.ownsRow w.heap.size 5 1 v' n ((mix m n ys xs).map (Value.int .u8))) := ownsRow_base o2 b1.size
  have R3 : Hid (Below w.heap.size w w2) := b1.trans (b2.mono b1.size)
  clear o1 o2 b1 b2 hx hy
  go_wp2
  go_ret3
  exact ⟨_, _, rfl, R1.out, R2.out, R3.out⟩
end Go.Proofs.Ytldfbbgboelngab
