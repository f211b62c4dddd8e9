/- Layer network: waysOf of numbers, with a function that books what it was asked. -/
import Derived.Maps.AppendAt
import Derived.Test.YtlkpgbilepehmaaNWays
import Derived.Test.YtlkpgbilepehmaaNApart
import Derived.Test.YtlkpgbilepehmaaNSort
namespace Go.Proofs.Ytlkpgbilepehmaa
open Go.RowKit
set_option linter.unusedVariables false
set_option linter.unusedSimpArgs false

/-- The numbers by what stands where. -/
def izP (zs : List Int) (n : Nat) (P : Nat → Nat) : List Int := (List.range n).map fun q => zs.getD (P q) 0
theorem izP_length (zs : List Int) (n : Nat) (P : Nat → Nat) : (izP zs n P).length = n := by simp [izP]
theorem izP_id (zs : List Int) (n : Nat) (h : zs.length = n) : izP zs n id = zs := by
  refine List.ext_getElem (by simp [izP, h]) fun i h1 h2 => ?_
  simp [izP, List.getD, h2]
theorem izP_trade (zs : List Int) (n a b : Nat) (P : Nat → Nat) (ha : a < n) (hb : b < n) : trade (izP zs n P) a b = izP zs n (swP P a b) := by
  unfold trade
  have g : ∀ q, q < n → (izP zs n P).getD q 0 = zs.getD (P q) 0 := fun q hq => by simp [izP, List.getD, hq]
  rw [g b hb, g a ha]
  exact map_sw (fun i => zs.getD i 0) n a b P ha hb
/-- Which of the numbers are even. -/
def evn (zs : List Int) (i : Nat) : Bool := (zs.getD i 0).tmod 2 == 0
/-- What was asked so far, behind the box A. -/
structure Ask (W : World) (A : Nat) (v : Value) (l : List Int) : Prop where
  box : Boxed W A 44 v
  row : W.ownsRow (A + 1) 3 1 v l.length (l.map (Value.int .i64))
theorem Ask.kept {S : Nat → Prop} {W W' : World} {A : Nat} {v : Value} {l : List Int} (h : Ask W A v l) (hk : Kept S W W') (hA : ¬ S A) (hv : ∀ b, v.ownBlock = some b → ¬ S b) : Ask W' A v l :=
  ⟨(hk.block A h.box.lt hA).trans h.box, own_block h.row fun b hb => hk.block b (h.row.lt b hb).2 (hv b hb)⟩
theorem Ask.later {W W' : World} {A : Nat} {v : Value} {l : List Int} (h : Ask W A v l) (hb : Below W.heap.size W W') : Ask W' A v l :=
  ⟨(hb.block A h.box.lt).trans h.box, ownsRow_below h.row hb⟩
theorem own_sl {w : World} {base k sz : Nat} {e : TypeId} {v : Value} {xs : List Value} (h : w.ownsRow base e sz v k xs) : ∃ ao c, v = .slice ao k c := by
  rcases h.2 with ⟨rfl, h0⟩ | ⟨g, cap, cur, rfl, _⟩
  · exact ⟨none, 0, by rw [h0]⟩
  · exact ⟨_, cap, rfl⟩
/-- The old blocks that a question may change. -/
def AskS (A : Nat) (v : Value) (b : Nat) : Prop := b = A ∨ v.ownBlock = some b
set_option maxHeartbeats 1000000 in
theorem live1_even (z : Int) (A : Nat) (v : Value) (l : List Int) (W : World) (hA : Ask W A v l) (hl : l.length < 17592186044416) :
    Calls Try.prog 27 #[.int .i64 z, .pointer (some ⟨A, 0, none⟩)] W fun e W' => e = .returned (.bool (z.tmod 2 == 0)) ∧ ∃ v', Ask W' A v' (l ++ [z]) ∧ (v'.ownBlock = v.ownBlock ∨ ∀ b, v'.ownBlock = some b → W.heap.size ≤ b) ∧ Kept (AskS A v) W W' := by
  obtain ⟨i0, hi, hz0, hz1, hz2⟩ := info_parts info_int
  have cA := hA.box.cell
  have HA : Hid (Ask W A v l) := hA
  have hAlt := hA.box.lt
  clear hA
  go_enter Try.func27, Try.ntmps27
  go_wp2_with (at_builtin; refine wpList_append_own_at _ rfl _ _ 44 rfl (A + 1) 3 i0 (.int .i64 0) 1 8 Try.underlying44 hi hz0 hz1 hz2 rfl (by decide) _ l.length _ rfl (HA.out.row.alloc _) ⟨W.heap.size, 0, none⟩ 1 1 [.int .i64 z] rfl rfl (cell_one_newN _ _ _) (by simp [Value.oneCell']) (by simp only [maxLen]; omega) (by omega) (by simp; omega) ?_; intro v1 w1 o1 g1 hj1 hw1; clear hj1; obtain ⟨a1, c1, rfl⟩ := own_sl o1; have bA : Boxed w1 A 44 v := (g1.block A (by simp; omega) (fun e => by have := (HA.out.row.lt A e.symm).1; omega)).trans ((Below.heap_alloc _ _ _ hAlt).trans HA.out.box); have cA1 := bA.cell; have fA := bA.frozen)
  have R1 : Hid (Ask (w1.setCell ⟨A, 0, none⟩ (.slice a1 (l.length + 1) c1)) A (.slice a1 (l.length + 1) c1) (l ++ [z]) ∧ Kept (AskS A v) W (w1.setCell ⟨A, 0, none⟩ (.slice a1 (l.length + 1) c1))) := by
    have hne : ∀ b, (Value.slice a1 (l.length + 1) c1).ownBlock = some b → b ≠ A := fun b hb => by have := (o1.lt b hb).1; omega
    refine ⟨⟨bA.set _, ?_⟩, ?_⟩
    · rw [List.length_append, List.map_append]
      exact own_block o1 fun b hb => Below.heap_setCell _ _ _ _ (hne b hb)
    · have k1 : Kept (AskS A v) W w1 := ((Kept.refl _ W).alloc _).grown g1 (fun b hb _ => .inr hb)
      exact k1.setCell (p := ⟨A, 0, none⟩) (.inl rfl) _
  have R2 : Hid ((Value.slice a1 (l.length + 1) c1).ownBlock = v.ownBlock ∨ ∀ b, (Value.slice a1 (l.length + 1) c1).ownBlock = some b → W.heap.size ≤ b) := by
    rcases hw1 with h | h
    · exact .inl h
    · refine .inr fun b hb => ?_
      rw [h] at hb
      simp at hb
      omega
  clear o1 g1 hw1 bA cA1 fA
  go_wp2_with (fail)
  go_ret
  exact ⟨rfl, _, R1.out.1, R2.out, R1.out.2⟩
theorem Kept.setNew {S : Nat → Prop} {a w : World} (h : Kept S a w) {p : Addr} (hp : a.heap.size ≤ p.block) (u : Value) : Kept S a (w.setCell p u) :=
  ⟨h.os, h.tape, h.output, by simpa [World.setCell] using h.size, fun k hk hs => (Below.heap_setCell _ _ _ _ (by omega)).trans (h.block k hk hs)⟩
theorem askS_trans {w wr W : World} {A : Nat} {v v' : Value} (h : Kept (AskS A v) w wr) (h2 : Kept (AskS A v') wr W) (hv : v'.ownBlock = v.ownBlock ∨ ∀ b, v'.ownBlock = some b → w.heap.size < b) : Kept (AskS A v) w W :=
  ⟨h2.os.trans h.os, h2.tape.trans h.tape, h2.output.trans h.output, Nat.le_trans h.size h2.size, fun k hk hs => (h2.block k (Nat.lt_of_lt_of_le hk h.size) (fun e => by
    rcases e with e | e
    · exact hs (.inl e)
    · rcases hv with hv | hv
      · exact hs (.inr (hv ▸ e))
      · have := hv k e; omega)).trans (h.block k hk hs)⟩
set_option maxRecDepth 20000 in
set_option maxHeartbeats 2000000 in
theorem waysI_any (g0 n c0 A : Nat) (v : Value) (l zs : List Int) (w : World) (hr : RowI w g0 c0 zs) (hl0 : zs.length = n) (hn : n ≤ 65536) (hA : Ask w A v l) (hll : l.length ≤ 1048576) (h0A : g0 ≠ A) (h0v : v.ownBlock ≠ some g0) :
    Calls Try.prog 46 #[.slice (some ⟨g0, 0, none⟩) n c0, .func (.func 27) #[] #[.pointer (some ⟨A, 0, none⟩)]] w fun e w' => e = .returned (.slice (some ⟨w.heap.size, 0, none⟩) n n) ∧ RowI w' w.heap.size n (wyP (evn zs) n id) ∧
      ∃ v', Ask w' A v' (l ++ zs) ∧ (v'.ownBlock = v.ownBlock ∨ ∀ b, v'.ownBlock = some b → w.heap.size < b) ∧ Kept (AskS A v) w w' := by
  obtain ⟨i0, hi, hz0, hz1, hz2⟩ := info_parts info_int
  have HR : Hid (RowI w g0 c0 zs ∧ zs.length = n ∧ ¬ AskS A v g0 ∧ g0 < w.heap.size) := ⟨hr, hl0, fun e => by rcases e with e | e; exact h0A e; exact h0v e, hr.lt⟩
  have HA : Hid (Ask w A v l ∧ A < w.heap.size ∧ ∀ b, v.ownBlock = some b → b < w.heap.size) := ⟨hA, hA.box.lt, fun b hb => (hA.row.lt b hb).2⟩
  clear hr hA hl0 h0A h0v
  obtain ⟨live, hlv⟩ : ∃ live, evn zs = live := ⟨_, rfl⟩
  rw [hlv]
  have HL : Hid (evn zs = live) := hlv
  clear hlv
  go_enter Try.func46, Try.ntmps46
  go_wp2_with (at_make; refine wpList_make_full _ rfl _ _ 44 rfl w.heap.size 3 i0 (.int .i64 0) 1 Try.underlying44 hi hz0 hz1 .i64 .i64 _ _ n (by rfl) (by rfl) (by rfl) (by rfl) (by rw [hz2]; omega) (by unfold maxLen; omega) (Nat.le_refl _) ?_; intro w1 hown1 hgrow1)
  have r1 := made_ints w1 _ _ _ hown1
  rw [← wyK_zero live n] at r1
  have hB1 : Kept (AskS A v) w w1 := (Kept.refl _ w).grown hgrow1 (fun k e => by cases e)
  have hA1 : Ask w1 A v l := HA.out.1.later ((Below.refl _ w).grown hgrow1 (Nat.le_refl _) (fun j e => by cases e))
  clear hown1 hgrow1
  go_loopw [6, 14] (fun d i wr => ∃ k : Nat, i = .int .i64 (k : Int) ∧ k ≤ n ∧ d = .int .i64 ((dd live k : Nat) : Int) ∧ RowI wr w.heap.size n (wyK live n k) ∧ ∃ v', Ask wr A v' (l ++ zs.take k) ∧ (v'.ownBlock = v.ownBlock ∨ ∀ b, v'.ownBlock = some b → w.heap.size < b) ∧ Kept (AskS A v) w wr) (fun _ i _ => n - (intOf i).toNat)
  case atStart => exact ⟨0, rfl, by omega, rfl, r1, v, by simpa using hA1, .inl rfl, hB1⟩
  case round =>
    obtain ⟨k, rfl, hk, rfl, r2, v', hA2, hv2, hK2⟩ := hrel
    by_cases hlt : k < n
    · have c1 := (HR.out.1.block (hK2.block g0 HR.out.2.2.2 HR.out.2.2.1)).cell k (by rw [HR.out.2.1]; exact hlt)
      obtain ⟨z, hz⟩ : ∃ z, zs.getD k 0 = z := ⟨_, rfl⟩
      rw [hz] at c1
      have hdk := dd_le live k
      have dl : live k = true → dd live (k + 1) = dd live k := fun h => by rw [dd, if_pos h]; rfl
      have dn : live k = false → dd live (k + 1) = dd live k + 1 := fun h => by rw [dd, h]; rfl
      obtain ⟨D, hD⟩ : ∃ D, dd live k = D := ⟨_, rfl⟩
      rw [hD] at hdk dl dn ⊢
      have HD : Hid (dd live k = D ∧ (live k = true → dd live (k + 1) = D) ∧ (live k = false → dd live (k + 1) = D + 1)) := ⟨hD, dl, dn⟩
      have HT : Hid (zs.take (k + 1) = zs.take k ++ [z]) := by
        have hl : k < zs.length := by rw [HR.out.2.1]; exact hlt
        show zs.take (k + 1) = _
        rw [List.take_add_one, List.getElem?_eq_getElem hl]
        simp [← hz, List.getD, hl]
      have HV : Hid (live k = (z.tmod 2 == 0)) := by show live k = _; rw [← HL.out, evn, hz]
      have HQ := live1_even z A v' (l ++ zs.take k) wr hA2 (by rw [List.length_append, List.length_take]; omega)
      have HN : Hid (¬ AskS A v' w.heap.size) := fun e => by
        rcases e with e | e
        · have := HA.out.2.1; omega
        · rcases hv2 with h | h
          · have := HA.out.2.2 _ (h ▸ e); omega
          · have := h _ e; omega
      have HK2 : Hid (Kept (AskS A v) w wr ∧ (v'.ownBlock = v.ownBlock ∨ ∀ b, v'.ownBlock = some b → w.heap.size < b) ∧ w.heap.size < wr.heap.size) := ⟨hK2, hv2, r2.lt⟩
      have i1 : (0 : Int) ≤ (k : Int) := by omega
      have i2 : (k : Int) < (n : Int) := by omega
      clear dl dn hD hz hv2 hK2 hA2
      go_wp2_with (fail)
      refine HQ.mono ?_
      rintro e W3 ⟨rfl, v3, hA3, hv3, hK3⟩
      have r3 : RowI W3 w.heap.size n (wyK live n k) := r2.block (hK3.block _ HK2.out.2.2 HN.out)
      have HV3 : Hid (v3.ownBlock = v.ownBlock ∨ ∀ b, v3.ownBlock = some b → w.heap.size < b) := by
        rcases hv3 with h | h
        · rcases HK2.out.2.1 with h2 | h2
          · exact .inl (h.trans h2)
          · exact .inr fun b hb => h2 b (h ▸ hb)
        · exact .inr fun b hb => by have := h b hb; have := HK2.out.2.2; omega
      have HK3 : Hid (Kept (AskS A v) w W3) := askS_trans HK2.out.1 hK3 HK2.out.2.1
      have HA3 : Hid (Ask W3 A v3 (l ++ zs.take (k + 1))) := by show Ask _ _ _ _; rw [HT.out, ← List.append_assoc]; exact hA3
      clear hK3 hv3 hA3 c1 r2 HQ
      obtain ⟨t, ht⟩ : ∃ t, (z.tmod 2 == 0) = t := ⟨_, rfl⟩
      rw [ht]
      have HV' : Hid (live k = t) := HV.out.trans ht
      clear ht
      cases t with
      | true =>
        have hl := HV'.out
        have HS : Hid (RowI (W3.setCell ⟨w.heap.size, k, none⟩ (.int .i64 (D : Int))) w.heap.size n (wyK live n (k + 1)) ∧ Ask (W3.setCell ⟨w.heap.size, k, none⟩ (.int .i64 (D : Int))) A v3 (l ++ zs.take (k + 1)) ∧ Kept (AskS A v) w (W3.setCell ⟨w.heap.size, k, none⟩ (.int .i64 (D : Int)))) := by
          refine ⟨?_, ⟨(Below.heap_setCell _ _ _ _ (by have := HA.out.2.1; show A ≠ w.heap.size; omega)).trans HA3.out.box, own_block HA3.out.row fun b hb => Below.heap_setCell _ _ _ _ (fun e => ?_)⟩, HK3.out.setNew (Nat.le_refl _) _⟩
          · rw [← wyK_live live n k hlt hl, HD.out.1]
            exact r3.set k (by rw [wyK_length]; exact hlt) _
          · have e2 : b = w.heap.size := e
            rcases HV3.out with h | h
            · have := HA.out.2.2 b (h ▸ hb); omega
            · have := h b hb; omega
        have c3 := r3.cell k (by rw [wyK_length]; exact hlt)
        have f3 := r3.frozen k
        clear r3 hl
        go_wp2_with (fail)
        go_roundw
        case rel => exact ⟨k + 1, by go_num, by omega, by rw [HD.out.2.1 HV'.out], HS.out.1, v3, HS.out.2.1, HV3.out, HS.out.2.2⟩
        case measure => simp [intOf]; omega
      | false =>
        go_wp2_with (fail)
        go_roundw
        case rel => exact ⟨k + 1, by go_num, by omega, by rw [HD.out.2.2 HV'.out]; go_num, by rw [← wyK_dead live n k HV'.out]; exact r3, v3, HA3.out, HV3.out, HK3.out⟩
        case measure => simp [intOf]; omega
    · obtain rfl : k = n := by omega
      rw [wyK_full] at r2
      rw [List.take_of_length_le (by rw [HR.out.2.1]; exact Nat.le_refl _)] at hA2
      clear hlt hk
      go_wp2_with (fail)
      go_ret
      exact ⟨rfl, r2, v', hA2, hv2, hK2⟩
end Go.Proofs.Ytlkpgbilepehmaa
