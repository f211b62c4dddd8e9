/- Layer octet: the statements' lent, still, same. -/
import Derived.Test.YtpjnimmclncdoaaOPut
namespace Go.Proofs.Ytpjnimmclncdoaa
open Go.RowKit
set_option linter.unusedVariables false
set_option linter.unusedSimpArgs false

theorem take_same_succ (xs ys : List Int) (k : Nat) (hx : k < xs.length) (hy : k < ys.length) : (xs.take (k + 1) = ys.take (k + 1)) ↔ (xs.take k = ys.take k ∧ xs.getD k 0 = ys.getD k 0) := by
  rw [List.take_succ_eq_append_getElem hx, List.take_succ_eq_append_getElem hy]
  have e1 : xs.getD k 0 = xs[k] := by simp [List.getD, hx]
  have e2 : ys.getD k 0 = ys[k] := by simp [List.getD, hy]
  rw [e1, e2]
  constructor
  · intro h
    have := List.append_inj h (by simp; omega)
    simpa using this
  · rintro ⟨h1, h2⟩; rw [h1, h2]
set_option maxHeartbeats 1000000 in
theorem same_any (ao bo : Option Addr) (n n' c c' : Nat) (xs ys : List Int) (w : World) (hx : Seen w ao n xs) (hy : Seen w bo n' ys) :
    Calls Try.prog 11 #[.slice ao n c, .slice bo n' c'] w fun e w' => e = .returned (.bool (decide (xs = ys))) ∧ ∃ q, w' = w.drewN q := by
  have t1 := hx.top
  have t2 := hy.top
  by_cases hne : n = n'
  · subst hne
    have HL : Hid (xs.length = n ∧ ys.length = n) := ⟨hx.len, hy.len⟩
    go_enter Try.func11, Try.ntmps11
    go_wp2
    go_loopw [5] (fun i wr => ∃ k : Nat, k ≤ n ∧ i = .int .i64 k ∧ xs.take k = ys.take k ∧ ∃ q, wr = w.drewN q) (fun i _ => n - (intOf i).toNat)
    case atStart => exact ⟨0, Nat.zero_le _, rfl, by simp, 0, rfl⟩
    case round =>
      obtain ⟨k, hk, rfl, hs, q, rfl⟩ := hrel
      by_cases hlt : k < n
      · obtain ⟨b, o, rfl, hb, hc⟩ := hx.cells (by omega)
        obtain ⟨b', o', rfl, hb', hc'⟩ := hy.cells (by omega)
        have c1 := hc k hlt
        have c2 := hc' k hlt
        have HT := take_same_succ xs ys k (by have := HL.out.1; omega) (by have := HL.out.2; omega)
        obtain ⟨X, hX⟩ : ∃ X, xs.getD k 0 = X := ⟨_, rfl⟩
        obtain ⟨Y, hY⟩ : ∃ Y, ys.getD k 0 = Y := ⟨_, rfl⟩
        rw [hX] at c1 HT
        rw [hY] at c2 HT
        have HS : Hid (xs.take k = ys.take k) := hs
        have HT' : Hid (xs.take (k + 1) = ys.take (k + 1) ↔ xs.take k = ys.take k ∧ X = Y) := HT
        have i1 : (0 : Int) ≤ (k : Int) := by omega
        have i2 : (k : Int) < (n : Int) := by omega
        clear hX hY hc hc' hx hy hs HT hb hb'
        by_cases e : X = Y
        · have hd : (X != Y) = false := by simp [e]
          have HE : Hid (X = Y) := e
          clear e
          go_wp2
          go_quiet (fail)
          go_wp2
          go_roundw
          case rel => exact ⟨k + 1, by omega, by go_num, HT'.out.2 ⟨HS.out, HE.out⟩, _, rfl⟩
          case measure => simp [intOf]; omega
        · have hd : (X != Y) = true := by simp [e]
          have HE : Hid (¬ X = Y) := e
          clear e
          have HN : Hid (decide (xs = ys) = false) := by
            show _ = _
            apply decide_eq_false
            intro h
            exact HE.out (HT'.out.1 (by rw [h])).2
          go_wp2
          go_quiet (fail)
          go_wp2
          go_ret
          exact ⟨ret_bool HN.out.symm, _, World.drewN_drewN _ _ _⟩
      · have HE : Hid (decide (xs = ys) = true) := by
          show _ = _
          apply decide_eq_true
          have e1 : xs.take k = xs := List.take_of_length_le (by have := HL.out.1; omega)
          have e2 : ys.take k = ys := List.take_of_length_le (by have := HL.out.2; omega)
          rw [← e1, ← e2]; exact hs
        clear hs
        go_wp2
        go_ret
        exact ⟨ret_bool HE.out.symm, _, rfl⟩
  · have h : ((n : Int) != (n' : Int)) = true := by simp; omega
    have HN : Hid (decide (xs = ys) = false) := by
      show _ = _
      apply decide_eq_false
      intro h
      exact hne (by rw [← hx.len, ← hy.len, h])
    go_enter Try.func11, Try.ntmps11
    go_wp2
    go_ret
    exact ⟨ret_bool HN.out.symm, 0, rfl⟩
theorem same_yes (ao bo : Option Addr) (n n' c c' : Nat) (xs : List Int) (w : World) (hx : Seen w ao n xs) (hy : Seen w bo n' xs) :
    Calls Try.prog 11 #[.slice ao n c, .slice bo n' c'] w fun e w' => e = .returned (.bool true) ∧ ∃ q, w' = w.drewN q :=
  (same_any ao bo n n' c c' xs xs w hx hy).mono fun e w' ⟨he, hq⟩ => ⟨by rw [he]; simp, hq⟩

/-- The marks behind what lent lends. -/
def marks : List Int := (List.range 90).map fun i => ((160 + i % 80 : Nat) : Int)
theorem marks_length : marks.length = 90 := by simp [marks]
theorem marks_getD (k : Nat) (hk : k < 90) : marks.getD k 0 = 160 + (k : Int) % 80 := by simp [marks, List.getD, hk]
theorem marks_bytes : Bytes marks := by
  intro z hz
  simp only [marks, List.mem_map, List.mem_range] at hz
  obtain ⟨i, hi, rfl⟩ := hz
  omega
theorem bytes_marks {xs : List Int} (h : Bytes xs) : Bytes (xs ++ marks) := bytes_app h marks_bytes

set_option maxHeartbeats 2000000 in
set_option maxRecDepth 20000 in
theorem lent_any (ao : Option Addr) (n c : Nat) (zs : List Int) (w : World) (hx : Seen w ao n zs) (hc : ao = none → c = 0) (hn : n + 90 ≤ 140737488355328) :
    Calls Try.prog 8 #[.slice ao n c] w fun e w' => ∃ g cap, e = .returned (.slice (some ⟨g, 0, none⟩) n cap) ∧ RowAt w' g (zs ++ marks) ∧ w.heap.size ≤ g ∧ n + 90 ≤ cap ∧ cap ≤ maxLen ∧ Below w.heap.size w w' := by
  obtain ⟨i0, hi, hz0, hz1, hz2⟩ := info_parts info_byte
  have A1 : Hid (∀ k, k < 90 → (zs ++ marks).getD (n + k) 0 = 160 + (k : Int) % 80) := fun k hk => by rw [app_getD _ _ _ _ hx.len, marks_getD _ hk]
  have A2 : Hid (((zs ++ marks).map (Value.int .u8)).take n = zs.map (Value.int .u8)) := app_take _ _ _ hx.len
  have A3 : Hid (((zs ++ marks).map (Value.int .u8)).take (n + 90) = (zs ++ marks).map (Value.int .u8)) := app_all _ _ _ _ hx.len marks_length
  have A4 : Hid ((zs ++ marks).length = n + 90) := by show _ = _; rw [List.length_append, hx.len, marks_length]
  generalize zs ++ marks = zm at *
  have HC : Hid (ao = none → c = 0) := hc
  clear hc
  go_enter Try.func8, Try.ntmps8
  go_wp2_with (at_builtin; refine wpList_append_seen rfl _ _ rfl w.heap.size _ 0 [] rfl (World.ownsRow_nil _ _ _ _) ao n c zs rfl hx HC.out (by omega) (Nat.le_refl _) ?_)
  intro v w1 hown hgrow
  have hbel : Below w.heap.size w w1 := below_grown (Below.refl _ _) (World.ownsRow_nil _ _ _ _) hgrow
  try simp only [Nat.zero_add, List.nil_append] at hown
  clear hgrow
  go_wp2
  go_loopw [3, 4] (fun v i wr => ∃ k : Nat, k ≤ 90 ∧ i = .int .i64 k ∧ wr.ownsRow w.heap.size 5 1 v (n + k) ((zm.map (Value.int .u8)).take (n + k)) ∧ Below w.heap.size w wr) (fun _ i _ => 90 - (intOf i).toNat)
  case atStart => exact ⟨0, Nat.zero_le _, rfl, by rw [Nat.add_zero, A2.out]; exact hown, hbel⟩
  case round =>
    clear hown hbel hx
    obtain ⟨k, hk, rfl, hown, hbel⟩ := hrel
    by_cases hlt : k < 90
    · have hsz := hbel.size
      have HZ : Hid (zm.getD (n + k) 0 = 160 + (k : Int) % 80) := A1.out k hlt
      have e1 : (160 + (k : Int) % 80) % 256 = 160 + (k : Int) % 80 := by omega
      go_wp2_with (at_builtin; refine wpList_append_own _ rfl _ _ 41 rfl w.heap.size 5 i0 (.int .u8 0) 1 1 Try.underlying41 hi hz0 hz1 hz2 rfl (by decide) _ _ _ rfl (hown.alloc _) ⟨wr.heap.size, 0, none⟩ 1 1 [.int .u8 (160 + (k : Int) % 80)] rfl rfl ?c1 ?c2 ?c3 ?c4 ?c5 ?_)
      case c1 => exact cell_one_new _ _ _
      case c2 => intro u hu; simp at hu; subst hu; rfl
      case c3 => unfold maxLen; omega
      case c4 => omega
      case c5 => simp; omega
      · intro v' w1 hown' hgrow _
        have R := step_own hbel hown (by have := A4.out; omega) HZ.out hown' hgrow
        clear hown' hgrow hown hbel
        go_wp2
        go_roundw
        case rel => exact ⟨k + 1, by omega, by go_num, R.1, R.2⟩
        case measure => simp [intOf]; omega
    · have e : k = 90 := by omega
      subst e
      rw [A3.out] at hown
      rcases own_len A4.out hown with ⟨_, h⟩ | ⟨g, cap, rfl, hr, hg, hc, hm⟩
      · omega
      · have HB : Hid _ := hbel
        have HR : Hid _ := hr
        have i1 : (n : Int) ≤ (cap : Int) := by omega
        clear hown hbel hr
        go_wp2
        go_ret
        exact ⟨g, cap, rfl, HR.out, hg, hc, hm, HB.out⟩

/-- still: is what was lent as it was? -/
theorem still_yes (g n cap : Nat) (bo : Option Addr) (c' : Nat) (zs : List Int) (w : World) (hg : RowAt w g (zs ++ marks)) (hcap : n + 90 ≤ cap) (hm : cap ≤ maxLen) (hz : Seen w bo n zs) :
    Calls Try.prog 12 #[.slice (some ⟨g, 0, none⟩) n cap, .slice bo n c'] w fun e w' => e = .returned (.bool true) ∧ ∃ q, w' = w.drewN q := by
  have t1 := hz.top
  have HL : Hid (zs.length = n) := hz.len
  have A1 : Hid (∀ k, k < n → w.cell? ⟨g, k, none⟩ = some (.int .u8 (zs.getD k 0))) := fun k hk => by
    rw [hg.cell k (by have := hz.len; simp; omega)]
    have : k < zs.length := by have := hz.len; omega
    simp [List.getD, List.getElem?_append, this]
  have A2 : Hid (∀ k, k < 90 → w.cell? ⟨g, n + k, none⟩ = some (.int .u8 (160 + (k : Int) % 80))) := fun k hk => by
    rw [hg.cell (n + k) (by have := hz.len; have := marks_length; simp; omega), app_getD _ _ _ _ hz.len, marks_getD _ hk]
  have hcI : (n : Int) + 90 ≤ (cap : Int) := by omega
  unfold maxLen at hm
  clear hg
  go_enter Try.func12, Try.ntmps12
  go_wp2
  go_loopw [6] (fun i wr => ∃ k : Nat, k ≤ n + 90 ∧ i = .int .i64 k ∧ ∃ q, wr = w.drewN q) (fun i _ => n + 90 - (intOf i).toNat)
  case atStart => exact ⟨0, Nat.zero_le _, rfl, 0, rfl⟩
  case round =>
    obtain ⟨k, hk, rfl, q, rfl⟩ := hrel
    by_cases hlt : k < n
    · obtain ⟨b, o, rfl, hb, hc⟩ := hz.cells (by omega)
      have c1 := A1.out k hlt
      have c2 := hc k hlt
      obtain ⟨X, hX⟩ : ∃ X, zs.getD k 0 = X := ⟨_, rfl⟩
      rw [hX] at c1 c2
      have i1 : (0 : Int) ≤ (k : Int) := by omega
      have i2 : (k : Int) < (n : Int) := by omega
      have i3 : (k : Int) < (n : Int) + 90 := by omega
      have d1 : decide (n ≤ k) = false := by simp; omega
      clear hX hc hb hz
      go_wp2
      go_quiet (fail)
      go_wp2
      go_roundw
      case rel => exact ⟨k + 1, by omega, by go_num, _, rfl⟩
      case measure => simp [intOf]; omega
    · by_cases hlt2 : k < n + 90
      · obtain ⟨p, rfl⟩ : ∃ p, k = n + p := ⟨k - n, by omega⟩
        have c1 := A2.out p (by omega)
        have e1 : ((n + p : Nat) : Int) = (n : Int) + (p : Int) := by omega
        rw [e1]
        have e2 : (n : Int) + (p : Int) - (n : Int) = (p : Int) := by omega
        have e3 : (160 + (p : Int) % 80) % 256 = 160 + (p : Int) % 80 := by omega
        have i1 : (0 : Int) ≤ (n : Int) + (p : Int) := by omega
        have d1 : decide ((n : Int) + (p : Int) < (n : Int)) = false := by simp; omega
        have i3 : (n : Int) + (p : Int) < (n : Int) + 90 := by omega
        have i4 : (n : Int) ≤ (n : Int) + (p : Int) := by omega
        clear hz
        go_wp2
        go_quiet (fail)
        go_wp2
        go_roundw
        case rel => exact ⟨n + p + 1, by omega, by go_num, _, rfl⟩
        case measure => simp [intOf]; omega
      · go_wp2
        go_ret
        exact ⟨rfl, _, rfl⟩
/-- The bytes that were lent, seen; written. -/
theorem Seen.lent {w : World} {g n : Nat} {ys : List Int} (h : RowAt w g (ys ++ marks)) (hl : ys.length = n) (hb : Bytes ys) (ht : n ≤ 140737488355328) : Seen w (some ⟨g, 0, none⟩) n ys := by
  have h1 := h.take n
  rw [List.take_append_of_le_length (by omega), List.take_of_length_le (by omega)] at h1
  have := Seen.of_row (n := n) h1 (by omega) ht hb
  rwa [List.take_of_length_le (by omega)] at this
theorem bytes_set {us : List Int} (h : Bytes us) (m : Nat) (z : Int) (hz : 0 ≤ z ∧ z < 256) : Bytes (us.set m z) := by
  intro y hy
  rcases List.mem_or_eq_of_mem_set hy with h1 | h1
  · exact h y h1
  · rw [h1]; exact hz
theorem RowAt.lentSet {w : World} {g m : Nat} {us : List Int} (h : RowAt w g (us ++ marks)) (hm : m < us.length) (z : Int) : RowAt (w.setCell ⟨g, m, none⟩ (.int .u8 z)) g (us.set m z ++ marks) := by
  have h1 := h.set m (by simp; omega) z
  rwa [List.set_append_left _ _ hm] at h1
theorem RowAt.lentCell {w : World} {g m : Nat} {us : List Int} (h : RowAt w g (us ++ marks)) (hm : m < us.length) : w.cell? ⟨g, m, none⟩ = some (.int .u8 (us.getD m 0)) := by
  rw [h.cell m (by simp; omega)]
  simp [List.getD, List.getElem?_append, hm]
theorem xor8_bd (x y : Int) (hx : 0 ≤ x ∧ x < 256) (hy : 0 ≤ y ∧ y < 256) : 0 ≤ bits .xor .u8 x y ∧ bits .xor .u8 x y < 256 := by
  rw [u8_xor x y hx.1 hx.2 hy.1 hy.2]
  have : x.toNat ^^^ y.toNat < 2 ^ 8 := Nat.xor_lt_two_pow (by omega) (by omega)
  omega
end Go.Proofs.Ytpjnimmclncdoaa
