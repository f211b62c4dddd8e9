/- For every word and two lists of bytes: two trades by one word give both lists back, a mask exchanges them or leaves them, what is copied by all ones is the same; of lists of unlike lengths Trade answers ErrLength: trystlaw01.MaskTrades returns true. No condition. -/
import Derived.Test.YtldfbbgboelngabLent
import Derived.ProofKit
import Derived.OpenShut
import Derived.ShutString
import Derived.ChangeOld
import Derived.SizedLaws
namespace Go.Proofs.Ytldfbbgboelngab.maskTrades
open Go.ChangeShapes Go.WideShapes Go.ChangeAt Go.RowKit
set_option linter.unusedVariables false

theorem mix_ext {n : Nat} {xs zs : List Int} (hx : xs.length = n) (hz : zs.length = n) (h : ∀ i, i < n → xs.getD i 0 = zs.getD i 0) : xs = zs := by
  apply List.ext_getElem (by omega)
  intro i h1 h2
  have := h i (by omega)
  simpa [List.getD, h1, h2] using this
theorem mix_back (m : Int) (n : Nat) (xs ys : List Int) (hx : xs.length = n) (hy : ys.length = n) (bx : Bytes xs) : mix m n (mix m n xs ys) (mix m n ys xs) = xs := by
  refine mix_ext (n := n) (by rw [mix_length, mix_length, hx]) hx (fun i hi => ?_)
  rw [mix_getD _ _ _ _ _ (by rw [mix_length]; omega), if_pos hi, mix_getD _ _ _ _ _ (by omega), if_pos hi, mix_getD _ _ _ _ _ (by omega), if_pos hi]
  exact pk_back m _ _ (bx.at i (by omega)).1
theorem mix_ones (n : Nat) (xs ys : List Int) (hx : xs.length = n) (hy : ys.length = n) (bx : Bytes xs) (bY : Bytes ys) : mix 18446744073709551615 n xs ys = ys := by
  refine mix_ext (n := n) (by rw [mix_length, hx]) hy (fun i hi => ?_)
  rw [mix_getD _ _ _ _ _ (by omega), if_pos hi]
  have h1 := bx.at i (by omega)
  have h2 := bY.at i (by omega)
  exact pk_ones _ _ ⟨by omega, by omega⟩ ⟨by omega, by omega⟩
theorem mix_none (n : Nat) (xs ys : List Int) (hx : xs.length = n) (bx : Bytes xs) : mix 0 n xs ys = xs := by
  refine mix_ext (n := n) (by rw [mix_length, hx]) hx (fun i hi => ?_)
  rw [mix_getD _ _ _ _ _ (by omega), if_pos hi]
  exact pk_zero _ _ (bx.at i (by omega)).1

/-- Two lists of the call's own, apart from one another: what stands in them now. -/
structure Two (w0 w : World) (vo uo : Option Addr) (n : Nat) (xs ys : List Int) : Prop where
  lx : xs.length = n
  ly : ys.length = n
  bx : Bytes xs
  bY : Bytes ys
  top : n ≤ 140737488355328
  rows : 0 < n → ∃ g h, vo = some ⟨g, 0, none⟩ ∧ uo = some ⟨h, 0, none⟩ ∧ g ≠ h ∧ w0.heap.size ≤ g ∧ w0.heap.size ≤ h ∧ RowAt w g xs ∧ RowAt w h ys
  bel : Below w0.heap.size w0 w
theorem Two.drewN {w0 w : World} {vo uo : Option Addr} {n : Nat} {xs ys : List Int} (t : Two w0 w vo uo n xs ys) (k : Nat) : Two w0 (w.drewN k) vo uo n xs ys :=
  ⟨t.lx, t.ly, t.bx, t.bY, t.top, t.rows, below_dn t.bel k⟩
theorem Two.seen1 {w0 w : World} {vo uo : Option Addr} {n : Nat} {xs ys : List Int} (t : Two w0 w vo uo n xs ys) : Seen w vo n xs :=
  ⟨t.lx, t.top, t.bx, fun hn => by
    obtain ⟨g, h, e1, e2, _, _, _, r1, r2⟩ := t.rows hn
    exact ⟨g, 0, e1, r1.lt, fun i hi => by rw [Nat.zero_add]; exact r1.cell i (by rw [t.lx]; exact hi)⟩⟩
theorem Two.seen2 {w0 w : World} {vo uo : Option Addr} {n : Nat} {xs ys : List Int} (t : Two w0 w vo uo n xs ys) : Seen w uo n ys :=
  ⟨t.ly, t.top, t.bY, fun hn => by
    obtain ⟨g, h, e1, e2, _, _, _, r1, r2⟩ := t.rows hn
    exact ⟨h, 0, e2, r2.lt, fun i hi => by rw [Nat.zero_add]; exact r2.cell i (by rw [t.ly]; exact hi)⟩⟩
theorem two_trade (m : Int) (hm : Word m) {w0 w : World} {vo uo : Option Addr} {n c c' : Nat} {xs ys X Y : List Int} (t : Two w0 w vo uo n xs ys) (hX : mix m n xs ys = X) (hY : mix m n ys xs = Y) :
    Calls Try.prog 13 #[.int .u64 m, .slice vo n c, .slice uo n c'] w fun e w' => e = .returned (.int .i64 0) ∧ Two w0 w' vo uo n X Y := by
  subst hX hY
  have l1 : (mix m n xs ys).length = n := by rw [mix_length, t.lx]
  have l2 : (mix m n ys xs).length = n := by rw [mix_length, t.ly]
  have m1 := mix_bytes m n xs ys t.bx t.bY
  have m2 := mix_bytes m n ys xs t.bY t.bx
  by_cases hn : 0 < n
  · obtain ⟨g, h, rfl, rfl, hgh, hg, hh, r1, r2⟩ := t.rows hn
    refine (trade_any m hm g h n c c' xs ys hgh (by rw [t.lx]; exact Nat.le_refl _) (by rw [t.ly]; exact Nat.le_refl _) t.bx t.bY (by have := t.top; unfold maxLen; omega) w r1 r2).mono ?_
    rintro e w' ⟨he, r1', r2', hk⟩
    exact ⟨he, l1, l2, m1, m2, t.top, fun _ => ⟨g, h, rfl, rfl, hgh, hg, hh, r1', r2'⟩, t.bel.trans (hk.below t.bel.size (fun k hk => by omega))⟩
  · have e : n = 0 := by omega
    subst e
    refine (trade_none m vo uo c c' w).mono ?_
    rintro e w' ⟨he, rfl⟩
    exact ⟨he, l1, l2, m1, m2, t.top, fun h => by omega, t.bel⟩
theorem two_copy (m : Int) (hm : Word m) {w0 w : World} {vo uo : Option Addr} {n c c' : Nat} {xs ys X : List Int} (t : Two w0 w vo uo n xs ys) (hX : mix m n xs ys = X) :
    Calls Try.prog 16 #[.int .u64 m, .slice vo n c, .slice uo n c'] w fun e w' => e = .returned (.int .i64 0) ∧ Two w0 w' vo uo n X ys := by
  subst hX
  have l1 : (mix m n xs ys).length = n := by rw [mix_length, t.lx]
  have m1 := mix_bytes m n xs ys t.bx t.bY
  by_cases hn : 0 < n
  · obtain ⟨g, h, rfl, rfl, hgh, hg, hh, r1, r2⟩ := t.rows hn
    refine (copy_any m hm g h 0 n c c' xs ys (fun e => hgh e.symm) (by rw [t.lx]; exact Nat.le_refl _) (by rw [t.ly]; exact Nat.le_refl _) t.bx t.bY (by have := t.top; unfold maxLen; omega) w r1 r2.lt (fun i hi => by rw [Nat.zero_add]; exact r2.cell i (by rw [t.ly]; exact hi))).mono ?_
    rintro e w' ⟨he, r1', hk⟩
    exact ⟨he, l1, t.ly, m1, t.bY, t.top, fun _ => ⟨g, h, rfl, rfl, hgh, hg, hh, r1', r2.kept hk (fun e => hgh e.symm)⟩, t.bel.trans (hk.below t.bel.size (fun k hk => by omega))⟩
  · have e : n = 0 := by omega
    subst e
    refine (copy_none m vo uo c c' w).mono ?_
    rintro e w' ⟨he, rfl⟩
    exact ⟨he, l1, t.ly, m1, t.bY, t.top, fun h => by omega, t.bel⟩
theorem rsame_yes (ao bo : Option Addr) (n c c' : Nat) (xs : List Int) (w : World) (hx : Seen w ao n xs) (hy : Seen w bo n xs) :
    Calls Try.prog 15 #[.slice ao n c, .slice bo n c'] w fun e w' => e = .returned (.bool true) ∧ ∃ q, w' = w.drewN q :=
  (rsame_any ao bo n n c c' xs xs w hx hy).mono fun e w' ⟨he, hq⟩ => ⟨by rw [he]; simp, hq⟩
theorem same_yes (ao bo : Option Addr) (n c c' : Nat) (xs : List Int) (w : World) (hx : Seen w ao n xs) (hy : Seen w bo n xs) :
    Calls Try.prog 11 #[.slice ao n c, .slice bo n c'] w fun e w' => e = .returned (.int .u64 18446744073709551615) ∧ ∃ q, w' = w.drewN q :=
  (same_any ao bo n n c c' xs xs w hx hy).mono fun e w' ⟨he, hq⟩ => ⟨by rw [he]; simp [mk_true], hq⟩
theorem Seen.since {w0 w : World} {ao : Option Addr} {n : Nat} {zs : List Int} (h : Seen w0 ao n zs) (hb : Below w0.heap.size w0 w) : Seen w ao n zs := h.later hb (Nat.le_refl _)

set_option maxHeartbeats 2000000 in
theorem walk_len (m : Int) (ao : Option Addr) (n c : Nat) (xs : List Int) (bo : Option Addr) (n' c' : Nat) (ys : List Int) (w : World) (hm : Word m) (hx : Seen w ao n xs) (hy : Seen w bo n' ys) (hne : n ≠ n') :
    Calls Try.prog 4 #[.int .u64 m, .slice ao n c, .slice bo n' c'] w fun e w' => e = .returned (.bool true) ∧ Below w.heap.size w w' := by
  have h : ((n : Int) != (n' : Int)) = true := by simp; omega
  go_enter Try.func4, Try.ntmps4
  go_wp2_with fail
  refine (twin_own ao n c xs w hx).mono ?_
  rintro e w1 ⟨v, rfl, o1, b1⟩
  obtain ⟨vo, cv, rfl, _, _⟩ := own_seen hx.len hx.bytes hx.top o1
  go_wp2_with fail
  refine (twin_own bo n' c' ys w1 (hy.later b1 (Nat.le_refl _))).mono ?_
  rintro e w2 ⟨u, rfl, o2, b2⟩
  obtain ⟨uo, cu, rfl, _, _⟩ := own_seen hy.len hy.bytes hy.top o2
  go_wp2_with fail
  refine (trade_len m vo uo n n' cv cu hne w2).mono ?_
  rintro e w2 ⟨rfl, rfl⟩
  go_wp2_with fail
  refine (works_any _).mono ?_
  rintro e w3 ⟨rfl, b3⟩
  have HB : Hid (Below w.heap.size w w3) := b1.trans ((b2.trans (b3.mono b2.size)).mono b1.size)
  go_wp2
  go_ret
  exact ⟨rfl, HB.out⟩

set_option maxHeartbeats 4000000 in
theorem walk_eq (m : Int) (ao : Option Addr) (n c : Nat) (xs : List Int) (bo : Option Addr) (c' : Nat) (ys : List Int) (w : World) (hm : Word m) (hx : Seen w ao n xs) (hy : Seen w bo n ys) :
    Calls Try.prog 4 #[.int .u64 m, .slice ao n c, .slice bo n c'] w fun e w' => e = .returned (.bool true) ∧ Below w.heap.size w w' := by
  have M1 : Hid (mix m n (mix m n xs ys) (mix m n ys xs) = xs) := mix_back m n xs ys hx.len hy.len hx.bytes
  have M2 : Hid (mix m n (mix m n ys xs) (mix m n xs ys) = ys) := mix_back m n ys xs hy.len hx.len hy.bytes
  have M3 : Hid (mix 18446744073709551615 n xs ys = ys) := mix_ones n xs ys hx.len hy.len hx.bytes hy.bytes
  have M4 : Hid (mix 18446744073709551615 n ys xs = xs) := mix_ones n ys xs hy.len hx.len hy.bytes hx.bytes
  have M5 : Hid (mix 0 n xs ys = xs) := mix_none n xs ys hx.len hx.bytes
  have M6 : Hid (mix 0 n ys xs = ys) := mix_none n ys xs hy.len hy.bytes
  have W1 : Hid (Word 18446744073709551615) := by show _ ∧ _; decide
  have W0 : Hid (Word 0) := by show _ ∧ _; decide
  go_enter Try.func4, Try.ntmps4
  go_wp2_with fail
  refine (twin_own ao n c xs w hx).mono ?_
  rintro e w1 ⟨v, rfl, o1, b1⟩
  go_wp2_with fail
  refine (twin_own bo n c' ys w1 (hy.later b1 (Nat.le_refl _))).mono ?_
  rintro e w2 ⟨u, rfl, o2, b2⟩
  have T : ∃ vo uo cv cu, v = .slice vo n cv ∧ u = .slice uo n cu ∧ Two w w2 vo uo n xs ys := by
    have hB : Below w.heap.size w w2 := b1.trans (b2.mono b1.size)
    rcases own_len hx.len o1 with ⟨rfl, h0⟩ | ⟨g, cg, rfl, r1, hg, _, _⟩
    · rcases own_len hy.len o2 with ⟨rfl, h0'⟩ | ⟨h, ch, rfl, r2, hh, _, _⟩
      · exact ⟨none, none, 0, 0, by rw [h0], by rw [h0], hx.len, hy.len, hx.bytes, hy.bytes, hx.top, fun h => by omega, hB⟩
      · exact ⟨none, _, 0, ch, by rw [h0], rfl, hx.len, hy.len, hx.bytes, hy.bytes, hx.top, fun h => by omega, hB⟩
    · rcases own_len hy.len o2 with ⟨rfl, h0'⟩ | ⟨h, ch, rfl, r2, hh, _, _⟩
      · exact ⟨_, none, cg, 0, rfl, by rw [h0'], hx.len, hy.len, hx.bytes, hy.bytes, hx.top, fun h => by omega, hB⟩
      · have := r1.lt
        have := b1.size
        exact ⟨_, _, cg, ch, rfl, rfl, hx.len, hy.len, hx.bytes, hy.bytes, hx.top, fun _ => ⟨g, h, rfl, rfl, by omega, hg, by omega, r1.later b2 (Nat.le_refl _), r2⟩, hB⟩
  obtain ⟨vo, uo, cv, cu, rfl, rfl, T0⟩ := T
  clear o1 o2 b1 b2
  go_wp2_with fail
  refine (two_trade m hm T0 rfl rfl).mono ?_
  rintro e w3 ⟨rfl, T1⟩
  clear T0
  go_wp2_with fail
  refine (two_trade m hm T1 M1.out M2.out).mono ?_
  rintro e w4 ⟨rfl, T2⟩
  clear T1
  go_wp2_with fail
  refine (rsame_yes _ _ _ _ _ xs _ T2.seen1 (Seen.since hx T2.bel)).mono ?_
  rintro e _ ⟨rfl, q1, rfl⟩
  go_wp2_with fail
  refine (rsame_yes _ _ _ _ _ ys _ (T2.drewN _).seen2 (Seen.since hy (T2.drewN _).bel)).mono ?_
  rintro e _ ⟨rfl, q2, rfl⟩
  go_wp2_with fail
  refine (two_trade _ W1.out (T2.drewN _) M3.out M4.out).mono ?_
  rintro e w5 ⟨rfl, T3⟩
  clear T2
  go_wp2_with fail
  refine (rsame_yes _ _ _ _ _ ys _ T3.seen1 (Seen.since hy T3.bel)).mono ?_
  rintro e _ ⟨rfl, q3, rfl⟩
  go_wp2_with fail
  refine (rsame_yes _ _ _ _ _ xs _ (T3.drewN _).seen2 (Seen.since hx (T3.drewN _).bel)).mono ?_
  rintro e _ ⟨rfl, q4, rfl⟩
  go_wp2_with fail
  refine (two_trade _ W0.out (T3.drewN _) M6.out M5.out).mono ?_
  rintro e w6 ⟨rfl, T4⟩
  clear T3
  go_wp2_with fail
  refine (rsame_yes _ _ _ _ _ ys _ T4.seen1 (Seen.since hy T4.bel)).mono ?_
  rintro e _ ⟨rfl, q5, rfl⟩
  go_wp2_with fail
  refine (rsame_yes _ _ _ _ _ xs _ (T4.drewN _).seen2 (Seen.since hx (T4.drewN _).bel)).mono ?_
  rintro e _ ⟨rfl, q6, rfl⟩
  go_wp2_with fail
  refine (two_copy _ W0.out (T4.drewN _) M6.out).mono ?_
  rintro e w7 ⟨rfl, T5⟩
  clear T4
  go_wp2_with fail
  refine (rsame_yes _ _ _ _ _ ys _ T5.seen1 (Seen.since hy T5.bel)).mono ?_
  rintro e _ ⟨rfl, q7, rfl⟩
  go_wp2_with fail
  refine (two_copy _ W1.out (T5.drewN _) M4.out).mono ?_
  rintro e w8 ⟨rfl, T6⟩
  clear T5
  go_wp2_with fail
  refine (rsame_yes _ _ _ _ _ xs _ T6.seen1 (Seen.since hx T6.bel)).mono ?_
  rintro e _ ⟨rfl, q8, rfl⟩
  go_wp2_with fail
  refine (same_yes _ _ _ _ _ xs _ (T6.drewN _).seen1 (T6.drewN _).seen2).mono ?_
  rintro e _ ⟨rfl, q9, rfl⟩
  have bz := (T6.drewN (q8 + q9)).bel
  clear T6
  go_wp2_with fail
  refine (works_any _).mono ?_
  rintro e w9 ⟨rfl, b9⟩
  have HB : Hid (Below w.heap.size w w9) := bz.trans (b9.mono bz.size)
  go_wp2
  go_ret
  exact ⟨rfl, HB.out⟩

theorem walk (m : Int) (ao : Option Addr) (n c : Nat) (xs : List Int) (bo : Option Addr) (n' c' : Nat) (ys : List Int) (w : World) (hm : Word m) (hx : Seen w ao n xs) (hn : n ≤ 140737488351232) (hy : Seen w bo n' ys) (hn' : n' ≤ 140737488351232) :
    Calls Try.prog 4 #[.int .u64 m, .slice ao n c, .slice bo n' c'] w fun e w' => e = .returned (.bool true) ∧ Below w.heap.size w w' := by
  by_cases h : n = n'
  · subst h
    exact walk_eq m ao n c xs bo c' ys w hm hx hy
  · exact walk_len m ao n c xs bo n' c' ys w hm hx hy h

/-! ### The row's step -/
theorem own : ownKnob Try.prog.godebug = none := by kernel_rfl
theorem laidOut : laidOutB Try.prog = true := by kernel_rfl
theorem bytesOf : Try.prog.bytesOf 5 = 1 := by kernel_rfl
set_option maxRecDepth 100000 in
theorem lifted (os : Os) (started : os.Started) (H : Type) (enc : TypeId × Value → H) :
    ReturnsInHanded {} Try.checked os 4 .any (Rows.maskTradesSpec.pre6 enc Try.prog Try.f4 Rows.maskTradesRow.domain false) (Rows.maskTradesSpec.post enc Try.prog Try.f4 false true false false) := by
  refine returnsInHanded_of_change_sized (C := Try.checked) own started (by kernel_rfl) Try.func4
    (ChangeSpec.witness6 (enc := enc) (C := Try.checked) false ⟨#[], #[.int .u64 0, .slice none 0 0, .slice none 0 0], []⟩ 8 (by kernel_rfl) (by kernel_rfl) (by kernel_rfl) (by kernel_rfl)) ?_
  intro W base args ds gs before hval0 hW hcnd hsz0 _
  have hval : ∀ (j : Nat) t v, Try.f4.params[j]? = some t → args[j]? = some v → Value.okWide Try.prog W .any base t v := hval0
  have hsz : (DataW.weightsEach Try.prog (Try.f4.params.toList ++ Rows.maskTradesSpec.plain.varTypes Try.prog) (ds ++ gs)).all (· ≤ reachBytes) = true := hsz0
  have hW' := hW
  obtain ⟨p, q, hA0, hV, rfl, hfz, hnd⟩ := hW
  have hA : DataW.TrodAll enc Try.prog W 0 (fun _ => true) true Try.f4.params.toList args.toList ds p := hA0
  rw [Try.params4] at hA hval hsz
  obtain ⟨v0, vs0, d0, ds0, p0, q0, hargs, rfl, rfl, h0, r0⟩ := trodAll_cons hA
  obtain ⟨v1, vs1, d1, ds1, p1, q1, rfl, rfl, rfl, h1, r1⟩ := trodAll_cons r0
  obtain ⟨v2, vs2, d2, ds2, p2, q2, rfl, rfl, rfl, h2, r2⟩ := trodAll_cons r1
  obtain ⟨rfl, rfl, rfl⟩ := trodAll_nil r2
  obtain rfl : args = #[v0, v1, v2] := by cases args; simp_all
  obtain ⟨rfl, rfl⟩ := trodVars_none hV
  obtain ⟨a0, rfl, rfl, rfl, w0⟩ := open_int Try.underlying22 (hval 0 22 v0 rfl rfl) h0
  obtain ⟨a1, len1, cap1, rfl⟩ := okWide_slice Try.underlying23 (hval 1 23 v1 rfl rfl)
  have k1 := h1
  have lt1 : ∀ x ∈ p1, x.block < W.heap.size := by obtain ⟨m, hm⟩ := k1; exact DataW.trod_lt m _ _ _ hm
  obtain ⟨z1, w1⟩ : ∃ zs, Seen W a1 len1 zs ∧ len1 ≤ 140737488351232 := by
    obtain ⟨fuel, hf⟩ := h1
    rcases open_ints Try.underlying23 Try.underlying5 (by kernel_rfl) hf with ⟨hcs, _⟩ | ⟨x, l, c, zs, hcs, _, hl, hm, hz, hx, hcell, hwz⟩
    · simp [Value.cells] at hcs
      obtain ⟨rfl, rfl, rfl⟩ := hcs
      exact ⟨[], Seen.empty _ _, by decide⟩
    · simp [Value.cells] at hcs
      obtain ⟨rfl, rfl, rfl⟩ := hcs
      simp only [Prod.mk.injEq] at hx
      have hd := hx.1
      subst hd
      have hz' : zs.length = cap1 := by simpa using hz
      have hs := sized_slice hsz (j := 1) (t := 23) (e := 5) rfl rfl Try.underlying23
      rw [bytesOf] at hs
      simp only [lits, List.length_map, List.length_take, List.length_drop, reachBytes] at hs
      have hlen : len1 ≤ 140737488351232 := by omega
      exact ⟨_, Seen.of_ints (by omega) hl hz' hcell hwz, hlen⟩
  obtain ⟨a2, len2, cap2, rfl⟩ := okWide_slice Try.underlying23 (hval 2 23 v2 rfl rfl)
  have k2 := h2
  have lt2 : ∀ x ∈ p2, x.block < W.heap.size := by obtain ⟨m, hm⟩ := k2; exact DataW.trod_lt m _ _ _ hm
  obtain ⟨z2, w2⟩ : ∃ zs, Seen W a2 len2 zs ∧ len2 ≤ 140737488351232 := by
    obtain ⟨fuel, hf⟩ := h2
    rcases open_ints Try.underlying23 Try.underlying5 (by kernel_rfl) hf with ⟨hcs, _⟩ | ⟨x, l, c, zs, hcs, _, hl, hm, hz, hx, hcell, hwz⟩
    · simp [Value.cells] at hcs
      obtain ⟨rfl, rfl, rfl⟩ := hcs
      exact ⟨[], Seen.empty _ _, by decide⟩
    · simp [Value.cells] at hcs
      obtain ⟨rfl, rfl, rfl⟩ := hcs
      simp only [Prod.mk.injEq] at hx
      have hd := hx.1
      subst hd
      have hz' : zs.length = cap2 := by simpa using hz
      have hs := sized_slice hsz (j := 2) (t := 23) (e := 5) rfl rfl Try.underlying23
      rw [bytesOf] at hs
      simp only [lits, List.length_map, List.length_take, List.length_drop, reachBytes] at hs
      have hlen : len2 ≤ 140737488351232 := by omega
      exact ⟨_, Seen.of_ints (by omega) hl hz' hcell hwz, hlen⟩
  clear hA0 hval0
  refine (walk a0 a1 len1 cap1 z1 a2 len2 cap2 z2 W (word_of_wf w0) w1.1 w1.2 w2.1 w2.2).mono fun e W' ⟨he, bel⟩ => ?_
  subst he
  exact ⟨_, rfl, _, _, _, [], _, [], hW', trodAll_mk1 (shut_bool Try.underlying4 _), (trodAll_cons_mk (shut_int Try.underlying22 w0) (trodAll_cons_mk (Below.trod laidOut (by kernel_rfl) (of_decide_eq_true (by kernel_rfl)) k1 bel lt1) (trodAll_cons_mk (Below.trod laidOut (by kernel_rfl) (of_decide_eq_true (by kernel_rfl)) k2 bel lt2) trodAll_mk0))), rfl, bel.frame _, fun h => by cases h⟩

theorem over : Rows.maskTradesRow.holds Try.pinned (OpenSpec.ofChange Rows.maskTradesSpec) :=
  OpenClaim.holds_of_wide 4 Try.f4 rfl rfl rfl rfl rfl rfl rfl ⟨rfl, rfl, rfl, rfl, rfl⟩ rfl rfl rfl rfl rfl (by kernel_rfl) Try.func4 (by kernel_rfl)
    (of_decide_eq_true (by kernel_rfl)) (by unfold Func.isWrapper; first | (rw [if_pos (by decide +kernel)]; kernel_rfl) | (rw [if_neg (by decide +kernel)]; exact ⟨rfl, rfl⟩))
    (fun os started H enc _ => lifted os started H enc)
theorem proved : Rows.MaskTradesSaid := over
end Go.Proofs.Ytldfbbgboelngab.maskTrades
namespace Go.Proofs.Ytldfbbgboelngab
theorem maskTrades_holds : Rows.MaskTradesSaid := maskTrades.proved
#print axioms maskTrades_holds
end Go.Proofs.Ytldfbbgboelngab
