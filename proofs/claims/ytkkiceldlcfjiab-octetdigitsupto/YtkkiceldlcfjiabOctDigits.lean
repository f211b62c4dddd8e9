/- For every two rows of bytes and every text, of bulk at most 1048576 together: the digits of bytes are two for each and bring them back; one behind the other they are those of the bytes one behind the other; a text that is taken is the digits of what it gives: trystlaw02.OctetDigits returns true. Condition: the bulk (uptoSmall). -/
import Derived.Test.YtkkiceldlcfjiabOUnhex
import Derived.ProofKit
import Derived.OpenShut
import Derived.ShutString
import Derived.ChangeOld
import Derived.JoinedCond
namespace Go.Proofs.Ytkkiceldlcfjiab.octetDigits
open Go.ChangeShapes Go.WideShapes Go.ChangeAt Go.RowKit
set_option linter.unusedVariables false
set_option linter.unusedSimpArgs false

theorem dig_is (n : Int) (h : 0 ≤ n ∧ n < 16) : isDig (dig n) = true ∧ dv (dig n) = n := by
  unfold dig isDig dv
  split
  · constructor
    · simp; omega
    · rw [if_pos (by omega)]; omega
  · constructor
    · simp; omega
    · rw [if_neg (by omega), if_pos (by omega)]; omega
theorem dig_dv (a : Int) (h : isDig a = true) : dig (dv a) = a := by
  simp only [isDig, Bool.or_eq_true, decide_eq_true_eq] at h
  unfold dig dv
  rcases h with h | h
  · rw [if_pos h, if_pos (by omega)]; omega
  · rw [if_neg (by omega), if_pos h, if_neg (by omega)]; omega
theorem unhexL_hexL (xs : List Int) (h : Bytes xs) : unhexL (hexL xs) = some xs := by
  induction xs with
  | nil => rfl
  | cons z zs ih =>
    have hz := h z (by simp)
    have h1 := dig_is (z / 16) (by omega)
    have h2 := dig_is (z % 16) (by omega)
    simp only [hexL, unhexL, h1.1, h1.2, h2.1, h2.2, ih (fun y hy => h y (by simp [hy])), Bool.and_self, if_true, Option.map_some]
    congr 2
    omega
theorem hexL_unhexL (k : Nat) (l us : List Int) (hl : l.length ≤ k) (h : unhexL l = some us) : hexL us = l := by
  induction k generalizing l us with
  | zero =>
    match l, hl with
    | [], _ => simp [unhexL] at h; subst h; rfl
  | succ k ih =>
    match l, hl, h with
    | [], _, h => simp [unhexL] at h; subst h; rfl
    | [a], _, h => simp [unhexL] at h
    | a :: b :: r, hl, h =>
      simp only [unhexL] at h
      split at h
      · rename_i hd
        simp only [Bool.and_eq_true] at hd
        simp only [Option.map_eq_some_iff] at h
        obtain ⟨vs, hv, rfl⟩ := h
        have h1 := dv_bd a
        have h2 := dv_bd b
        have e1 : (16 * dv a + dv b) / 16 = dv a := by omega
        have e2 : (16 * dv a + dv b) % 16 = dv b := by omega
        simp only [hexL, e1, e2, dig_dv a hd.1, dig_dv b hd.2, ih r vs (by simp at hl; omega) hv]
      · cases h
theorem un_hex (xs : List Int) (h : Bytes xs) : unV (strOfNums (hexL xs)) = xs ∧ unE (strOfNums (hexL xs)) = 0 := by
  apply un_some
  rw [strL_strOfNums _ (hexL_bytes xs h)]
  exact unhexL_hexL xs h
theorem str_app (xs ys : List Int) : strOfNums xs ++ strOfNums ys = strOfNums (xs ++ ys) := by
  unfold strOfNums
  rw [List.map_append]
  apply ByteArray.ext
  simp
theorem hex_of_un {s : ByteArray} {us : List Int} (h : unhexL (strL s) = some us) : strOfNums (hexL us) = s := by
  rw [hexL_unhexL _ _ _ (Nat.le_refl _) h, strOfNums_strL]

set_option maxHeartbeats 2000000 in
set_option maxRecDepth 20000 in
theorem walk (ao : Option Addr) (n c : Nat) (xs : List Int) (bo : Option Addr) (n' c' : Nat) (ys : List Int) (s : ByteArray) (w : World) (hx : Seen w ao n xs) (hn : n ≤ 1048576) (hc : ao = none → c = 0) (hy : Seen w bo n' ys) (hn' : n' ≤ 1048576) (hc' : bo = none → c' = 0) (hs : s.size ≤ 1048576) :
    Calls Try.prog 4 #[.slice ao n c, .slice bo n' c', .string s] w fun e w' => e = .returned (.bool true) ∧ Below w.heap.size w w' := by
  obtain ⟨U1, U2⟩ := un_hex xs hx.bytes
  have S1 : (strOfNums (hexL xs)).size = 2 * n := by rw [strOfNums_size, hexL_length, hx.len]
  have LX : Hid (xs.length = n ∧ Bytes xs ∧ ys.length = n' ∧ Bytes ys) := ⟨hx.len, hx.bytes, hy.len, hy.bytes⟩
  have S2 : strOfNums (hexL xs) ++ strOfNums (hexL ys) = strOfNums (hexL (xs ++ ys)) := by rw [str_app, hexL_app]
  obtain ⟨h, hh⟩ : ∃ h, strOfNums (hexL xs) = h := ⟨_, rfl⟩
  rw [hh] at U1 U2 S1 S2
  have HU : Hid (unV h = xs ∧ unE h = 0) := ⟨U1, U2⟩
  have HH : Hid (strOfNums (hexL xs) = h) := hh
  have HC : Hid ((ao = none → c = 0) ∧ (bo = none → c' = 0)) := ⟨hc, hc'⟩
  clear U1 U2 hh hc hc'
  go_enter Try.func4, Try.ntmps4
  go_wp2_with fail
  refine (awake_any w).mono ?_
  rintro e w1 ⟨rfl, b1⟩
  have hx1 := hx.later b1 (Nat.le_refl _)
  have hy1 := hy.later b1 (Nat.le_refl _)
  go_wp2_with fail
  refine (hex_any ao n c xs w1 hx1 (by omega)).mono ?_
  rw [HH.out]
  rintro e w2 ⟨rfl, b2⟩
  have B2 : Below w.heap.size w w2 := b1.trans (b2.mono b1.size)
  clear b1 b2 hx1 hy1
  go_wp2_with fail
  refine (unhex_any h (by omega) w2).mono ?_
  rw [HU.out.1, HU.out.2]
  rintro e w3 ⟨v, rfl, o3, b3⟩
  obtain ⟨vo, cv, rfl, sv, _⟩ := own_seen rfl LX.out.2.1 (by have := LX.out.1; omega) o3
  have B3 : Below w.heap.size w w3 := B2.trans (b3.mono B2.size)
  have hx3 := hx.later B3 (Nat.le_refl _)
  clear o3 b3 B2
  go_wp2_with fail
  refine (same_yes vo ao _ n cv c xs w3 sv hx3).mono ?_
  rintro e _ ⟨rfl, q, rfl⟩
  have B4 : Below w.heap.size w (w3.drewN q) := below_dn B3 q
  have hx4 := hx.later B4 (Nat.le_refl _)
  generalize w3.drewN q = w4 at *
  clear sv hx3 B3
  go_wp2_with fail
  refine (copied_any ao n c xs w4 hx4 HC.out.1).mono ?_
  rintro e w5 ⟨v, rfl, o5, b5⟩
  have B5 : Below w.heap.size w w5 := B4.trans (b5.mono B4.size)
  have hy5 := hy.later B5 (Nat.le_refl _)
  have zb := b5.size
  have z4 := B4.size
  clear b5 hx4 B4
  go_wp2_with (at_builtin; refine wpList_append_seen rfl _ _ rfl w4.heap.size _ n (xs.map (Value.int .u8)) rfl o5 bo n' c' ys rfl hy5 HC.out.2 (by omega) zb ?_)
  intro v6 w6 o6 g6
  have B6 : Below w.heap.size w w6 := B5.grown g6 B5.size (fun j hj => by have := (o5.lt j hj).1; have := B5.size; omega)
  rw [← List.map_append] at o6
  clear g6 o5 hy5 B5 zb z4
  obtain ⟨vo6, cv6, rfl, sv6, _⟩ := own_seen (by rw [List.length_append, LX.out.1, LX.out.2.2.1]) (bytes_app LX.out.2.1 LX.out.2.2.2) (by omega) o6
  clear o6
  go_wp2_with fail
  refine (hex_any vo6 (n + n') cv6 (xs ++ ys) w6 sv6 (by omega)).mono ?_
  rintro e w7 ⟨rfl, b7⟩
  have B7 : Below w.heap.size w w7 := B6.trans (b7.mono B6.size)
  have hy7 := hy.later B7 (Nat.le_refl _)
  clear b7 sv6 B6
  go_wp2_with fail
  refine (hex_any bo n' c' ys w7 hy7 (by omega)).mono ?_
  rintro e w8 ⟨rfl, b8⟩
  have B8 : Below w.heap.size w w8 := B7.trans (b8.mono B7.size)
  clear b8 hy7 B7
  have S3 : (strOfNums (hexL ys)).size = 2 * n' := by rw [strOfNums_size, hexL_length, LX.out.2.2.1]
  have hadd : ∀ wx, (Op.stringOp .add h (strOfNums (hexL ys))).run Try.prog wx = .ok (.string (strOfNums (hexL (xs ++ ys)))) wx := fun wx => by
    rw [run_string_add_sum wx h (strOfNums (hexL ys)) (by rw [S1, S3]; omega), S2]
  clear S3 S2 S1
  go_wp2_with fail
  refine (unhex_any s (by omega) w8).mono ?_
  rintro e w9 ⟨v9, rfl, o9, b9⟩
  have B9 : Below w.heap.size w w9 := B8.trans (b9.mono B8.size)
  clear b9 B8
  rcases hun : unhexL (strL s) with _ | us
  · rw [(un_none hun).1] at o9
    rw [(un_none hun).2]
    obtain ⟨vo9, cv9, rfl, _, _⟩ := own_seen rfl (by intro z hz; cases hz) (by decide) o9
    clear o9 hun
    have HB : Hid (Below w.heap.size w w9) := B9
    clear B9
    go_wp2
    go_ret
    exact ⟨rfl, HB.out⟩
  · rw [(un_some hun).1] at o9
    rw [(un_some hun).2]
    have hl := unhexL_len _ _ _ (Nat.le_refl _) hun
    rw [strL_length] at hl
    obtain ⟨vo9, cv9, rfl, sv9, _⟩ := own_seen rfl (unhexL_bytes _ _ _ (Nat.le_refl _) hun) (by omega) o9
    have HE : Hid (strOfNums (hexL us) = s) := hex_of_un hun
    clear o9 hun
    go_wp2_with fail
    refine (hex_any vo9 us.length cv9 us w9 sv9 (by omega)).mono ?_
    rw [HE.out]
    rintro e wa ⟨rfl, ba⟩
    have HB : Hid (Below w.heap.size w wa) := B9.trans (ba.mono B9.size)
    clear ba B9 sv9
    go_wp2
    go_ret
    exact ⟨rfl, HB.out⟩

/-! ### The row's step -/
theorem bulk_one {H : Type} (d : DataW H) : 1 ≤ Rows.uptoBulk d := by
  cases d with
  | lit l => cases l <;> simp [Rows.uptoBulk]
  | _ => simp [Rows.uptoBulk]
theorem bulk_length {H : Type} (l : List (DataW H)) : l.length ≤ Rows.uptoBulkAll l := by
  induction l with
  | nil => simp [Rows.uptoBulkAll]
  | cons x r ih => have := bulk_one x; simp only [Rows.uptoBulkAll, List.length_cons]; omega
theorem cellsB : Try.prog.cellsOf 5 = 1 := by kernel_rfl
/-- A list in a cell. -/
theorem list_in {H : Type} {enc : TypeId × Value → H} {W : World} {fuel : Nat} {v : Value} {y : DataW H × List MemPlace} (h : DataW.trod enc Try.prog W 0 (fun _ => true) true fuel 26 [v] = some y) (hs : Rows.uptoBulk y.1 ≤ 1048576) :
    ∃ (so : Option Addr) (n c : Nat) (zs : List Int), v = .slice so n c ∧ Seen W so n zs ∧ n ≤ 1048576 ∧ (so = none → c = 0) := by
  rcases open_ints Try.underlying26 Try.underlying5 cellsB h with ⟨hcs, hx⟩ | ⟨x, l, c, zs, hcs, _, hl, hm, hz, hx, hcell, hwz⟩
  · simp at hcs
    subst hcs
    exact ⟨none, 0, 0, [], rfl, Seen.empty _ _, by decide, fun _ => rfl⟩
  · simp at hcs
    subst hcs
    have hz' : zs.length = c := by simpa using hz
    have hb : l + 1 ≤ Rows.uptoBulk y.1 := by
      rw [hx]
      have h1 := bulk_length (lits (H := H) .u8 (zs.take l))
      simp only [lits, List.length_map] at h1
      have hlz : (zs.take l).length = l := by simp; omega
      simp only [Rows.uptoBulk, lits]
      omega
    exact ⟨some x, l, c, zs.take l, rfl, Seen.of_ints (by omega) hl hz' hcell hwz, by omega, fun h => by cases h⟩
theorem own : ownKnob Try.prog.godebug = none := by kernel_rfl
theorem laidOut : laidOutB Try.prog = true := by kernel_rfl
set_option maxRecDepth 100000 in
theorem contract (H : Type) (enc : TypeId × Value → H) (W : World) (base : Nat) (args : Array Value) (ds gs : List (DataW H)) (before : List MemPlace)
    (hval0 : ∀ (j : Nat) t v, Try.f4.params[j]? = some t → args[j]? = some v → Value.okWide Try.prog W .any base t v)
    (hW : DataW.Whole enc Try.prog Try.f4.params.toList Rows.octetDigitsSpec.vars false W args.toList ds gs before) (hk : Rows.uptoSmall H (ds ++ gs) = true) :
    Calls Try.prog 4 args W fun e W' => ∃ v, e = .returned v ∧ Rows.octetDigitsSpec.post enc Try.prog Try.f4 false true false false W args v W' := by
  have hval := hval0
  have hW' := hW
  obtain ⟨p, q, hA0, hV, rfl, hfz, hnd⟩ := hW
  have hA : DataW.TrodAll enc Try.prog W 0 (fun _ => true) true Try.f4.params.toList args.toList ds p := hA0
  rw [Try.params4] at hA hval
  obtain ⟨v0, vs0, d0, ds0, p0, q0, hargs, rfl, rfl, h0, r0⟩ := trodAll_cons hA
  obtain ⟨v1, vs1, d1, ds1, p1, q1, rfl, rfl, rfl, h1, r1⟩ := trodAll_cons r0
  obtain ⟨v2, vs2, d2, ds2, p2, q2, rfl, rfl, rfl, h2, r2⟩ := trodAll_cons r1
  obtain ⟨rfl, rfl, rfl⟩ := trodAll_nil r2
  obtain rfl : args = #[v0, v1, v2] := by cases args; simp_all
  obtain ⟨rfl, rfl⟩ := trodVars_none hV
  have hb := of_decide_eq_true hk
  simp only [List.cons_append, List.nil_append, Rows.uptoBulkAll] at hb
  have k0 := h0
  have lt0 : ∀ x ∈ p0, x.block < W.heap.size := by obtain ⟨m, hm⟩ := k0; exact DataW.trod_lt m _ _ _ hm
  have hbulk0 : Rows.uptoBulk d0 ≤ 1048576 := by omega
  obtain ⟨a0, len0, cap0, rfl⟩ := okWide_slice Try.underlying26 (hval 0 26 v0 rfl rfl)
  obtain ⟨fuel0, hf0⟩ := h0
  obtain ⟨ao0, n0, c0, zs0, e0, hs0, ho0, hc0⟩ := list_in (y := (d0, p0)) hf0 hbulk0
  simp only [Value.slice.injEq] at e0
  obtain ⟨rfl, rfl, rfl⟩ := e0
  have k1 := h1
  have lt1 : ∀ x ∈ p1, x.block < W.heap.size := by obtain ⟨m, hm⟩ := k1; exact DataW.trod_lt m _ _ _ hm
  have hbulk1 : Rows.uptoBulk d1 ≤ 1048576 := by omega
  obtain ⟨a1, len1, cap1, rfl⟩ := okWide_slice Try.underlying26 (hval 1 26 v1 rfl rfl)
  obtain ⟨fuel1, hf1⟩ := h1
  obtain ⟨ao1, n1, c1, zs1, e1, hs1, ho1, hc1⟩ := list_in (y := (d1, p1)) hf1 hbulk1
  simp only [Value.slice.injEq] at e1
  obtain ⟨rfl, rfl, rfl⟩ := e1
  obtain ⟨a2, rfl, rfl, rfl, w2⟩ := Go.ChangeMaps.open_string Try.underlying9 (hval 2 9 v2 rfl rfl) h2
  have hn2 : a2.size ≤ 1048576 := by
    have h1 : a2.data.toList.length = a2.size := by rw [Array.length_toList]; rfl
    simp only [Rows.uptoBulk] at hb
    omega
  clear hA0 hval0 hb hk
  refine (walk a0 len0 cap0 zs0 a1 len1 cap1 zs1 a2 W hs0 ho0 hc0 hs1 ho1 hc1 hn2).mono fun e W' ⟨he, bel⟩ => ?_
  subst he
  exact ⟨_, rfl, _, _, _, [], _, [], hW', trodAll_mk1 (shut_bool Try.underlying4 _), (trodAll_cons_mk (Below.trod laidOut (by kernel_rfl) (of_decide_eq_true (by kernel_rfl)) k0 bel lt0) (trodAll_cons_mk (Below.trod laidOut (by kernel_rfl) (of_decide_eq_true (by kernel_rfl)) k1 bel lt1) (trodAll_cons_mk (Go.ChangeMaps.shut_string Try.underlying9 w2) trodAll_mk0))), rfl, bel.frame _, fun h => by cases h⟩

set_option maxRecDepth 100000 in
theorem lifted (os : Os) (started : os.Started) (H : Type) (enc : TypeId × Value → H) (F : Stop.Interp) :
    ReturnsInHanded {} Try.checked os 4 .any ((Rows.OpenSpec.upto Rows.octetDigitsSpec).pre6 enc Try.prog Try.f4 Rows.octetDigitsUptoRow.domain false) (((Rows.OpenSpec.upto Rows.octetDigitsSpec).at F).post enc Try.prog Try.f4 false true false false) := by
  refine returnsInHanded_of_cond (C := Try.checked) (s := Rows.OpenSpec.upto Rows.octetDigitsSpec) (k := Rows.uptoSmall) rfl own started (by kernel_rfl) Try.func4
    (OpenSpec.witness (enc := enc) (C := Try.checked) (s := Rows.OpenSpec.upto Rows.octetDigitsSpec) (k := Rows.uptoSmall) rfl false ⟨#[], #[.slice none 0 0, .slice none 0 0, .string ByteArray.empty], []⟩ 8 (by kernel_rfl) (by kernel_rfl) (by kernel_rfl)
      (x := ([.nil, .nil, .lit (.string [])], [], [])) (by kernel_rfl) rfl (by kernel_rfl)) ?_
  intro W base args ds gs before hval hW _ hk _
  exact contract H enc W base args ds gs before hval hW hk

theorem proved : Rows.OctetDigitsUptoSaid :=
  OpenClaim.holds_of_cond 4 Try.f4 rfl rfl rfl rfl rfl rfl rfl ⟨rfl, rfl, rfl, rfl, rfl⟩ rfl rfl rfl rfl rfl (by kernel_rfl) Try.func4 (by kernel_rfl)
    (of_decide_eq_true (by kernel_rfl)) (by unfold Func.isWrapper; first | (rw [if_pos (by decide +kernel)]; kernel_rfl) | (rw [if_neg (by decide +kernel)]; exact ⟨rfl, rfl⟩))
    (fun os started H enc _ F => lifted os started H enc F)
end Go.Proofs.Ytkkiceldlcfjiab.octetDigits
namespace Go.Proofs.Ytkkiceldlcfjiab
theorem octetDigitsUpto_holds : Rows.OctetDigitsUptoSaid := octetDigits.proved
#print axioms octetDigitsUpto_holds
end Go.Proofs.Ytkkiceldlcfjiab

