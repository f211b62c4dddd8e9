/- For every row of bytes and each width: Little and Big tell the document's number or error, and what is handed in stays as it is; the same row written over is asked anew: trystlaw02.OctetNumbers returns true. No condition. -/
import Derived.Test.YtkkiceldlcfjiaaORef
import Derived.ProofKit
import Derived.OpenShut
import Derived.ShutString
import Derived.ChangeOld
import Derived.SizedLaws
namespace Go.Proofs.Ytkkiceldlcfjiaa.octetNumbers
open Go.ChangeShapes Go.WideShapes Go.ChangeAt Go.RowKit
set_option linter.unusedVariables false
set_option linter.unusedSimpArgs false

set_option maxHeartbeats 8000000 in
set_option maxRecDepth 20000 in
theorem walk (ao : Option Addr) (n c : Nat) (zs : List Int) (w : World) (hx : Seen w ao n zs) (hn : n ≤ 140737488351232) (hc : ao = none → c = 0) : Calls Try.prog 3 #[.slice ao n c] w fun e w' => e = .returned (.bool true) ∧ Below w.heap.size w w' := by
  have HC : Hid (ao = none → c = 0) := hc
  have HX : Hid (Seen w ao n zs) := hx
  clear hc hx
  go_enter Try.func3, Try.ntmps3
  go_wp2
  go_loopw [3] (fun i wr => ∃ k : Nat, (Width k ∨ k = 16) ∧ i = .int .i64 k ∧ Below w.heap.size w wr) (fun i _ => 16 - (intOf i).toNat)
  case atStart => exact ⟨1, by decide, rfl, Below.refl _ _⟩
  case round =>
    obtain ⟨k, hk, rfl, hbel⟩ := hrel
    rcases hk with hk | rfl
    · have hk8 : (k : Int) ≤ 8 := by omega
      have hk1 : 1 ≤ k := by omega
      have z0 := hbel.size
      go_wp2_with fail
      refine (lent_any ao n c zs wr (HX.out.later hbel (Nat.le_refl _)) HC.out (by omega)).mono ?_
      rintro e w1 ⟨g, cap, rfl, r1, l1, m1, q1, b1⟩
      have B1 : Below w.heap.size w w1 := hbel.trans (b1.mono hbel.size)
      have lg : w.heap.size ≤ g := by omega
      have HL : Hid (zs.length = n ∧ Bytes zs) := ⟨HX.out.len, HX.out.bytes⟩
      have i0 : (n : Int) ≤ (cap : Int) := by omega
      clear b1 hbel
      go_wp2
      go_loopw [5] (fun i wr => ∃ (t : Nat) (ys : List Int), t ≤ 2 ∧ i = .int .i64 t ∧ ys.length = n ∧ Bytes ys ∧ (t = 0 → ys = zs) ∧ RowAt wr g (ys ++ marks) ∧ Below w.heap.size w wr) (fun i _ => 2 - (intOf i).toNat)
      case atStart => exact ⟨0, zs, by decide, rfl, HL.out.1, HL.out.2, fun _ => rfl, r1, B1⟩
      case round =>
        clear r1 B1
        obtain ⟨t, ys, ht, rfl, hyl, hyb, hy0, hrow, hbel⟩ := hrel
        by_cases hlt : t < 2
        · have sy := Seen.lent hrow hyl hyb (by omega)
          have HY : Hid (ys.length = n ∧ Bytes ys ∧ (t = 0 → ys = zs)) := ⟨hyl, hyb, hy0⟩
          clear hyl hyb hy0
          go_wp2_with fail
          refine (copied_any _ n cap ys wr sy (fun h => by cases h)).mono ?_
          rintro e w2 ⟨v2, rfl, o2, b2⟩
          obtain ⟨vo, cv, rfl, sv, _⟩ := own_seen HY.out.1 HY.out.2.1 (by omega) o2
          have B2 : Below w.heap.size w w2 := hbel.trans (b2.mono hbel.size)
          have sy2 := sy.later b2 (Nat.le_refl _)
          have row2 := hrow.later b2 (Nat.le_refl _)
          clear o2 b2 sy hrow hbel
          go_wp2_with fail
          refine (rlittle_any vo n cv ys k (by omega) w2 sv).mono ?_
          rintro e w' ⟨rfl, rfl⟩
          go_wp2_with fail
          refine (rbig_any vo n cv ys k (by omega) w2 sv).mono ?_
          rintro e w3 ⟨rfl, b3⟩
          have B3 : Below w.heap.size w w3 := B2.trans (b3.mono B2.size)
          have sy3 := sy2.later b3 (Nat.le_refl _)
          have sv3 := sv.later b3 (Nat.le_refl _)
          have row3 := row2.later b3 (Nat.le_refl _)
          clear b3 sy2 sv row2 B2
          go_wp2_with fail
          refine (llittle_any _ n cap ys k hk w3 sy3).mono ?_
          rintro e w' ⟨rfl, rfl⟩
          go_wp2_with fail
          refine (lbig_any _ n cap ys k hk w3 sy3).mono ?_
          rintro e w' ⟨rfl, rfl⟩
          have HS : Hid (∀ q, Seen (w3.drewN q) (some ⟨g, 0, none⟩) n ys ∧ Seen (w3.drewN q) vo n ys ∧ RowAt (w3.drewN q) g (ys ++ marks) ∧ Below w.heap.size w (w3.drewN q)) := fun q => ⟨sy3.drewN q, sv3.drewN q, row3.drewN q, below_dn B3 q⟩
          clear sy3 sv3 row3 B3
          obtain ⟨q, hq⟩ : ∃ q : Nat, q = 0 := ⟨_, rfl⟩
          have hsame : ∀ q, Calls Try.prog 16 #[.slice (some ⟨g, 0, none⟩) n cap, .slice vo n cv] (w3.drewN q) fun e w' => e = .returned (.bool true) ∧ ∃ p, w' = w3.drewN p := fun q => (same_yes _ _ n n cap cv ys (w3.drewN q) (HS.out q).1 (HS.out q).2.1).mono fun e w' ⟨he, p, hp⟩ => ⟨he, q + p, by rw [hp, World.drewN_drewN]⟩
          have hstill : t = 0 → Calls Try.prog 15 #[.slice (some ⟨g, 0, none⟩) n cap, .slice ao n c] w3 fun e w' => e = .returned (.bool true) ∧ ∃ p, w' = w3.drewN p := fun h0 => by
            have hz := (HS.out 0).2.2.1
            rw [HY.out.2.2 h0] at hz
            exact still_yes g n cap ao c zs w3 hz m1 q1 (HX.out.later (HS.out 0).2.2.2 (Nat.le_refl _))
          generalize leV k n ys = V1 at *
          generalize leV k n ys.reverse = V2 at *
          generalize fit n k = E at *
          have hsame0 := hsame 0
          rcases (by omega : t = 0 ∨ t = 1) with rfl | rfl
          · have hst := hstill rfl
            go_wp2_with fail
            refine hst.mono ?_
            rintro e _ ⟨rfl, p, rfl⟩
            go_wp2_with fail
            refine (hsame p).mono ?_
            rintro e _ ⟨rfl, p2, rfl⟩
            clear hst
            have HZ : Hid (RowAt (w3.drewN p2) g (ys ++ marks) ∧ Below w.heap.size w (w3.drewN p2)) := ⟨(HS.out p2).2.2.1, (HS.out p2).2.2.2⟩
            clear HS hsame hsame0 hstill
            go_wp2
            go_loopw [15] (fun i wr => ∃ (m : Nat) (us : List Int), m ≤ n ∧ i = .int .i64 m ∧ us.length = n ∧ Bytes us ∧ RowAt wr g (us ++ marks) ∧ Below w.heap.size w wr) (fun i _ => n - (intOf i).toNat)
            case atStart => exact ⟨0, ys, Nat.zero_le _, rfl, HY.out.1, HY.out.2.1, HZ.out.1, HZ.out.2⟩
            case round =>
              clear HZ HY
              obtain ⟨m, us, hm, rfl, hul, hub, hrow, hbel⟩ := hrel
              by_cases hlt : m < n
              · have c1 := hrow.lentCell (m := m) (by omega)
                have f1 : wr.frozen? ⟨g, m, none⟩ = false := hrow.frozen m
                have bz := hub.at m (by omega)
                obtain ⟨Z, hZ⟩ : ∃ Z, us.getD m 0 = Z := ⟨_, rfl⟩
                rw [hZ] at c1 bz
                have bx := xor8_bd Z (((m : Int) + 1) % 256) bz (by omega)
                have R1 : Hid _ := hrow.lentSet (m := m) (by omega) (bits .xor .u8 Z (((m : Int) + 1) % 256))
                have R2 : Hid _ := hbel.setCell (p := ⟨g, m, none⟩) lg (.int .u8 (bits .xor .u8 Z (((m : Int) + 1) % 256)))
                have R3 : Hid (Bytes (us.set m (bits .xor .u8 Z (((m : Int) + 1) % 256))) ∧ (us.set m (bits .xor .u8 Z (((m : Int) + 1) % 256))).length = n) := ⟨bytes_set hub m _ bx, by rw [List.length_set]; exact hul⟩
                have j1 : (0 : Int) ≤ (m : Int) := by omega
                have j2 : (m : Int) < (n : Int) := by omega
                clear hZ hrow hbel hub hul
                go_wp2
                go_roundw
                case rel => exact ⟨m + 1, _, by omega, by go_num, R3.out.2, R3.out.1, R1.out, R2.out⟩
                case measure => simp [intOf]; omega
              · have R1 : Hid _ := hrow
                have R2 : Hid _ := hbel
                have R3 : Hid (us.length = n ∧ Bytes us) := ⟨hul, hub⟩
                clear hrow hbel hub hul
                go_wp2
                go_roundw
                case rel => exact ⟨1, us, by decide, by go_num, R3.out.1, R3.out.2, (fun h => by cases h), R1.out, R2.out⟩
                case measure => simp [intOf]
          · go_wp2_with fail
            refine hsame0.mono ?_
            rintro e _ ⟨rfl, p2, rfl⟩
            have HZ : Hid (RowAt (w3.drewN p2) g (ys ++ marks) ∧ Below w.heap.size w (w3.drewN p2)) := ⟨(HS.out p2).2.2.1, (HS.out p2).2.2.2⟩
            clear HS hsame hsame0 hstill
            go_wp2
            go_loopw [15] (fun i wr => ∃ (m : Nat) (us : List Int), m ≤ n ∧ i = .int .i64 m ∧ us.length = n ∧ Bytes us ∧ RowAt wr g (us ++ marks) ∧ Below w.heap.size w wr) (fun i _ => n - (intOf i).toNat)
            case atStart => exact ⟨0, ys, Nat.zero_le _, rfl, HY.out.1, HY.out.2.1, HZ.out.1, HZ.out.2⟩
            case round =>
              clear HZ HY
              obtain ⟨m, us, hm, rfl, hul, hub, hrow, hbel⟩ := hrel
              by_cases hlt : m < n
              · have c1 := hrow.lentCell (m := m) (by omega)
                have f1 : wr.frozen? ⟨g, m, none⟩ = false := hrow.frozen m
                have bz := hub.at m (by omega)
                obtain ⟨Z, hZ⟩ : ∃ Z, us.getD m 0 = Z := ⟨_, rfl⟩
                rw [hZ] at c1 bz
                have bx := xor8_bd Z (((m : Int) + 1) % 256) bz (by omega)
                have R1 : Hid _ := hrow.lentSet (m := m) (by omega) (bits .xor .u8 Z (((m : Int) + 1) % 256))
                have R2 : Hid _ := hbel.setCell (p := ⟨g, m, none⟩) lg (.int .u8 (bits .xor .u8 Z (((m : Int) + 1) % 256)))
                have R3 : Hid (Bytes (us.set m (bits .xor .u8 Z (((m : Int) + 1) % 256))) ∧ (us.set m (bits .xor .u8 Z (((m : Int) + 1) % 256))).length = n) := ⟨bytes_set hub m _ bx, by rw [List.length_set]; exact hul⟩
                have j1 : (0 : Int) ≤ (m : Int) := by omega
                have j2 : (m : Int) < (n : Int) := by omega
                clear hZ hrow hbel hub hul
                go_wp2
                go_roundw
                case rel => exact ⟨m + 1, _, by omega, by go_num, R3.out.2, R3.out.1, R1.out, R2.out⟩
                case measure => simp [intOf]; omega
              · have R1 : Hid _ := hrow
                have R2 : Hid _ := hbel
                have R3 : Hid (us.length = n ∧ Bytes us) := ⟨hul, hub⟩
                clear hrow hbel hub hul
                go_wp2
                go_roundw
                case rel => exact ⟨2, us, by decide, by go_num, R3.out.1, R3.out.2, (fun h => by cases h), R1.out, R2.out⟩
                case measure => simp [intOf]
        · obtain rfl : t = 2 := by omega
          have HB : Hid _ := hbel
          clear hbel hrow
          go_wp2
          go_roundw
          case rel => exact ⟨2 * k, by omega, by go_num, HB.out⟩
          case measure => simp [intOf]; omega
    · have HB : Hid _ := hbel
      clear hbel
      go_wp2
      go_ret
      exact ⟨rfl, HB.out⟩

/-! ### The row's step -/
theorem own : ownKnob Try.prog.godebug = none := by kernel_rfl
theorem laidOut : laidOutB Try.prog = true := by kernel_rfl
theorem bytesOf : Try.prog.bytesOf 5 = 1 := by kernel_rfl
set_option maxRecDepth 100000 in
theorem lifted (os : Os) (started : os.Started) (H : Type) (enc : TypeId × Value → H) :
    ReturnsInHanded {} Try.checked os 3 .any (Rows.octetNumbersSpec.pre6 enc Try.prog Try.f3 Rows.octetNumbersRow.domain false) (Rows.octetNumbersSpec.post enc Try.prog Try.f3 false true false false) := by
  refine returnsInHanded_of_change_sized (C := Try.checked) own started (by kernel_rfl) Try.func3
    (ChangeSpec.witness6 (enc := enc) (C := Try.checked) false ⟨#[], #[.slice none 0 0], []⟩ 8 (by kernel_rfl) (by kernel_rfl) (by kernel_rfl) (by kernel_rfl)) ?_
  intro W base args ds gs before hval0 hW hcnd hsz0 _
  have hval : ∀ (j : Nat) t v, Try.f3.params[j]? = some t → args[j]? = some v → Value.okWide Try.prog W .any base t v := hval0
  have hsz : (DataW.weightsEach Try.prog (Try.f3.params.toList ++ Rows.octetNumbersSpec.plain.varTypes Try.prog) (ds ++ gs)).all (· ≤ reachBytes) = true := hsz0
  have hW' := hW
  obtain ⟨p, q, hA0, hV, rfl, hfz, hnd⟩ := hW
  have hA : DataW.TrodAll enc Try.prog W 0 (fun _ => true) true Try.f3.params.toList args.toList ds p := hA0
  rw [Try.params3] at hA hval hsz
  obtain ⟨v0, vs0, d0, ds0, p0, q0, hargs, rfl, rfl, h0, r0⟩ := trodAll_cons hA
  obtain ⟨rfl, rfl, rfl⟩ := trodAll_nil r0
  obtain rfl : args = #[v0] := by cases args; simp_all
  obtain ⟨rfl, rfl⟩ := trodVars_none hV
  obtain ⟨a0, len0, cap0, rfl⟩ := okWide_slice Try.underlying22 (hval 0 22 v0 rfl rfl)
  have k0 := h0
  have lt0 : ∀ x ∈ p0, x.block < W.heap.size := by obtain ⟨m, hm⟩ := k0; exact DataW.trod_lt m _ _ _ hm
  obtain ⟨z0, w0⟩ : ∃ zs, Seen W a0 len0 zs ∧ len0 ≤ 140737488351232 ∧ (a0 = none → cap0 = 0) := by
    obtain ⟨fuel, hf⟩ := h0
    rcases open_ints Try.underlying22 Try.underlying5 (by kernel_rfl) hf with ⟨hcs, _⟩ | ⟨x, l, c, zs, hcs, _, hl, hm, hz, hx, hcell, hwz⟩
    · simp [Value.cells] at hcs
      obtain ⟨rfl, rfl, rfl⟩ := hcs
      exact ⟨[], Seen.empty _ _, by decide, (fun _ => rfl)⟩
    · simp [Value.cells] at hcs
      obtain ⟨rfl, rfl, rfl⟩ := hcs
      simp only [Prod.mk.injEq] at hx
      have hd := hx.1
      subst hd
      have hz' : zs.length = cap0 := by simpa using hz
      have hs := sized_slice hsz (j := 0) (t := 22) (e := 5) rfl rfl Try.underlying22
      rw [bytesOf] at hs
      simp only [lits, List.length_map, List.length_take, List.length_drop, reachBytes] at hs
      have hlen : len0 ≤ 140737488351232 := by omega
      exact ⟨_, Seen.of_ints (by omega) hl hz' hcell hwz, hlen, (fun h => by cases h)⟩
  clear hA0 hval0
  refine (walk a0 len0 cap0 z0 W w0.1 w0.2.1 w0.2.2).mono fun e W' ⟨he, bel⟩ => ?_
  subst he
  exact ⟨_, rfl, _, _, _, [], _, [], hW', trodAll_mk1 (shut_bool Try.underlying4 _), (trodAll_cons_mk (Below.trod laidOut (by kernel_rfl) (of_decide_eq_true (by kernel_rfl)) k0 bel lt0) trodAll_mk0), rfl, bel.frame _, fun h => by cases h⟩

theorem over : Rows.octetNumbersRow.holds Try.pinned (OpenSpec.ofChange Rows.octetNumbersSpec) :=
  OpenClaim.holds_of_wide 3 Try.f3 rfl rfl rfl rfl rfl rfl rfl ⟨rfl, rfl, rfl, rfl, rfl⟩ rfl rfl rfl rfl rfl (by kernel_rfl) Try.func3 (by kernel_rfl)
    (of_decide_eq_true (by kernel_rfl)) (by unfold Func.isWrapper; first | (rw [if_pos (by decide +kernel)]; kernel_rfl) | (rw [if_neg (by decide +kernel)]; exact ⟨rfl, rfl⟩))
    (fun os started H enc _ => lifted os started H enc)
theorem proved : Rows.OctetNumbersSaid := over
end Go.Proofs.Ytkkiceldlcfjiaa.octetNumbers
namespace Go.Proofs.Ytkkiceldlcfjiaa
theorem octetNumbers_holds : Rows.OctetNumbersSaid := octetNumbers.proved
#print axioms octetNumbers_holds
end Go.Proofs.Ytkkiceldlcfjiaa

