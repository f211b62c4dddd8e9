/- For every word: a number of each width comes back, either way round; the one's bytes are the other's from the end on; the lowest byte is the number modulo 256: trystlaw02.OctetBack returns true. No condition. -/
import Derived.Test.YtkkiceldlcfjiaaOBig
import Derived.ProofKit
import Derived.OpenShut
import Derived.ShutString
import Derived.ChangeOld
import Derived.SizedLaws
namespace Go.Proofs.Ytkkiceldlcfjiaa.octetBack
open Go.ChangeShapes Go.WideShapes Go.ChangeAt Go.RowKit
set_option linter.unusedVariables false
set_option linter.unusedSimpArgs false

set_option maxHeartbeats 4000000 in
set_option maxRecDepth 20000 in
theorem walk (x : Int) (w : World) (hv : Word x) : Calls Try.prog 8 #[.int .u64 x] w fun e w' => e = .returned (.bool true) ∧ Below w.heap.size w w' := by
  go_enter Try.func8, Try.ntmps8
  go_wp2_with fail
  refine (awake_any w).mono ?_
  rintro e w1 ⟨rfl, b1⟩
  go_wp2
  go_loopw [3] (fun i wr => ∃ k : Nat, (Width k ∨ k = 16) ∧ i = .int .i64 k ∧ Below w.heap.size w wr) (fun i _ => 16 - (intOf i).toNat)
  case atStart => exact ⟨1, by decide, rfl, b1⟩
  case round =>
    clear b1
    obtain ⟨k, hk, rfl, hbel⟩ := hrel
    rcases hk with hk | rfl
    · have hk8 : (k : Int) ≤ 8 := by omega
      have hk1 : 1 ≤ k := by omega
      have L1 : Hid ((leB k x).length = k ∧ Bytes (leB k x)) := ⟨leB_length _ _, leB_bytes _ _⟩
      have E1 : Hid (leV k k (leB k x) = x % 256 ^ k ∧ fit k k = 0) := ⟨by rw [leV_ok, le_leB], fit_ok k⟩
      have E2 : Hid (leV k k (leB k x).reverse.reverse = x % 256 ^ k) := by show _ = _; rw [List.reverse_reverse]; exact E1.out.1
      have E3 : Hid ((leB k x).getD 0 0 = x % 256) := by show _ = _; rw [leB_at _ _ _ (by omega)]; simp
      have E4 : Hid (∀ i, i < k → (leB k x).reverse.getD (k - 1 - i) 0 = (leB k x).getD i 0) := fun i hi => by
        rw [rev_at _ k _ (leB_length _ _) (by omega)]
        congr 1; omega
      go_wp2_with fail
      refine (lput_any none 0 0 [] x hv k hk wr (Seen.empty _ _) (fun _ => rfl) (by decide)).mono ?_
      rintro e w2 ⟨v2, rfl, o2, b2⟩
      rw [Nat.zero_add, List.nil_append] at o2
      rcases own_len L1.out.1 o2 with ⟨_, h0⟩ | ⟨g2, cap2, rfl, r2, l2, m2, q2⟩
      · omega
      have B2 : Below w.heap.size w w2 := hbel.trans (b2.mono hbel.size)
      have z2 := r2.lt
      clear o2 b2 hbel
      go_wp2_with fail
      refine (lputb_any none 0 0 [] x hv k hk w2 (Seen.empty _ _) (fun _ => rfl) (by decide)).mono ?_
      rintro e w3 ⟨v3, rfl, o3, b3⟩
      rw [Nat.zero_add, List.nil_append] at o3
      rcases own_len (by rw [List.length_reverse]; exact L1.out.1) o3 with ⟨_, h0⟩ | ⟨g3, cap3, rfl, r3, l3, m3, q3⟩
      · omega
      have B3 : Below w.heap.size w w3 := B2.trans (b3.mono B2.size)
      have r23 := r2.later b3 (Nat.le_refl _)
      clear o3 b3 B2 r2
      have s2 := Seen.of_row (n := k) r23 (by rw [L1.out.1]; exact Nat.le_refl _) (by omega) L1.out.2
      rw [List.take_of_length_le (by rw [L1.out.1]; exact Nat.le_refl _)] at s2
      have s3 := Seen.of_row (n := k) r3 (by rw [List.length_reverse, L1.out.1]; exact Nat.le_refl _) (by omega) (bytes_rev L1.out.2)
      rw [List.take_of_length_le (by rw [List.length_reverse, L1.out.1]; exact Nat.le_refl _)] at s3
      go_wp2_with fail
      refine (llittle_any _ k cap2 (leB k x) k hk w3 s2).mono ?_
      rw [E1.out.1, E1.out.2]
      rintro e w' ⟨rfl, rfl⟩
      go_wp2_with fail
      refine (lbig_any _ k cap3 (leB k x).reverse k hk w3 s3).mono ?_
      rw [E2.out, E1.out.2]
      rintro e w' ⟨rfl, rfl⟩
      have c0 : w3.cell? ⟨g2, 0, none⟩ = some (.int .u8 (x % 256)) := by rw [r23.cell 0 (by rw [L1.out.1]; omega), E3.out]
      have i1 : (0 : Int) < (k : Int) := by omega
      obtain ⟨X, hX⟩ : ∃ X, x % 256 ^ k = X := ⟨_, rfl⟩
      have hcut : ∀ W, Calls Try.prog 20 #[.int .u64 x, .int .i64 k] W fun e w' => e = .returned (.int .u64 X) ∧ W = w' := fun W => by rw [← hX]; exact cut_any x hv k hk W
      rw [hX]
      have HR : Hid (RowAt w3 g2 (leB k x) ∧ RowAt w3 g3 (leB k x).reverse) := ⟨r23, r3⟩
      have HB : Hid (Below w.heap.size w w3) := B3
      clear hX s2 s3 r23 r3 B3
      go_wp2_with fail
      refine (hcut _).mono ?_
      rintro e w' ⟨rfl, rfl⟩
      go_wp2_with fail
      refine (hcut _).mono ?_
      rintro e w' ⟨rfl, rfl⟩
      go_wp2
      go_loopw [10] (fun i wr => ∃ m : Nat, m ≤ k ∧ i = .int .i64 m ∧ ∃ q, wr = w3.drewN q) (fun i _ => k - (intOf i).toNat)
      case atStart => exact ⟨0, Nat.zero_le _, rfl, 0, rfl⟩
      case round =>
        obtain ⟨m, hm, rfl, q, rfl⟩ := hrel
        by_cases hlt : m < k
        · obtain ⟨p, hp⟩ : ∃ p, k - 1 - m = p := ⟨_, rfl⟩
          have c1 := HR.out.1.cell m (by rw [L1.out.1]; exact hlt)
          have c2 := HR.out.2.cell p (by rw [List.length_reverse, L1.out.1]; omega)
          have e4 := E4.out m hlt
          rw [hp] at e4
          rw [e4] at c2
          obtain ⟨Z, hZ⟩ : ∃ Z, (leB k x).getD m 0 = Z := ⟨_, rfl⟩
          rw [hZ] at c1 c2
          have j1 : (0 : Int) ≤ (m : Int) := by omega
          have j2 : (m : Int) < (k : Int) := by omega
          have j3 : (k : Int) - 1 - (m : Int) = (p : Int) := by omega
          have j4 : (0 : Int) ≤ (p : Int) := by omega
          have j5 : (p : Int) < (k : Int) := by omega
          clear hZ e4 hp
          go_wp2
          go_quiet (fail)
          go_wp2
          go_roundw
          case rel => exact ⟨m + 1, by omega, by go_num, _, rfl⟩
          case measure => simp [intOf]; omega
        · have hmk : ¬ (m : Int) < (k : Int) := by omega
          have HZ : Hid (Below w.heap.size w (w3.drewN q)) := below_dn HB.out q
          go_wp2
          go_roundw
          case rel => exact ⟨2 * k, by omega, by go_num, HZ.out⟩
          case measure => simp [intOf]; omega
    · have HB : Hid _ := hbel
      clear hbel
      go_wp2
      go_ret
      exact ⟨rfl, HB.out⟩

/-! ### The row's step -/
theorem own : ownKnob Try.prog.godebug = none := by kernel_rfl
theorem laidOut : laidOutB Try.prog = true := by kernel_rfl
theorem bytesOf : Try.prog.bytesOf 5 = 1 := by kernel_rfl
set_option maxRecDepth 100000 in
theorem lifted (os : Os) (started : os.Started) (H : Type) (enc : TypeId × Value → H) :
    ReturnsInHanded {} Try.checked os 8 .any (Rows.octetBackSpec.pre6 enc Try.prog Try.f8 Rows.octetBackRow.domain false) (Rows.octetBackSpec.post enc Try.prog Try.f8 false true false false) := by
  refine returnsInHanded_of_change_sized (C := Try.checked) own started (by kernel_rfl) Try.func8
    (ChangeSpec.witness6 (enc := enc) (C := Try.checked) false ⟨#[], #[.int .u64 0], []⟩ 8 (by kernel_rfl) (by kernel_rfl) (by kernel_rfl) (by kernel_rfl)) ?_
  intro W base args ds gs before hval0 hW hcnd hsz0 _
  have hval : ∀ (j : Nat) t v, Try.f8.params[j]? = some t → args[j]? = some v → Value.okWide Try.prog W .any base t v := hval0
  have hsz : (DataW.weightsEach Try.prog (Try.f8.params.toList ++ Rows.octetBackSpec.plain.varTypes Try.prog) (ds ++ gs)).all (· ≤ reachBytes) = true := hsz0
  have hW' := hW
  obtain ⟨p, q, hA0, hV, rfl, hfz, hnd⟩ := hW
  have hA : DataW.TrodAll enc Try.prog W 0 (fun _ => true) true Try.f8.params.toList args.toList ds p := hA0
  rw [Try.params8] at hA hval hsz
  obtain ⟨v0, vs0, d0, ds0, p0, q0, hargs, rfl, rfl, h0, r0⟩ := trodAll_cons hA
  obtain ⟨rfl, rfl, rfl⟩ := trodAll_nil r0
  obtain rfl : args = #[v0] := by cases args; simp_all
  obtain ⟨rfl, rfl⟩ := trodVars_none hV
  obtain ⟨a0, rfl, rfl, rfl, w0⟩ := open_int Try.underlying24 (hval 0 24 v0 rfl rfl) h0
  clear hA0 hval0
  simp only [List.append_nil] at hW'
  refine (walk a0 W (word_of_wf w0)).mono fun e W' ⟨he, bel⟩ => ?_
  subst he
  exact ⟨_, rfl, _, _, _, [], [], [], hW', trodAll_mk1 (shut_bool Try.underlying4 _), (trodAll_cons_mk (shut_int Try.underlying24 w0) trodAll_mk0), rfl, bel.frame _, fun h => by cases h⟩

theorem over : Rows.octetBackRow.holds Try.pinned (OpenSpec.ofChange Rows.octetBackSpec) :=
  OpenClaim.holds_of_wide 8 Try.f8 rfl rfl rfl rfl rfl rfl rfl ⟨rfl, rfl, rfl, rfl, rfl⟩ rfl rfl rfl rfl rfl (by kernel_rfl) Try.func8 (by kernel_rfl)
    (of_decide_eq_true (by kernel_rfl)) (by unfold Func.isWrapper; first | (rw [if_pos (by decide +kernel)]; kernel_rfl) | (rw [if_neg (by decide +kernel)]; exact ⟨rfl, rfl⟩))
    (fun os started H enc _ => lifted os started H enc)
theorem proved : Rows.OctetBackSaid := over
end Go.Proofs.Ytkkiceldlcfjiaa.octetBack
namespace Go.Proofs.Ytkkiceldlcfjiaa
theorem octetBack_holds : Rows.OctetBackSaid := octetBack.proved
#print axioms octetBack_holds
end Go.Proofs.Ytkkiceldlcfjiaa

