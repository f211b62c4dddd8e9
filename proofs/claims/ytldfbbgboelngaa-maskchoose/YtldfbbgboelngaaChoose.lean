/- For every three words: Choose is the document's pick, cut to each of the types of api.Word and to types of one's own: trystlaw01.MaskChoose returns true. No condition. -/
import Derived.Test.YtldfbbgboelngaaWorks
import Derived.ProofKit
import Derived.OpenShut
import Derived.ShutString
import Derived.ChangeOld
namespace Go.Proofs.Ytldfbbgboelngaa.maskChoose
open Go.ChangeShapes Go.WideShapes Go.ChangeAt Go.RowKit
set_option linter.unusedVariables false

theorem wrap32_k (x : Int) : IntKind.i32.wrap x = wrap32 x := by simp only [IntKind.wrap, IntKind.bits, IntKind.signed, wrap32]; simp; omega
theorem wrap64_k (x : Int) : IntKind.i64.wrap x = wrap64 x := by simp only [IntKind.wrap, IntKind.bits, IntKind.signed, wrap64]; simp; omega
theorem ch_u8 (m x y : Int) (hm : Word m) (hx : Word x) (hy : Word y) (w : World) :
    Calls Try.prog 18 #[.int .u64 m, .int .u8 (x % 256), .int .u8 (y % 256)] w fun e w' => e = .returned (.int .u8 ((pk m x y) % 256)) ∧ w' = w := by
  have H : Hid (bits .xor .u8 (y % 256) (bits .and .u8 (bits .xor .u8 (x % 256) (y % 256)) (m % 256)) = ((pk m x y) % 256)) := by
    have h := choose_kind .u8 m x y hm.1 hx.1 hy.1
    show _ = _
    simpa only [IntKind.wrap_u8'] using h
  obtain ⟨X, hX⟩ : ∃ X, X = (x % 256) := ⟨_, rfl⟩
  obtain ⟨Y, hY⟩ : ∃ Y, Y = (y % 256) := ⟨_, rfl⟩
  rw [← hX, ← hY] at H ⊢
  clear hX hY
  go_enter Try.func18, Try.ntmps18
  go_wp2
  go_ret
  exact ⟨ret_int H.out, rfl⟩
theorem ch_u16 (m x y : Int) (hm : Word m) (hx : Word x) (hy : Word y) (w : World) :
    Calls Try.prog 19 #[.int .u64 m, .int .u16 (IntKind.u16.wrap x), .int .u16 (IntKind.u16.wrap y)] w fun e w' => e = .returned (.int .u16 (IntKind.u16.wrap (pk m x y))) ∧ w' = w := by
  have H : Hid (bits .xor .u16 (IntKind.u16.wrap y) (bits .and .u16 (bits .xor .u16 (IntKind.u16.wrap x) (IntKind.u16.wrap y)) (IntKind.u16.wrap m)) = (IntKind.u16.wrap (pk m x y))) := by
    have h := choose_kind .u16 m x y hm.1 hx.1 hy.1
    exact h
  obtain ⟨X, hX⟩ : ∃ X, X = (IntKind.u16.wrap x) := ⟨_, rfl⟩
  obtain ⟨Y, hY⟩ : ∃ Y, Y = (IntKind.u16.wrap y) := ⟨_, rfl⟩
  rw [← hX, ← hY] at H ⊢
  clear hX hY
  go_enter Try.func19, Try.ntmps19
  go_wp2
  go_ret
  exact ⟨ret_int H.out, rfl⟩
theorem ch_u32 (m x y : Int) (hm : Word m) (hx : Word x) (hy : Word y) (w : World) :
    Calls Try.prog 20 #[.int .u64 m, .int .u32 (x % 4294967296), .int .u32 (y % 4294967296)] w fun e w' => e = .returned (.int .u32 ((pk m x y) % 4294967296)) ∧ w' = w := by
  have H : Hid (bits .xor .u32 (y % 4294967296) (bits .and .u32 (bits .xor .u32 (x % 4294967296) (y % 4294967296)) (m % 4294967296)) = ((pk m x y) % 4294967296)) := by
    have h := choose_kind .u32 m x y hm.1 hx.1 hy.1
    show _ = _
    simpa only [IntKind.wrap_u32'] using h
  obtain ⟨X, hX⟩ : ∃ X, X = (x % 4294967296) := ⟨_, rfl⟩
  obtain ⟨Y, hY⟩ : ∃ Y, Y = (y % 4294967296) := ⟨_, rfl⟩
  rw [← hX, ← hY] at H ⊢
  clear hX hY
  go_enter Try.func20, Try.ntmps20
  go_wp2
  go_ret
  exact ⟨ret_int H.out, rfl⟩
theorem ch_i8 (m x y : Int) (hm : Word m) (hx : Word x) (hy : Word y) (w : World) :
    Calls Try.prog 22 #[.int .u64 m, .int .i8 (IntKind.i8.wrap x), .int .i8 (IntKind.i8.wrap y)] w fun e w' => e = .returned (.int .i8 (IntKind.i8.wrap (pk m x y))) ∧ w' = w := by
  have H : Hid (bits .xor .i8 (IntKind.i8.wrap y) (bits .and .i8 (bits .xor .i8 (IntKind.i8.wrap x) (IntKind.i8.wrap y)) (IntKind.i8.wrap m)) = (IntKind.i8.wrap (pk m x y))) := by
    have h := choose_kind .i8 m x y hm.1 hx.1 hy.1
    exact h
  obtain ⟨X, hX⟩ : ∃ X, X = (IntKind.i8.wrap x) := ⟨_, rfl⟩
  obtain ⟨Y, hY⟩ : ∃ Y, Y = (IntKind.i8.wrap y) := ⟨_, rfl⟩
  rw [← hX, ← hY] at H ⊢
  clear hX hY
  go_enter Try.func22, Try.ntmps22
  go_wp2
  go_ret
  exact ⟨ret_int H.out, rfl⟩
theorem ch_i16 (m x y : Int) (hm : Word m) (hx : Word x) (hy : Word y) (w : World) :
    Calls Try.prog 23 #[.int .u64 m, .int .i16 (IntKind.i16.wrap x), .int .i16 (IntKind.i16.wrap y)] w fun e w' => e = .returned (.int .i16 (IntKind.i16.wrap (pk m x y))) ∧ w' = w := by
  have H : Hid (bits .xor .i16 (IntKind.i16.wrap y) (bits .and .i16 (bits .xor .i16 (IntKind.i16.wrap x) (IntKind.i16.wrap y)) (IntKind.i16.wrap m)) = (IntKind.i16.wrap (pk m x y))) := by
    have h := choose_kind .i16 m x y hm.1 hx.1 hy.1
    exact h
  obtain ⟨X, hX⟩ : ∃ X, X = (IntKind.i16.wrap x) := ⟨_, rfl⟩
  obtain ⟨Y, hY⟩ : ∃ Y, Y = (IntKind.i16.wrap y) := ⟨_, rfl⟩
  rw [← hX, ← hY] at H ⊢
  clear hX hY
  go_enter Try.func23, Try.ntmps23
  go_wp2
  go_ret
  exact ⟨ret_int H.out, rfl⟩
theorem ch_i32 (m x y : Int) (hm : Word m) (hx : Word x) (hy : Word y) (w : World) :
    Calls Try.prog 24 #[.int .u64 m, .int .i32 (wrap32 x), .int .i32 (wrap32 y)] w fun e w' => e = .returned (.int .i32 (wrap32 (pk m x y))) ∧ w' = w := by
  have H : Hid (bits .xor .i32 (wrap32 y) (bits .and .i32 (bits .xor .i32 (wrap32 x) (wrap32 y)) (wrap32 m)) = (wrap32 (pk m x y))) := by
    have h := choose_kind .i32 m x y hm.1 hx.1 hy.1
    show _ = _
    simpa only [wrap32_k] using h
  obtain ⟨X, hX⟩ : ∃ X, X = (wrap32 x) := ⟨_, rfl⟩
  obtain ⟨Y, hY⟩ : ∃ Y, Y = (wrap32 y) := ⟨_, rfl⟩
  rw [← hX, ← hY] at H ⊢
  clear hX hY
  go_enter Try.func24, Try.ntmps24
  go_wp2
  go_ret
  exact ⟨ret_int H.out, rfl⟩
theorem ch_i64 (m x y : Int) (hm : Word m) (hx : Word x) (hy : Word y) (w : World) :
    Calls Try.prog 25 #[.int .u64 m, .int .i64 (wrap64 x), .int .i64 (wrap64 y)] w fun e w' => e = .returned (.int .i64 (wrap64 (pk m x y))) ∧ w' = w := by
  have H : Hid (bits .xor .i64 (wrap64 y) (bits .and .i64 (bits .xor .i64 (wrap64 x) (wrap64 y)) (wrap64 m)) = (wrap64 (pk m x y))) := by
    have h := choose_kind .i64 m x y hm.1 hx.1 hy.1
    show _ = _
    simpa only [wrap64_k] using h
  obtain ⟨X, hX⟩ : ∃ X, X = (wrap64 x) := ⟨_, rfl⟩
  obtain ⟨Y, hY⟩ : ∃ Y, Y = (wrap64 y) := ⟨_, rfl⟩
  rw [← hX, ← hY] at H ⊢
  clear hX hY
  go_enter Try.func25, Try.ntmps25
  go_wp2
  go_ret
  exact ⟨ret_int H.out, rfl⟩
theorem ch_sm (m x y : Int) (hm : Word m) (hx : Word x) (hy : Word y) (w : World) :
    Calls Try.prog 26 #[.int .u64 m, .int .i8 (IntKind.i8.wrap x), .int .i8 (IntKind.i8.wrap y)] w fun e w' => e = .returned (.int .i8 (IntKind.i8.wrap (pk m x y))) ∧ w' = w := by
  have H : Hid (bits .xor .i8 (IntKind.i8.wrap y) (bits .and .i8 (bits .xor .i8 (IntKind.i8.wrap x) (IntKind.i8.wrap y)) (IntKind.i8.wrap m)) = (IntKind.i8.wrap (pk m x y))) := by
    have h := choose_kind .i8 m x y hm.1 hx.1 hy.1
    exact h
  obtain ⟨X, hX⟩ : ∃ X, X = (IntKind.i8.wrap x) := ⟨_, rfl⟩
  obtain ⟨Y, hY⟩ : ∃ Y, Y = (IntKind.i8.wrap y) := ⟨_, rfl⟩
  rw [← hX, ← hY] at H ⊢
  clear hX hY
  go_enter Try.func26, Try.ntmps26
  go_wp2
  go_ret
  exact ⟨ret_int H.out, rfl⟩
theorem ch_wd (m x y : Int) (hm : Word m) (hx : Word x) (hy : Word y) (w : World) :
    Calls Try.prog 27 #[.int .u64 m, .int .u64 x, .int .u64 y] w fun e w' => e = .returned (.int .u64 (pk m x y)) ∧ w' = w := by
  have H : Hid (bits .xor .u64 y (bits .and .u64 (bits .xor .u64 x y) m) = pk m x y) := choose_u64 m x y hm hx hy
  go_enter Try.func27, Try.ntmps27
  go_wp2
  go_ret
  exact ⟨ret_int H.out, rfl⟩

set_option maxHeartbeats 1000000 in
theorem walk (m x y : Int) (hm : Word m) (hx : Word x) (hy : Word y) (w : World) :
    Calls Try.prog 4 #[.int .u64 m, .int .u64 x, .int .u64 y] w fun e w' => e = .returned (.bool true) ∧ Below w.heap.size w w' := by
  have wp : Word (pk m x y) := pk_bd m x y hx hy
  go_enter Try.func4, Try.ntmps4
  go_wp2_with (first | (go_at_call 16; refine (rpick_any _ _ _ hm hx hy _).mono ?_; rintro e w' ⟨rfl, rfl⟩) | (go_at_call 21; refine (ch64_any _ _ _ hm hx hy _).mono ?_; rintro e w' ⟨rfl, rfl⟩) | (go_at_call 27; refine (ch_wd _ _ _ hm hx hy _).mono ?_; rintro e w' ⟨rfl, rfl⟩) | (go_at_call 18; refine (ch_u8 m x y hm hx hy _).mono ?_; rintro e w' ⟨rfl, rfl⟩) | (go_at_call 19; refine (ch_u16 m x y hm hx hy _).mono ?_; rintro e w' ⟨rfl, rfl⟩) | (go_at_call 20; refine (ch_u32 m x y hm hx hy _).mono ?_; rintro e w' ⟨rfl, rfl⟩) | (go_at_call 22; refine (ch_i8 m x y hm hx hy _).mono ?_; rintro e w' ⟨rfl, rfl⟩) | (go_at_call 23; refine (ch_i16 m x y hm hx hy _).mono ?_; rintro e w' ⟨rfl, rfl⟩) | (go_at_call 24; refine (ch_i32 m x y hm hx hy _).mono ?_; rintro e w' ⟨rfl, rfl⟩) | (go_at_call 25; refine (ch_i64 m x y hm hx hy _).mono ?_; rintro e w' ⟨rfl, rfl⟩) | (go_at_call 26; refine (ch_sm m x y hm hx hy _).mono ?_; rintro e w' ⟨rfl, rfl⟩) | (go_at_call 17; refine (works_any _).mono ?_; rintro e w' ⟨rfl, hb⟩))
  go_ret
  exact ⟨rfl, by assumption⟩

/-! ### The row's step -/
theorem own : ownKnob Try.prog.godebug = none := by kernel_rfl
set_option maxRecDepth 100000 in
theorem lifted (os : Os) (started : os.Started) (H : Type) (enc : TypeId × Value → H) :
    ReturnsInHanded {} Try.checked os 4 .any (Rows.maskChooseSpec.pre6 enc Try.prog Try.f4 Rows.maskChooseRow.domain false) (Rows.maskChooseSpec.post enc Try.prog Try.f4 false true false false) := by
  refine returnsInHanded_of_change (C := Try.checked) own started (by kernel_rfl) Try.func4
    (ChangeSpec.witness6 (enc := enc) (C := Try.checked) false ⟨#[], #[.int .u64 0, .int .u64 0, .int .u64 0], []⟩ 8 (by kernel_rfl) (by kernel_rfl) (by kernel_rfl) (by kernel_rfl)) ?_
  intro W base args ds gs before hval0 hW hcnd _
  have hval : ∀ (j : Nat) t v, Try.f4.params[j]? = some t → args[j]? = some v → Value.okWide Try.prog W .any base t v := hval0
  have hW' := hW
  obtain ⟨p, q, hA0, hV, rfl, hfz, hnd⟩ := hW
  have hA : DataW.TrodAll enc Try.prog W 0 (fun _ => true) true Try.f4.params.toList args.toList ds p := hA0
  rw [Try.params4] at hA hval
  obtain ⟨v0, vs0, d0, ds0, p0, q0, hargs, rfl, rfl, h0, r0⟩ := trodAll_cons hA
  obtain ⟨v1, vs1, d1, ds1, p1, q1, rfl, rfl, rfl, h1, r1⟩ := trodAll_cons r0
  obtain ⟨v2, vs2, d2, ds2, p2, q2, rfl, rfl, rfl, h2, r2⟩ := trodAll_cons r1
  obtain ⟨rfl, rfl, rfl⟩ := trodAll_nil r2
  obtain rfl : args = #[v0, v1, v2] := by cases args; simp_all
  obtain ⟨rfl, rfl⟩ := trodVars_none hV
  obtain ⟨a0, rfl, rfl, rfl, w0⟩ := open_int Try.underlying22 (hval 0 22 v0 rfl rfl) h0
  obtain ⟨a1, rfl, rfl, rfl, w1⟩ := open_int Try.underlying22 (hval 1 22 v1 rfl rfl) h1
  obtain ⟨a2, rfl, rfl, rfl, w2⟩ := open_int Try.underlying22 (hval 2 22 v2 rfl rfl) h2
  clear hA0 hval0
  simp only [List.append_nil] at hW'
  refine (walk a0 a1 a2 (word_of_wf w0) (word_of_wf w1) (word_of_wf w2) W).mono fun e W' ⟨he, bel⟩ => ?_
  subst he
  exact ⟨_, rfl, _, _, _, [], [], [], hW', trodAll_mk1 (shut_bool Try.underlying4 _), (trodAll_cons_mk (shut_int Try.underlying22 w0) (trodAll_cons_mk (shut_int Try.underlying22 w1) (trodAll_cons_mk (shut_int Try.underlying22 w2) trodAll_mk0))), rfl, bel.frame _, fun h => by cases h⟩

theorem over : Rows.maskChooseRow.holds Try.pinned (OpenSpec.ofChange Rows.maskChooseSpec) :=
  OpenClaim.holds_of_wide 4 Try.f4 rfl rfl rfl rfl rfl rfl rfl ⟨rfl, rfl, rfl, rfl, rfl⟩ rfl rfl rfl rfl rfl (by kernel_rfl) Try.func4 (by kernel_rfl)
    (of_decide_eq_true (by kernel_rfl)) (by unfold Func.isWrapper; first | (rw [if_pos (by decide +kernel)]; kernel_rfl) | (rw [if_neg (by decide +kernel)]; exact ⟨rfl, rfl⟩))
    (fun os started H enc _ => lifted os started H enc)
theorem proved : Rows.MaskChooseSaid := over
end Go.Proofs.Ytldfbbgboelngaa.maskChoose
namespace Go.Proofs.Ytldfbbgboelngaa
theorem maskChoose_holds : Rows.MaskChooseSaid := maskChoose.proved
#print axioms maskChoose_holds
end Go.Proofs.Ytldfbbgboelngaa
