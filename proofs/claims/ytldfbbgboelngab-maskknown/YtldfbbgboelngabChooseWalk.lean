/- For every three words: Choose is the document's pick, cut to each of the types of api.Word and to types of one's own: trystlaw01.MaskChoose returns true. No condition. -/
import Derived.Test.YtldfbbgboelngabWorks
import Derived.ProofKit
import Derived.OpenShut
import Derived.ShutString
import Derived.ChangeOld
namespace Go.Proofs.Ytldfbbgboelngab.maskChoose
open Go.ChangeShapes Go.WideShapes Go.ChangeAt Go.RowKit
set_option linter.unusedVariables false

theorem wrap32_k (x : Int) : IntKind.i32.wrap x = wrap32 x := by simp only [IntKind.wrap, IntKind.bits, IntKind.signed, wrap32]; simp; omega
theorem wrap64_k (x : Int) : IntKind.i64.wrap x = wrap64 x := by simp only [IntKind.wrap, IntKind.bits, IntKind.signed, wrap64]; simp; omega
theorem ch_u8 (m x y : Int) (hm : Word m) (hx : Word x) (hy : Word y) (w : World) :
    Calls Try.prog 28 #[.int .u64 m, .int .u8 (x % 256), .int .u8 (y % 256)] w fun e w' => e = .returned (.int .u8 ((pk m x y) % 256)) ∧ w' = w := by
  have H : Hid (bits .xor .u8 (y % 256) (bits .and .u8 (bits .xor .u8 (x % 256) (y % 256)) (m % 256)) = ((pk m x y) % 256)) := by
    have h := choose_kind .u8 m x y hm.1 hx.1 hy.1
    show _ = _
    simpa only [IntKind.wrap_u8'] using h
  obtain ⟨X, hX⟩ : ∃ X, X = (x % 256) := ⟨_, rfl⟩
  obtain ⟨Y, hY⟩ : ∃ Y, Y = (y % 256) := ⟨_, rfl⟩
  rw [← hX, ← hY] at H ⊢
  clear hX hY
  go_enter Try.func28, Try.ntmps28
  go_wp2
  go_ret
  exact ⟨ret_int H.out, rfl⟩
theorem ch_u16 (m x y : Int) (hm : Word m) (hx : Word x) (hy : Word y) (w : World) :
    Calls Try.prog 32 #[.int .u64 m, .int .u16 (IntKind.u16.wrap x), .int .u16 (IntKind.u16.wrap y)] w fun e w' => e = .returned (.int .u16 (IntKind.u16.wrap (pk m x y))) ∧ w' = w := by
  have H : Hid (bits .xor .u16 (IntKind.u16.wrap y) (bits .and .u16 (bits .xor .u16 (IntKind.u16.wrap x) (IntKind.u16.wrap y)) (IntKind.u16.wrap m)) = (IntKind.u16.wrap (pk m x y))) := by
    have h := choose_kind .u16 m x y hm.1 hx.1 hy.1
    exact h
  obtain ⟨X, hX⟩ : ∃ X, X = (IntKind.u16.wrap x) := ⟨_, rfl⟩
  obtain ⟨Y, hY⟩ : ∃ Y, Y = (IntKind.u16.wrap y) := ⟨_, rfl⟩
  rw [← hX, ← hY] at H ⊢
  clear hX hY
  go_enter Try.func32, Try.ntmps32
  go_wp2
  go_ret
  exact ⟨ret_int H.out, rfl⟩
theorem ch_u32 (m x y : Int) (hm : Word m) (hx : Word x) (hy : Word y) (w : World) :
    Calls Try.prog 33 #[.int .u64 m, .int .u32 (x % 4294967296), .int .u32 (y % 4294967296)] w fun e w' => e = .returned (.int .u32 ((pk m x y) % 4294967296)) ∧ w' = w := by
  have H : Hid (bits .xor .u32 (y % 4294967296) (bits .and .u32 (bits .xor .u32 (x % 4294967296) (y % 4294967296)) (m % 4294967296)) = ((pk m x y) % 4294967296)) := by
    have h := choose_kind .u32 m x y hm.1 hx.1 hy.1
    show _ = _
    simpa only [IntKind.wrap_u32'] using h
  obtain ⟨X, hX⟩ : ∃ X, X = (x % 4294967296) := ⟨_, rfl⟩
  obtain ⟨Y, hY⟩ : ∃ Y, Y = (y % 4294967296) := ⟨_, rfl⟩
  rw [← hX, ← hY] at H ⊢
  clear hX hY
  go_enter Try.func33, Try.ntmps33
  go_wp2
  go_ret
  exact ⟨ret_int H.out, rfl⟩
theorem ch_i8 (m x y : Int) (hm : Word m) (hx : Word x) (hy : Word y) (w : World) :
    Calls Try.prog 26 #[.int .u64 m, .int .i8 (IntKind.i8.wrap x), .int .i8 (IntKind.i8.wrap y)] w fun e w' => e = .returned (.int .i8 (IntKind.i8.wrap (pk m x y))) ∧ w' = w := by
  have H : Hid (bits .xor .i8 (IntKind.i8.wrap y) (bits .and .i8 (bits .xor .i8 (IntKind.i8.wrap x) (IntKind.i8.wrap y)) (IntKind.i8.wrap m)) = (IntKind.i8.wrap (pk m x y))) := by
    have h := choose_kind .i8 m x y hm.1 hx.1 hy.1
    exact h
  obtain ⟨X, hX⟩ : ∃ X, X = (IntKind.i8.wrap x) := ⟨_, rfl⟩
  obtain ⟨Y, hY⟩ : ∃ Y, Y = (IntKind.i8.wrap y) := ⟨_, rfl⟩
  rw [← hX, ← hY] at H ⊢
  clear hX hY
  go_enter Try.func26, Try.ntmps26
  go_wp2
  go_ret
  exact ⟨ret_int H.out, rfl⟩
theorem ch_i16 (m x y : Int) (hm : Word m) (hx : Word x) (hy : Word y) (w : World) :
    Calls Try.prog 35 #[.int .u64 m, .int .i16 (IntKind.i16.wrap x), .int .i16 (IntKind.i16.wrap y)] w fun e w' => e = .returned (.int .i16 (IntKind.i16.wrap (pk m x y))) ∧ w' = w := by
  have H : Hid (bits .xor .i16 (IntKind.i16.wrap y) (bits .and .i16 (bits .xor .i16 (IntKind.i16.wrap x) (IntKind.i16.wrap y)) (IntKind.i16.wrap m)) = (IntKind.i16.wrap (pk m x y))) := by
    have h := choose_kind .i16 m x y hm.1 hx.1 hy.1
    exact h
  obtain ⟨X, hX⟩ : ∃ X, X = (IntKind.i16.wrap x) := ⟨_, rfl⟩
  obtain ⟨Y, hY⟩ : ∃ Y, Y = (IntKind.i16.wrap y) := ⟨_, rfl⟩
  rw [← hX, ← hY] at H ⊢
  clear hX hY
  go_enter Try.func35, Try.ntmps35
  go_wp2
  go_ret
  exact ⟨ret_int H.out, rfl⟩
theorem ch_i32 (m x y : Int) (hm : Word m) (hx : Word x) (hy : Word y) (w : World) :
    Calls Try.prog 36 #[.int .u64 m, .int .i32 (wrap32 x), .int .i32 (wrap32 y)] w fun e w' => e = .returned (.int .i32 (wrap32 (pk m x y))) ∧ w' = w := by
  have H : Hid (bits .xor .i32 (wrap32 y) (bits .and .i32 (bits .xor .i32 (wrap32 x) (wrap32 y)) (wrap32 m)) = (wrap32 (pk m x y))) := by
    have h := choose_kind .i32 m x y hm.1 hx.1 hy.1
    show _ = _
    simpa only [wrap32_k] using h
  obtain ⟨X, hX⟩ : ∃ X, X = (wrap32 x) := ⟨_, rfl⟩
  obtain ⟨Y, hY⟩ : ∃ Y, Y = (wrap32 y) := ⟨_, rfl⟩
  rw [← hX, ← hY] at H ⊢
  clear hX hY
  go_enter Try.func36, Try.ntmps36
  go_wp2
  go_ret
  exact ⟨ret_int H.out, rfl⟩
theorem ch_i64 (m x y : Int) (hm : Word m) (hx : Word x) (hy : Word y) (w : World) :
    Calls Try.prog 37 #[.int .u64 m, .int .i64 (wrap64 x), .int .i64 (wrap64 y)] w fun e w' => e = .returned (.int .i64 (wrap64 (pk m x y))) ∧ w' = w := by
  have H : Hid (bits .xor .i64 (wrap64 y) (bits .and .i64 (bits .xor .i64 (wrap64 x) (wrap64 y)) (wrap64 m)) = (wrap64 (pk m x y))) := by
    have h := choose_kind .i64 m x y hm.1 hx.1 hy.1
    show _ = _
    simpa only [wrap64_k] using h
  obtain ⟨X, hX⟩ : ∃ X, X = (wrap64 x) := ⟨_, rfl⟩
  obtain ⟨Y, hY⟩ : ∃ Y, Y = (wrap64 y) := ⟨_, rfl⟩
  rw [← hX, ← hY] at H ⊢
  clear hX hY
  go_enter Try.func37, Try.ntmps37
  go_wp2
  go_ret
  exact ⟨ret_int H.out, rfl⟩
theorem ch_sm (m x y : Int) (hm : Word m) (hx : Word x) (hy : Word y) (w : World) :
    Calls Try.prog 38 #[.int .u64 m, .int .i8 (IntKind.i8.wrap x), .int .i8 (IntKind.i8.wrap y)] w fun e w' => e = .returned (.int .i8 (IntKind.i8.wrap (pk m x y))) ∧ w' = w := by
  have H : Hid (bits .xor .i8 (IntKind.i8.wrap y) (bits .and .i8 (bits .xor .i8 (IntKind.i8.wrap x) (IntKind.i8.wrap y)) (IntKind.i8.wrap m)) = (IntKind.i8.wrap (pk m x y))) := by
    have h := choose_kind .i8 m x y hm.1 hx.1 hy.1
    exact h
  obtain ⟨X, hX⟩ : ∃ X, X = (IntKind.i8.wrap x) := ⟨_, rfl⟩
  obtain ⟨Y, hY⟩ : ∃ Y, Y = (IntKind.i8.wrap y) := ⟨_, rfl⟩
  rw [← hX, ← hY] at H ⊢
  clear hX hY
  go_enter Try.func38, Try.ntmps38
  go_wp2
  go_ret
  exact ⟨ret_int H.out, rfl⟩
theorem ch_wd (m x y : Int) (hm : Word m) (hx : Word x) (hy : Word y) (w : World) :
    Calls Try.prog 39 #[.int .u64 m, .int .u64 x, .int .u64 y] w fun e w' => e = .returned (.int .u64 (pk m x y)) ∧ w' = w := by
  have H : Hid (bits .xor .u64 y (bits .and .u64 (bits .xor .u64 x y) m) = pk m x y) := choose_u64 m x y hm hx hy
  go_enter Try.func39, Try.ntmps39
  go_wp2
  go_ret
  exact ⟨ret_int H.out, rfl⟩

set_option maxHeartbeats 1000000 in
theorem walk (m x y : Int) (hm : Word m) (hx : Word x) (hy : Word y) (w : World) :
    Calls Try.prog 18 #[.int .u64 m, .int .u64 x, .int .u64 y] w fun e w' => e = .returned (.bool true) ∧ Below w.heap.size w w' := by
  have wp : Word (pk m x y) := pk_bd m x y hx hy
  go_enter Try.func18, Try.ntmps18
  go_wp2_with (first | (go_at_call 31; refine (rpick_any _ _ _ hm hx hy _).mono ?_; rintro e w' ⟨rfl, rfl⟩) | (go_at_call 34; refine (ch64_any _ _ _ hm hx hy _).mono ?_; rintro e w' ⟨rfl, rfl⟩) | (go_at_call 39; refine (ch_wd _ _ _ hm hx hy _).mono ?_; rintro e w' ⟨rfl, rfl⟩) | (go_at_call 28; refine (ch_u8 m x y hm hx hy _).mono ?_; rintro e w' ⟨rfl, rfl⟩) | (go_at_call 32; refine (ch_u16 m x y hm hx hy _).mono ?_; rintro e w' ⟨rfl, rfl⟩) | (go_at_call 33; refine (ch_u32 m x y hm hx hy _).mono ?_; rintro e w' ⟨rfl, rfl⟩) | (go_at_call 26; refine (ch_i8 m x y hm hx hy _).mono ?_; rintro e w' ⟨rfl, rfl⟩) | (go_at_call 35; refine (ch_i16 m x y hm hx hy _).mono ?_; rintro e w' ⟨rfl, rfl⟩) | (go_at_call 36; refine (ch_i32 m x y hm hx hy _).mono ?_; rintro e w' ⟨rfl, rfl⟩) | (go_at_call 37; refine (ch_i64 m x y hm hx hy _).mono ?_; rintro e w' ⟨rfl, rfl⟩) | (go_at_call 38; refine (ch_sm m x y hm hx hy _).mono ?_; rintro e w' ⟨rfl, rfl⟩) | (go_at_call 12; refine (works_any _).mono ?_; rintro e w' ⟨rfl, hb⟩))
  go_ret
  exact ⟨rfl, by assumption⟩

end Go.Proofs.Ytldfbbgboelngab.maskChoose
