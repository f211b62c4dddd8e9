/- The document's Keys of a number that may not be; keys read whole. -/
import Derived.Test.YtiimjhahblmggaaDoorRVKeys
import Derived.Test.YtiimjhahblmggaaDoorDHeld
namespace Go.Proofs.YtiimjhahblmggaaDoor
open Go.RowKit
set_option linter.unusedVariables false
set_option linter.unusedSimpArgs false

set_option maxRecDepth 20000 in
theorem rkeys_bad (so : Option Addr) (sn sc : Nat) (xo : Option Addr) (xn xc : Nat) (io : Option Addr) (im ic : Nat) (N : Int) (w : World) (h : ccE N 255 ≠ 0) :
    Calls Tryd.prog 29 #[.slice so sn sc, .slice xo xn xc, .slice io im ic, .int .i64 N] w fun e w' => e = .returned (.slice none 0 0) ∧ w = w' := by
  have h2 : (ccE N 255 == 0) = false := by simpa using h
  obtain ⟨E, hE⟩ : ∃ E, ccE N 255 = E := ⟨_, rfl⟩
  have HE : Hid (ccE N 255 = E) := hE
  rw [hE] at h2 h
  clear hE
  go_enter Tryd.func29, Tryd.ntmps29
  go_wp2_with (go_at_call 22; refine (wrong_any N 255 _).mono ?_; rintro e _ ⟨rfl, rfl⟩; rw [HE.out])
  go_ret
  exact ⟨rfl, rfl⟩
theorem KeysAt.range {w : World} {vo : Option Addr} {n : Nat} {E : List Int} (h : KeysAt w vo n E) (k : Nat) (hk : k < n) : ∃ b o, vo = some ⟨b, o, none⟩ ∧ w.rangeAt b (o + 32 * k) (u8s ((E.drop (32 * k)).take 32)) := by
  obtain ⟨b, o, rfl, hb, hc⟩ := h.cells (by omega)
  refine ⟨b, o, rfl, fun j v hv => ?_⟩
  have hl := h.len
  have hj : j < 32 := by have := (List.getElem?_eq_some_iff.1 hv).1; rw [u8s_length] at this; simp at this; omega
  rw [Nat.add_assoc, hc (32 * k + j) (by omega), ← hv]
  have e : 32 * k + j < E.length := by omega
  simp [u8s, List.getD, List.getElem?_take, List.getElem?_drop, hj, e]
theorem equal_selfK (d : Nat) (zs : List Int) (hl : zs.length = 32) (w : World) : (Op.equalIn (d + 2) 65 (.agg (u8s zs).toArray) (.agg (u8s zs).toArray)).run Tryd.prog w = .ok true w := by
  have hsz : ∀ w, (sizeOf 5).run Tryd.prog w = .ok 1 w := fun w => by
    have h := infoByte
    cases hq : Tryd.prog.info? 5 with
    | none => simp [hq] at h
    | some i => simp [hq] at h; simp [sizeOf, typeInfo, hq, h.2]
  have ht := Tryd.underlying65
  have he := Tryd.underlying5
  rw [Op.equalIn]
  simp only [Sem.run_bind, run_underlying ht, Result.andThen_ok, hsz, Std.Legacy.Range.forIn_eq_forIn_range', Std.Legacy.Range.size, Nat.sub_zero, Nat.add_sub_cancel, Nat.div_one]
  have hlr : ∀ i ∈ List.range' 0 32 1, i < 32 := fun i hi => by simpa using (List.mem_range'_1.1 hi).2
  generalize List.range' 0 32 1 = l at hlr ⊢
  induction l with
  | nil => simp
  | cons i l ih =>
    have hi : i < 32 := hlr i (by simp)
    have px : (part 5 (u8s zs).toArray (i * 1)).run Tryd.prog w = .ok (.int .u8 (zs.getD i 0)) w := by
      simp [part, isAgg, run_underlying he, u8s, List.getD, List.getElem?_eq_getElem (show i < zs.length by omega)]
    have pe : (Op.equalIn (d + 1) 5 (.int .u8 (zs.getD i 0)) (.int .u8 (zs.getD i 0))).run Tryd.prog w = .ok true w := by
      rw [run_equalIn_int w d 5 .u8 .u8 _ _ he]; simp
    simp only [List.forIn_cons, Sem.run_bind, px, pe, Result.andThen_ok]
    simp only [Bool.not_true, Bool.false_eq_true, if_false, Sem.run_pure, Result.andThen_ok]
    exact ih fun j hj => hlr j (by simp [hj])
end Go.Proofs.YtiimjhahblmggaaDoor
