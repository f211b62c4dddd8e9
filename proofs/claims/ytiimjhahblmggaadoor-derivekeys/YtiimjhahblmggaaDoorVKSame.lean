/- DeriveKeys: the statements' same, over two lists of keys; keys answered or refused in one. -/
import Derived.Test.YtiimjhahblmggaaDoorRVSame
import Derived.Test.YtiimjhahblmggaaDoorVKeys
import Derived.Test.YtiimjhahblmggaaDoorRInvT
namespace Go.Proofs.YtiimjhahblmggaaDoor
open Go.RowKit
set_option linter.unusedVariables false
set_option linter.unusedSimpArgs false

theorem KeysAt.later {w w' : World} {vo : Option Addr} {n : Nat} {E : List Int} (h : KeysAt w vo n E) {B : Nat} (hb : Below B w w') (hB : w.heap.size ≤ B) : KeysAt w' vo n E :=
  ⟨h.len, fun h0 => by
    obtain ⟨b, o, e, hlt, hc⟩ := h.cells h0
    exact ⟨b, o, e, Nat.lt_of_lt_of_le hlt hb.size, fun t ht => (hb.cell (p := ⟨b, o + t, none⟩) (Nat.lt_of_lt_of_le hlt hB)).trans (hc t ht)⟩⟩
theorem KeysAt.kept {S : Nat → Prop} {w w' : World} {vo : Option Addr} {n : Nat} {E : List Int} (h : KeysAt w vo n E) (hk : Kept S w w') (hS : ∀ b o, 0 < n → vo = some ⟨b, o, none⟩ → ¬ S b) : KeysAt w' vo n E :=
  ⟨h.len, fun h0 => by
    obtain ⟨b, o, e, hlt, hc⟩ := h.cells h0
    exact ⟨b, o, e, Nat.lt_of_lt_of_le hlt hk.size, fun t ht => (World.cell?_of_block (w := w) (a := ⟨b, o + t, none⟩) (hk.block b hlt (hS b o h0 e))).trans (hc t ht)⟩⟩
set_option maxRecDepth 20000 in
set_option maxHeartbeats 1000000 in
theorem vsame_yes (ao bo : Option Addr) (n c c' : Nat) (E : List Int) (w : World) (ha : KeysAt w ao n E) (hb : KeysAt w bo n E) (hn : n ≤ 255) :
    Calls Tryd.prog 31 #[.slice ao n c, .slice bo n c'] w fun e w' => e = .returned (.bool true) ∧ Below w.heap.size w w' := by
  have HA : Hid (KeysAt w ao n E ∧ KeysAt w bo n E) := ⟨ha, hb⟩
  clear ha hb
  go_enter Tryd.func31, Tryd.ntmps31
  go_wp2
  go_loopw [5] (fun i wr => ∃ k : Nat, k ≤ n ∧ i = .int .i64 k ∧ Below w.heap.size w wr) (fun i _ => n - (intOf i).toNat)
  case atStart => exact ⟨0, Nat.zero_le _, rfl, Below.refl _ _⟩
  case round =>
    obtain ⟨k, hk, rfl, hbel⟩ := hrel
    by_cases hlt : k < n
    · obtain ⟨b, o, rfl, hr⟩ := (HA.out.1.later hbel (Nat.le_refl _)).range k hlt
      obtain ⟨b', o', rfl, hr'⟩ := (HA.out.2.later hbel (Nat.le_refl _)).range k hlt
      obtain ⟨b2, o2, e2, hb2, _⟩ := HA.out.1.cells (by omega)
      obtain ⟨b3, o3, e3, hb3, _⟩ := HA.out.2.cells (by omega)
      have z0 := hbel.size
      have hbb : b < w.heap.size := by cases e2; exact hb2
      have hbb' : b' < w.heap.size := by cases e3; exact hb3
      obtain ⟨C, hC⟩ : ∃ C, (E.drop (32 * k)).take 32 = C := ⟨_, rfl⟩
      have hCl : C.length = 32 := by have := HA.out.1.len; rw [← hC]; simp; omega
      rw [hC, Nat.mul_comm] at hr hr'
      have HR : Hid (∀ W, Below wr.heap.size wr W → W.rangeAt b (o + k * 32) (u8s C) ∧ W.rangeAt b' (o' + k * 32) (u8s C)) := fun W hW => ⟨fun j v hv => (hW.cell (p := ⟨b, o + k * 32 + j, none⟩) (by show b < _; omega)).trans (hr j v hv), fun j v hv => (hW.cell (p := ⟨b', o' + k * 32 + j, none⟩) (by show b' < _; omega)).trans (hr' j v hv)⟩
      have heq : ∀ wx, (Op.equalIn 10000 65 (.agg (u8s C).toArray) (.agg (u8s C).toArray)).run Tryd.prog wx = .ok true wx := equal_selfK 9998 C hCl
      have u2 : (Tryd.prog.info? 65).map (·.size) = some (u8s C).length := by rw [u8s_length, hCl]; exact sizeKey
      have i1 : (0 : Int) ≤ (k : Int) := by omega
      have i2 : (k : Int) < (n : Int) := by omega
      have HB : Hid (Below w.heap.size w wr) := hbel
      clear hr hr' hC hCl hbel e2 e3 hb2 hb3 z0 hbb hbb'
      go_wp2
      refine region_invT [.val (.slice (some ⟨b, o, none⟩) n c), .val (.int .i64 (k : Int)), .val (.pointer (some ⟨b, o + k * 32, none⟩)), .val (.agg (u8s C).toArray), .val (.slice (some ⟨b', o', none⟩) n c'), .val (.int .i64 (k : Int)), .val (.pointer (some ⟨b', o' + k * 32, none⟩)), .val (.agg (u8s C).toArray)] (by kernel_rfl) (by kernel_rfl) (by kernel_rfl) ?_ ?_
      · refine Steps'.cons ?_ (Steps'.cons ?_ (Steps'.cons ?_ (Steps'.cons ?_ (Steps'.cons ?_ (Steps'.cons ?_ (Steps'.cons ?_ (Steps'.cons ?_ (Steps'.one _ _ _ _ _ _ _))))))))
        · intro ax wx hb hs hd
          have h0 : ax.tmps.getD 0 undef = (.slice (some ⟨b, o, none⟩) n c) := hs 0 (by kernel_rfl)
          refine Does.value (.slice (some ⟨b, o, none⟩) n c) ?_ rfl
          clear hs hd
          go_simp
        · intro ax wx hb hs hd
          have h5 : ax.tmps.getD 5 undef = (.int .i64 (k : Int)) := hs 5 (by kernel_rfl)
          refine Does.value (.int .i64 (k : Int)) ?_ rfl
          clear hs hd
          go_simp
        · intro ax wx hb hs hd
          have h17 : ax.tmps.getD 17 undef = (.slice (some ⟨b, o, none⟩) n c) := hd 0 17 rfl (by kernel_rfl) (by decide)
          have h18 : ax.tmps.getD 18 undef = (.int .i64 (k : Int)) := hd 1 18 rfl (by kernel_rfl) (by decide)
          refine Does.value (.pointer (some ⟨b, o + k * 32, none⟩)) ?_ rfl
          clear hs hd
          go_simp
        · intro ax wx hb hs hd
          have h19 : ax.tmps.getD 19 undef = (.pointer (some ⟨b, o + k * 32, none⟩)) := hd 2 19 rfl (by kernel_rfl) (by decide)
          exact Does.load 65 (.tmp 19) rfl b (o + k * 32) h19 (u8s C) _ (HR.out _ hb).1 Tryd.underlying65 rfl u2
        · intro ax wx hb hs hd
          have h1 : ax.tmps.getD 1 undef = (.slice (some ⟨b', o', none⟩) n c') := hs 1 (by kernel_rfl)
          refine Does.value (.slice (some ⟨b', o', none⟩) n c') ?_ rfl
          clear hs hd
          go_simp
        · intro ax wx hb hs hd
          have h5 : ax.tmps.getD 5 undef = (.int .i64 (k : Int)) := hs 5 (by kernel_rfl)
          refine Does.value (.int .i64 (k : Int)) ?_ rfl
          clear hs hd
          go_simp
        · intro ax wx hb hs hd
          have h21 : ax.tmps.getD 21 undef = (.slice (some ⟨b', o', none⟩) n c') := hd 4 21 rfl (by kernel_rfl) (by decide)
          have h22 : ax.tmps.getD 22 undef = (.int .i64 (k : Int)) := hd 5 22 rfl (by kernel_rfl) (by decide)
          refine Does.value (.pointer (some ⟨b', o' + k * 32, none⟩)) ?_ rfl
          clear hs hd
          go_simp
        · intro ax wx hb hs hd
          have h23 : ax.tmps.getD 23 undef = (.pointer (some ⟨b', o' + k * 32, none⟩)) := hd 6 23 rfl (by kernel_rfl) (by decide)
          exact Does.load 65 (.tmp 23) rfl b' (o' + k * 32) h23 (u8s C) _ (HR.out _ hb).2 Tryd.underlying65 rfl u2
      · intro wx hb
        refine @Ends.val _ _ _ _ _ _ _ _ _ (.slice (some ⟨b, o, none⟩) n c) rfl ?_
        refine @Ends.val _ _ _ _ _ _ _ _ _ (.int .i64 (k : Int)) rfl ?_
        refine @Ends.val _ _ _ _ _ _ _ _ _ (.pointer (some ⟨b, o + k * 32, none⟩)) rfl ?_
        refine @Ends.val _ _ _ _ _ _ _ _ _ (.agg (u8s C).toArray) rfl ?_
        refine @Ends.val _ _ _ _ _ _ _ _ _ (.slice (some ⟨b', o', none⟩) n c') rfl ?_
        refine @Ends.val _ _ _ _ _ _ _ _ _ (.int .i64 (k : Int)) rfl ?_
        refine @Ends.val _ _ _ _ _ _ _ _ _ (.pointer (some ⟨b', o' + k * 32, none⟩)) rfl ?_
        refine @Ends.val _ _ _ _ _ _ _ _ _ (.agg (u8s C).toArray) rfl ?_
        refine @Ends.one _ _ _ _ _ _ _ ?_
        simp only [Act.put, List.setIfInBounds_toArray, List.set_cons_zero, List.set_cons_succ]
        have HX : Hid (Below w.heap.size w wx) := below_chain HB.out hb HB.out.size
        clear hb
        refine Does.wp (base := 0) (E := .val (.bool false)) (Does.value (.bool false) (by go_simp) rfl) (fun v w' hv hw' => ?_)
        obtain rfl : v = .bool false := hv
        have HX' : Hid (Below w.heap.size w w') := below_chain HX.out hw' HX.out.size
        clear hw'
        simp only [Act.put, List.setIfInBounds_toArray, List.set_cons_zero, List.set_cons_succ]
        go_wp2
        exact ⟨⟨k + 1, by omega, by go_num, HX'.out⟩, by simp [intOf]; omega⟩
    · obtain rfl : k = n := by omega
      have HB : Hid (Below w.heap.size w wr) := hbel
      clear hbel
      go_wp2
      go_ret
      exact ⟨rfl, HB.out⟩
/-- How many keys there are. -/
def nK (N : Int) : Nat := if ccE N 255 = 0 then N.toNat else 0
theorem nK_le (N : Int) : nK N ≤ 255 := by
  unfold nK
  by_cases h : ccE N 255 = 0
  · rw [if_pos h]
    unfold ccE at h
    split at h
    · cases h
    · split at h
      · cases h
      · omega
  · rw [if_neg h]; omega
theorem nK_good {N : Int} (h : ccE N 255 = 0) : N = (nK N : Int) := by
  have : 0 ≤ N := by
    unfold ccE at h
    split at h
    · cases h
    · omega
  unfold nK
  rw [if_pos h]
  omega
theorem exps_nil (a b : List Int) : exps a b 0 = [] := by
  have := exps_length a b 0
  exact List.eq_nil_of_length_eq_zero this
theorem KeysAt.none (w : World) (vo : Option Addr) : KeysAt w vo 0 [] := ⟨rfl, fun h => by omega⟩
theorem KeysAt.blk {w : World} {R n : Nat} {E : List Int} (h : Blk w R 65 (u8s E)) (hl : E.length = 32 * n) : KeysAt w (some ⟨R, 0, Option.none⟩) n E :=
  ⟨hl, fun h0 => ⟨R, 0, rfl, h.lt, fun t ht => by rw [Nat.zero_add]; exact u8s_cell h t (by omega)⟩⟩
theorem vkeys_all (so : Option Addr) (sn sc : Nat) (salt : List Int) (xo : Option Addr) (xn xc : Nat) (sec : List Int) (io : Option Addr) (im ic : Nat) (info : List Int) (N : Int) (w : World) (hs : Seen w so sn salt) (hsc : sn ≤ sc) (hx : Seen w xo xn sec) (hxc : xn ≤ xc) (hi : Seen w io im info) (hic : im ≤ ic) (hK : KTab w) :
    Calls Tryd.prog 30 #[.slice so sn sc, .slice xo xn xc, .slice io im ic, .int .i64 N] w fun e w' => ∃ vo, e = .returned (.tuple #[.slice vo (nK N) (nK N), .int .i64 (ccE N 255)]) ∧ KeysAt w' vo (nK N) (exps (mac salt sec) info (32 * nK N)) ∧ w'.ownsRow w.heap.size 65 32 (.slice vo (nK N) (nK N)) (nK N) (u8s (exps (mac salt sec) info (32 * nK N))) ∧ Below w.heap.size w w' := by
  by_cases h : ccE N 255 = 0
  · have hN := nK_good h
    have hle := nK_le N
    rw [h]
    obtain ⟨n, hn⟩ : ∃ n, nK N = n := ⟨_, rfl⟩
    rw [hn] at hN hle ⊢
    subst hN
    refine (vkeys_any so sn sc salt xo xn xc sec io im ic info n hle w hs hsc hx hxc hi hic hK).mono ?_
    rintro e w1 ⟨R, rfl, hR, hb, l⟩
    have hl := exps_length (mac salt sec) info (32 * n)
    refine ⟨_, rfl, .blk hb hl, ⟨by rw [u8s_length, hl, Nat.mul_comm], .inr ⟨R, n, _, rfl, hR, hb, Nat.le_refl _, by unfold maxLen; omega, by rw [List.size_toArray, u8s_length, hl, Nat.mul_comm], ?_⟩⟩, l⟩
    rw [List.take_of_length_le (by rw [u8s_length, hl]; omega)]
  · have e0 : nK N = 0 := by unfold nK; rw [if_neg h]
    rw [e0]
    refine (vkeys_bad so sn sc xo xn xc io im ic N w h).mono ?_
    rintro e _ ⟨rfl, rfl⟩
    rw [Nat.mul_zero, exps_nil]
    exact ⟨none, rfl, .none _ _, ⟨rfl, .inl ⟨rfl, rfl⟩⟩, Below.refl _ _⟩
theorem rkeys_all (so : Option Addr) (sn sc : Nat) (salt : List Int) (xo : Option Addr) (xn xc : Nat) (sec : List Int) (io : Option Addr) (im ic : Nat) (info : List Int) (N : Int) (w : World) (hs : Seen w so sn salt) (hsc : so = none → sc = 0) (hsn : sn ≤ 1048576) (hx : Seen w xo xn sec) (hxc : xo = none → xc = 0) (hxn : xn ≤ 1048576) (hi : Seen w io im info) (hic : io = none → ic = 0) (him : im ≤ 1048576) :
    Calls Tryd.prog 29 #[.slice so sn sc, .slice xo xn xc, .slice io im ic, .int .i64 N] w fun e w' => ∃ vo cap, e = .returned (.slice vo (nK N) cap) ∧ KeysAt w' vo (nK N) (exps (mac salt sec) info (32 * nK N)) ∧ Below w.heap.size w w' := by
  by_cases h : ccE N 255 = 0
  · have hN := nK_good h
    have hle := nK_le N
    obtain ⟨n, hn⟩ : ∃ n, nK N = n := ⟨_, rfl⟩
    rw [hn] at hN hle ⊢
    subst hN
    exact rkeys_any so sn sc salt xo xn xc sec io im ic info n hle w hs hsc hsn hx hxc hxn hi hic him
  · have e0 : nK N = 0 := by unfold nK; rw [if_neg h]
    rw [e0]
    refine (rkeys_bad so sn sc xo xn xc io im ic N w h).mono ?_
    rintro e _ ⟨rfl, rfl⟩
    rw [Nat.mul_zero, exps_nil]
    exact ⟨none, 0, rfl, .none _ _, Below.refl _ _⟩
end Go.Proofs.YtiimjhahblmggaaDoor
