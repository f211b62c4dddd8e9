/- The document's readers (trystref02): Left, End, take; 'Rd' of ORead serves them too. -/
import Derived.Test.YtgcpckkhkppnhaaORead
namespace Go.Proofs.Ytgcpckkhkppnhaa
open Go.RowKit
set_option linter.unusedVariables false
set_option linter.unusedSimpArgs false

/-- append of a slice that is seen, at a step of a region that draws its order. -/
theorem step_append_seen {ops : Array Oper} {o : Oper} {a : Act} {K : Act → World → Prop} {Q : Exit → Act → World → Prop} {E : Prop} {w : World} (hgd : o.guard = none) (s x : Operand)
    (ho : o.op = .call { callee := .builtin .append, args := #[s, x], argTypes := #[22, 22] }) (base : Nat) (v : Value) (n : Nat) (xs : List Value) (hs : a.eval s = v) (hown : w.ownsRow base 5 1 v n xs)
    (ao : Option Addr) (m c : Nat) (zs : List Int) (hx : a.eval x = .slice ao m c) (hsn : Seen w ao m zs) (hc : ao = none → c = 0) (hb : n + m ≤ 140737488355328) (hbase : base ≤ w.heap.size)
    (h : ∀ v' w', w'.ownsRow base 5 1 v' (n + m) (xs ++ zs.map (Value.int .u8)) → w.grownBy w' v.ownBlock → K (a.put o.dst v') w') :
    if Region.wanted o (yielded ops a.tmps) = true then Oper.wp Try.prog o a w K Q else E := by
  have hw : Region.wanted o (yielded ops a.tmps) = true := by simp [Region.wanted, hgd]
  rw [if_pos hw]
  obtain ⟨i0, hi, hz0, hz1, hz2⟩ := info_parts info_byte
  cases ao with
  | none =>
    obtain ⟨rfl, rfl⟩ := seen_nil hsn
    obtain rfl := hc rfl
    have hrun := run_append_owned_none (P := Try.prog) (w := w) base 22 o.type 5 i0 1 Try.underlying22 hi v n xs hown
    have h' := h v w (by simpa using hown) ⟨rfl, rfl, rfl, Nat.le_refl _, fun _ _ _ => rfl⟩
    unfold Oper.wp
    simp [execOp, ho, resolve, invoke, builtin, hs, hx, hrun, Result.andThen]
    exact h'
  | some ad =>
    refine wp_append_own w s x 22 ho base 5 i0 (.int .u8 0) 1 1 Try.underlying22 hi hz0 hz1 hz2 rfl (by decide) v n xs hs hown ad m c (zs.map (Value.int .u8)) hx ?_ (seen_news hsn rfl) (one_bytes zs) ?_ ?_ hbase (fun v' w' h1 h2 _ => h v' w' h1 h2)
    · rw [List.length_map, hsn.len, Nat.mul_one]
    · unfold maxLen; omega
    · omega
/-- A piece of a reader's bytes. -/
theorem Rd.piece {w : World} {r : Nat} {ao : Option Addr} {c : Nat} {zs : List Int} {p : Nat} {e : Int} (h : Rd w r ao c zs p e) (m : Nat) (hm : p + m ≤ zs.length) :
    ∃ so, (∀ wx, (Instr.slice 22 (.slice ao zs.length c) (some (.int .i64 p)) (some (.int .i64 ((p : Int) + m))) none).run Try.prog wx = .ok (.slice so m (c - p)) wx) ∧ Seen w so m ((zs.drop p).take m) ∧ (so = none → c - p = 0) := by
  have hlc : zs.length ≤ c := by
    rcases h.own.2 with ⟨h1, h2⟩ | ⟨g, cap, cur, h1, _, _, h4, _⟩
    · omega
    · simp only [Value.slice.injEq] at h1; omega
  have ht : Try.prog.underlying 22 = some (.slice (Try.prog.elem 22)) := by kernel_rfl
  have hz : ∀ wx, (sizeOf (Try.prog.elem 22)).run Try.prog wx = .ok 1 wx := fun wx => by kernel_rfl
  have run : ∀ wx, (Instr.slice 22 (.slice ao zs.length c) (some (.int .i64 p)) (some (.int .i64 ((p : Int) + m))) none).run Try.prog wx = .ok (sliced ao p (p + m) c 1) wx := fun wx => by
    rw [run_slice_lh wx 22 ao zs.length c ht .i64 .i64 p ((p : Int) + m) (by omega) (by omega) (by omega), hz]
    have e : ((p : Int) + m).toNat = p + m := by omega
    simp [Result.andThen, e]
  by_cases hcp : c = p
  · have hm0 : m = 0 := by omega
    subst hm0
    refine ⟨ao, fun wx => ?_, by rw [List.take_zero]; exact Seen.empty _ _, fun _ => by omega⟩
    rw [run wx, sliced, if_pos hcp]
    simp
  · obtain ⟨g, rfl⟩ : ∃ g, ao = some ⟨g, 0, none⟩ := by
      rcases h.own.2 with ⟨h1, h2⟩ | ⟨g, cap, cur, h1, _⟩
      · simp only [Value.slice.injEq] at h1; omega
      · simp only [Value.slice.injEq] at h1; exact ⟨g, h1.1⟩
    refine ⟨some ⟨g, p, none⟩, fun wx => ?_, seen_sub (RowAt.of_own h.own).1 hm (by have := h.ht; omega) h.hb, fun h => by cases h⟩
    rw [run wx, sliced, if_neg hcp, Nat.mul_one, Nat.add_sub_cancel_left]
    simp [add_at]
theorem rleft_any (r : Nat) (ao : Option Addr) (c : Nat) (zs : List Int) (p : Nat) (e : Int) (w : World) (h : Rd w r ao c zs p e) :
    Calls Try.prog 13 #[.pointer (some ⟨r, 0, none⟩)] w fun en w' => en = .returned (.int .i64 ((zs.length : Int) - p)) ∧ ∃ q, w' = w.drewN q := by
  have c0 := h.c0
  have c1 := h.c1
  have hp := h.hp
  have ht := h.ht
  generalize zs.length = n at *
  have i1 : -9223372036854775808 ≤ (n : Int) - p := by omega
  have i2 : (n : Int) - p ≤ 9223372036854775807 := by omega
  clear h
  go_enter Try.func13, Try.ntmps13
  go_wp2
  go_quiet (fail)
  go_wp2
  go_ret
  exact ⟨rfl, _, rfl⟩
theorem rend_any (r : Nat) (ao : Option Addr) (c : Nat) (zs : List Int) (p : Nat) (e : Int) (w : World) (h : Rd w r ao c zs p e) :
    Calls Try.prog 11 #[.pointer (some ⟨r, 0, none⟩)] w fun en w' => en = .returned (.int .i64 (endE zs.length p e)) ∧ ∃ q, w' = w.drewN q := by
  have c0 := h.c0
  have c1 := h.c1
  have c2 := h.c2
  have ht := h.ht
  generalize zs.length = n at *
  clear h
  by_cases he : e = 0
  · subst he
    by_cases hlt : p < n
    · have HE : Hid (endE n p 0 = 21) := by show _ = _; simp [endE, hlt]
      have i1 : (p : Int) < (n : Int) := by omega
      go_enter Try.func11, Try.ntmps11
      go_wp2
      go_quiet (fail)
      go_wp2
      go_ret
      exact ⟨ret_int HE.out.symm, _, rfl⟩
    · have HE : Hid (endE n p 0 = 0) := by show _ = _; simp [endE, hlt]
      have i1 : ¬ (p : Int) < (n : Int) := by omega
      go_enter Try.func11, Try.ntmps11
      go_wp2
      go_quiet (fail)
      go_wp2
      go_ret
      exact ⟨ret_int HE.out.symm, _, rfl⟩
  · have HE : Hid (endE n p e = e) := by show _ = _; simp [endE, he]
    have hne : (e != 0) = true := by simpa using he
    go_enter Try.func11, Try.ntmps11
    go_wp2
    go_ret
    exact ⟨ret_int HE.out.symm, 0, rfl⟩
set_option maxHeartbeats 1000000 in
set_option maxRecDepth 20000 in
theorem rtake_any (r : Nat) (ao : Option Addr) (c : Nat) (zs : List Int) (p : Nat) (e n : Int) (hn : -9223372036854775808 ≤ n ∧ n ≤ 9223372036854775807) (w : World) (h : Rd w r ao c zs p e) :
    Calls Try.prog 38 #[.pointer (some ⟨r, 0, none⟩), .int .i64 n] w fun en w' => ∃ v ok, en = .returned (.tuple #[v, .bool ok]) ∧ (ok = true ↔ nxE zs p e n = 0) ∧ w'.ownsRow w.heap.size 5 1 v (nxL zs p e n).length ((nxL zs p e n).map (Value.int .u8)) ∧ Rd w' r ao c zs (nxP zs p e n) (nxE zs p e n) ∧ Kept (fun k => k = r) w w' := by
  by_cases he : e = 0
  · subst he
    by_cases h0 : n < 0
    · obtain ⟨e1, e2, e3⟩ := @nx_arg zs p n h0
      rw [e1, e2, e3]
      have R1 : Hid _ := h.setErr 2
      have R2 : Hid _ := (Kept.refl (fun k => k = r) w).setCell (p := ⟨r, 2, none⟩) rfl (.int .i64 2)
      have c2 := h.c2
      have f2 := h.f2
      clear h
      go_enter Try.func38, Try.ntmps38
      go_wp2
      go_ret2
      exact ⟨_, false, rfl, by decide, World.ownsRow_nil _ _ _ _, R1.out, R2.out⟩
    · by_cases h1 : (zs.length : Int) - p < n
      · obtain ⟨e1, e2, e3⟩ := @nx_short zs p n h0 h1
        rw [e1, e2, e3]
        have HR : Hid (∀ q, Rd ((w.drewN q).setCell ⟨r, 2, none⟩ (.int .i64 20)) r ao c zs p 20 ∧ Kept (fun k => k = r) w ((w.drewN q).setCell ⟨r, 2, none⟩ (.int .i64 20))) := fun q => ⟨(h.drewN q).setErr 20, Kept.setCell (S := fun k => k = r) (a := w) (w := w.drewN q) ⟨rfl, rfl, rfl, Nat.le_refl _, fun _ _ _ => rfl⟩ (p := ⟨r, 2, none⟩) rfl (.int .i64 20)⟩
        have c0 := h.c0
        have c1 := h.c1
        have c2 := h.c2
        have f2 := h.f2
        have hp := h.hp
        have ht := h.ht
        clear h
        generalize zs.length = N at *
        have i1 : -9223372036854775808 ≤ (N : Int) - p := by omega
        have i2 : (N : Int) - p ≤ 9223372036854775807 := by omega
        go_enter Try.func38, Try.ntmps38
        go_wp2
        go_quiet (fail)
        go_wp2
        go_ret2
        exact ⟨_, false, rfl, by decide, World.ownsRow_nil _ _ _ _, (HR.out _).1, (HR.out _).2⟩
      · obtain ⟨m, rfl⟩ := Int.eq_ofNat_of_zero_le (show 0 ≤ n by omega)
        have hp := h.hp
        have ht := h.ht
        have hpm : p + m ≤ zs.length := by omega
        obtain ⟨e1, e2, e3⟩ := @nx_ok zs p m hpm
        rw [e1, e2, e3]
        have HH : Hid (Rd w r ao c zs p 0) := h
        have c0 := h.c0
        have c1 := h.c1
        have c2 := h.c2
        have f1 := h.f1
        have hlc : zs.length ≤ c := by
          rcases h.own.2 with ⟨h1, h2⟩ | ⟨g, cap, cur, h1, _, _, h4, _⟩
          · omega
          · simp only [Value.slice.injEq] at h1; omega
        have HL2 : Hid (((zs.drop p).take m).length = m) := by show _ = _; simp; omega
        have HN : Hid (p + m ≤ zs.length) := hpm
        clear h e1 e2 e3
        obtain ⟨N, hN⟩ : ∃ N, zs.length = N := ⟨_, rfl⟩
        rw [hN] at c0 hlc ht hp h1 hpm
        have HNN : Hid (zs.length = N) := hN
        clear hN
        have i1 : -9223372036854775808 ≤ (N : Int) - p := by omega
        have i2 : (N : Int) - p ≤ 9223372036854775807 := by omega
        have i3 : (0 : Int) ≤ (p : Int) := by omega
        have i4 : (p : Int) ≤ (p : Int) + (m : Int) := by omega
        have i5 : (p : Int) + (m : Int) ≤ (c : Int) := by omega
        go_enter Try.func38, Try.ntmps38
        go_wp2
        go_quiet (fail)
        go_wp2
        generalize hW : w.drewN _ = W
        have RW : Rd W r ao c zs p 0 := by rw [← hW]; exact HH.out.drewN _
        have KW : Hid (Kept (fun k => k = r) w W) := by rw [← hW]; exact ⟨rfl, rfl, rfl, Nat.le_refl _, fun _ _ _ => rfl⟩
        have zW : w.heap.size ≤ W.heap.size := by rw [← hW]; exact Nat.le_refl _
        obtain ⟨so, hsl, sso, hso⟩ := RW.piece m HN.out
        have d0 := RW.c0
        have d1 := RW.c1
        rw [HNN.out] at d0 hsl
        have HRW : Hid (Rd W r ao c zs p 0) := RW
        have rlt : r < W.drew.heap.size := RW.lt
        have hwr : IntKind.i64.wrap ((p : Int) + (m : Int)) = (p : Int) + (m : Int) := by rw [IntKind.wrap_i64]; omega
        clear hW RW c0 c1 c2 f1
        have sso' : Seen W.drew so m ((zs.drop p).take m) := sso.drew
        go_region_held3 (fun w' => w'.cell? ⟨r, 0, none⟩ = some (.slice ao N c) ∧ w'.cell? ⟨r, 1, none⟩ = some (.int .i64 p)) (first | (go_keep; done) | (exact ⟨(World.grownBy.cell_far g1 ⟨r, 0, none⟩ rlt (by intro e; cases e)).trans d0, (World.grownBy.cell_far g1 ⟨r, 1, none⟩ rlt (by intro e; cases e)).trans d1⟩)) (first | (refine step_append_seen (by rfl) (.tmp 32) (.tmp 47) (by rfl) w.heap.size (.slice none 0 0) 0 [] (by rfl) (World.ownsRow_nil _ _ _ _) so m (c - p) ((zs.drop p).take m) (by rfl) sso' hso (by omega) zW ?_; intro v1 w1 o1 g1))
        have KK : Kept (fun k => k = r) W w1 := ((Kept.refl _ W).drew).grown g1 (fun k h => by cases h)
        have R1 : Rd w1 r ao c zs p 0 := HRW.out.kept (S := fun _ => False) (((Kept.refl _ W).drew).grown g1 (fun k h => by cases h)) (fun x => x) (fun _ _ x => x)
        have x1 := R1.c1
        have y1 := R1.f1
        have ec : ((p + m : Nat) : Int) = (p : Int) + (m : Int) := by omega
        have R2 := R1.setPlace (p + m) HN.out
        have K2 := (KW.out.trans KK).setCell (p := ⟨r, 1, none⟩) rfl (.int .i64 ((p : Int) + (m : Int)))
        rw [ec] at R2
        have O2 : (w1.setCell ⟨r, 1, none⟩ (.int .i64 ((p : Int) + (m : Int)))).ownsRow w.heap.size 5 1 v1 ((zs.drop p).take m).length (((zs.drop p).take m).map (Value.int .u8)) := by
          rw [HL2.out]
          have o2 : w1.ownsRow w.heap.size 5 1 v1 m (((zs.drop p).take m).map (Value.int .u8)) := by simpa using o1
          exact own_block o2 fun k hk => Below.heap_setCell _ _ _ _ (by
            have h1 := (o2.lt k hk).1
            have h2 := HH.out.lt
            show k ≠ r
            omega)
        have HF : Hid _ := And.intro O2 (And.intro R2 K2)
        clear o1 g1 KK R1 R2 K2 O2 ec d0 d1 hsl sso sso' hso
        go_wp2
        go_ret2
        exact ⟨_, true, rfl, by simp, HF.out.1, HF.out.2.1, HF.out.2.2⟩
  · obtain ⟨e1, e2, e3⟩ := @nx_err zs p e n he
    rw [e1, e2, e3]
    have hne : (e != 0) = true := by simpa using he
    have c2 := h.c2
    have HH : Hid (Rd w r ao c zs p e) := h
    clear h
    go_enter Try.func38, Try.ntmps38
    go_wp2
    go_ret2
    exact ⟨_, false, rfl, by simpa using he, World.ownsRow_nil _ _ _ _, HH.out, Kept.refl _ _⟩
theorem rbytes_rd (r : Nat) (ao : Option Addr) (c : Nat) (zs : List Int) (p : Nat) (e n : Int) (hn : -9223372036854775808 ≤ n ∧ n ≤ 9223372036854775807) (w : World) (h : Rd w r ao c zs p e) :
    Calls Try.prog 24 #[.pointer (some ⟨r, 0, none⟩), .int .i64 n] w fun en w' => ∃ v, en = .returned v ∧ w'.ownsRow w.heap.size 5 1 v (nxL zs p e n).length ((nxL zs p e n).map (Value.int .u8)) ∧ Rd w' r ao c zs (nxP zs p e n) (nxE zs p e n) ∧ Kept (fun k => k = r) w w' := by
  go_enter Try.func24, Try.ntmps24
  go_wp2_with fail
  refine (rtake_any r ao c zs p e n hn w h).mono ?_
  rintro en w1 ⟨v, ok, rfl, _, o1, r1, k1⟩
  have HF : Hid _ := And.intro o1 (And.intro r1 k1)
  clear o1 r1 k1 h
  go_wp2
  go_ret
  exact ⟨_, rfl, HF.out.1, HF.out.2.1, HF.out.2.2⟩
end Go.Proofs.Ytgcpckkhkppnhaa
