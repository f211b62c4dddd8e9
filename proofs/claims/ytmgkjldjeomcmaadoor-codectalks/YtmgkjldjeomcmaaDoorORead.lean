/- Layer octet: readers. -/
import Derived.Test.YtmgkjldjeomcmaaDoorOApart
namespace Go.Proofs.YtmgkjldjeomcmaaDoor
open Go.RowKit
set_option linter.unusedVariables false
set_option linter.unusedSimpArgs false

/-- A reader at block r: its bytes zs in a row of its own, its place p, its error e. -/
structure Rd (w : World) (r : Nat) (ao : Option Addr) (c : Nat) (zs : List Int) (p : Nat) (e : Int) : Prop where
  c0 : w.cell? ⟨r, 0, none⟩ = some (.slice ao zs.length c)
  c1 : w.cell? ⟨r, 1, none⟩ = some (.int .i64 p)
  c2 : w.cell? ⟨r, 2, none⟩ = some (.int .i64 e)
  f1 : w.frozen? ⟨r, 1, none⟩ = false
  f2 : w.frozen? ⟨r, 2, none⟩ = false
  own : w.ownsRow 0 5 1 (.slice ao zs.length c) zs.length (zs.map (Value.int .u8))
  hp : p ≤ zs.length
  ht : zs.length ≤ 140737488355328
  hb : Bytes zs
  ne : ∀ g, ao = some ⟨g, 0, none⟩ → g ≠ r
  lt : r < w.heap.size
theorem Rd.kept {S : Nat → Prop} {w w' : World} {r : Nat} {ao : Option Addr} {c : Nat} {zs : List Int} {p : Nat} {e : Int} (h : Rd w r ao c zs p e) (hk : Kept S w w') (hr : ¬ S r) (hg : ∀ g, ao = some ⟨g, 0, none⟩ → ¬ S g) : Rd w' r ao c zs p e :=
  ⟨(hk.cell (p := ⟨r, 0, none⟩) h.lt hr).trans h.c0, (hk.cell (p := ⟨r, 1, none⟩) h.lt hr).trans h.c1, (hk.cell (p := ⟨r, 2, none⟩) h.lt hr).trans h.c2,
    (World.frozen?_of_block (a := ⟨r, 1, none⟩) (hk.block r h.lt hr)).trans h.f1, (World.frozen?_of_block (a := ⟨r, 2, none⟩) (hk.block r h.lt hr)).trans h.f2,
    own_kept h.own hk (fun k hk' => hg k (own_addr h.own hk')), h.hp, h.ht, h.hb, h.ne, Nat.lt_of_lt_of_le h.lt hk.size⟩
theorem kept_of_below {S : Nat → Prop} {w w' : World} {B : Nat} (h : Below B w w') (hB : w.heap.size ≤ B) : Kept S w w' := ⟨h.os, h.tape, h.output, h.size, fun k hk _ => h.block k (Nat.lt_of_lt_of_le hk hB)⟩
theorem Rd.later {w w' : World} {r : Nat} {ao : Option Addr} {c : Nat} {zs : List Int} {p : Nat} {e : Int} (h : Rd w r ao c zs p e) {B : Nat} (hb : Below B w w') (hB : w.heap.size ≤ B) : Rd w' r ao c zs p e :=
  h.kept (S := fun _ => False) (kept_of_below hb hB) (fun x => x) (fun _ _ x => x)
theorem Rd.drewN {w : World} {r : Nat} {ao : Option Addr} {c : Nat} {zs : List Int} {p : Nat} {e : Int} (h : Rd w r ao c zs p e) (q : Nat) : Rd (w.drewN q) r ao c zs p e := h.later (B := w.heap.size) (below_dn (Below.refl _ _) q) (Nat.le_refl _)

theorem own_form {w : World} {base : Nat} {e : TypeId} {v : Value} {n : Nat} {xs : List Value} (h : w.ownsRow base e 1 v n xs) : ∃ vo cv, v = .slice vo n cv := by
  rcases h.2 with ⟨rfl, rfl⟩ | ⟨g, cap, cur, rfl, _⟩
  · exact ⟨none, 0, rfl⟩
  · exact ⟨_, cap, rfl⟩
theorem Rd.new {w1 : World} {base : Nat} {vo : Option Addr} {n cv : Nat} {zs : List Int} (o1 : w1.ownsRow base 5 1 (.slice vo n cv) n (zs.map (Value.int .u8))) (hl : zs.length = n) (hb : Bytes zs) (ht : n ≤ 140737488355328) :
    Rd (w1.alloc (.cells #[.slice vo n cv, .int .i64 0, .int .i64 0] 117)) w1.heap.size vo cv zs 0 0 := by
  subst hl
  have h : (w1.alloc (.cells #[.slice vo zs.length cv, .int .i64 0, .int .i64 0] 117)).heap[w1.heap.size]? = some (.cells #[.slice vo zs.length cv, .int .i64 0, .int .i64 0] 117 (0, 0)) := heap_alloc_new w1 _
  refine ⟨?_, ?_, ?_, ?_, ?_, (ownsRow_base o1 (Nat.zero_le _)).alloc _, Nat.zero_le _, ht, hb, fun g hg => ?_, by simp⟩
  · rw [cell_of_row _ _ 0 _ 117 (0, 0) h]; rfl
  · rw [cell_of_row _ _ 1 _ 117 (0, 0) h]; rfl
  · rw [cell_of_row _ _ 2 _ 117 (0, 0) h]; rfl
  · exact frozen_of_row _ _ 1 _ 117 h
  · exact frozen_of_row _ _ 2 _ 117 h
  · subst hg
    have := (o1.lt g rfl).2
    omega
theorem Rd.setErr {w : World} {r : Nat} {ao : Option Addr} {c : Nat} {zs : List Int} {p : Nat} {e : Int} (h : Rd w r ao c zs p e) (e' : Int) : Rd (w.setCell ⟨r, 2, none⟩ (.int .i64 e')) r ao c zs p e' := by
  refine ⟨?_, ?_, ?_, by simpa using h.f1, by simpa using h.f2, ?_, h.hp, h.ht, h.hb, h.ne, by simpa [World.setCell] using h.lt⟩
  · rw [World.cell?_setCell_other _ _ _ _ (by simp)]; exact h.c0
  · rw [World.cell?_setCell_other _ _ _ _ (by simp)]; exact h.c1
  · exact World.cell?_setCell_same _ _ _ h.c2
  · exact own_block h.own fun k hk => Below.heap_setCell _ _ _ _ (h.ne k (own_addr h.own hk))
theorem Rd.setPlace {w : World} {r : Nat} {ao : Option Addr} {c : Nat} {zs : List Int} {p : Nat} {e : Int} (h : Rd w r ao c zs p e) (p' : Nat) (hp : p' ≤ zs.length) : Rd (w.setCell ⟨r, 1, none⟩ (.int .i64 p')) r ao c zs p' e := by
  refine ⟨?_, ?_, ?_, by simpa using h.f1, by simpa using h.f2, ?_, hp, h.ht, h.hb, h.ne, by simpa [World.setCell] using h.lt⟩
  · rw [World.cell?_setCell_other _ _ _ _ (by simp)]; exact h.c0
  · exact World.cell?_setCell_same _ _ _ h.c1
  · rw [World.cell?_setCell_other _ _ _ _ (by simp)]; exact h.c2
  · exact own_block h.own fun k hk => Below.heap_setCell _ _ _ _ (h.ne k (own_addr h.own hk))

theorem newReader_any (ao : Option Addr) (n c : Nat) (zs : List Int) (w : World) (hx : Seen w ao n zs) :
    Calls Tryd.prog 69 #[.slice ao n c] w fun e w' => ∃ r ao' c', e = .returned (.pointer (some ⟨r, 0, none⟩)) ∧ Rd w' r ao' c' zs 0 0 ∧ w.heap.size ≤ r ∧ (∀ g, ao' = some ⟨g, 0, none⟩ → w.heap.size ≤ g) ∧ Below w.heap.size w w' := by
  have HX : Hid (zs.length = n ∧ Bytes zs ∧ n ≤ 140737488355328) := ⟨hx.len, hx.bytes, hx.top⟩
  go_enter Tryd.func69, Tryd.ntmps69
  go_wp2_with fail
  refine (clone_any ao n c zs w hx).mono ?_
  rintro e w1 ⟨v, rfl, o1, b1⟩
  obtain ⟨vo, cv, rfl⟩ := own_form o1
  have HR : Hid (Rd (w1.alloc (.cells #[.slice vo n cv, .int .i64 0, .int .i64 0] 117)) w1.heap.size vo cv zs 0 0) := Rd.new o1 HX.out.1 HX.out.2.1 HX.out.2.2
  have HG : Hid (∀ g, vo = some ⟨g, 0, none⟩ → w.heap.size ≤ g) := fun g hg => by subst hg; exact (o1.lt g rfl).1
  have HB : Hid (Below w.heap.size w (w1.alloc (.cells #[.slice vo n cv, .int .i64 0, .int .i64 0] 117))) := b1.alloc b1.size _
  have zb := b1.size
  clear o1 b1
  go_wp2
  go_ret
  exact ⟨_, vo, cv, rfl, HR.out, zb, HG.out, HB.out⟩

theorem err_any (r : Nat) (ao : Option Addr) (c : Nat) (zs : List Int) (p : Nat) (e : Int) (w : World) (h : Rd w r ao c zs p e) :
    Calls Tryd.prog 87 #[.pointer (some ⟨r, 0, none⟩)] w fun en w' => en = .returned (.int .i64 e) ∧ w = w' := by
  have c2 := h.c2
  clear h
  go_enter Tryd.func87, Tryd.ntmps87
  go_wp2
  go_ret
  exact ⟨rfl, rfl⟩
theorem left_any (r : Nat) (ao : Option Addr) (c : Nat) (zs : List Int) (p : Nat) (e : Int) (w : World) (h : Rd w r ao c zs p e) :
    Calls Tryd.prog 70 #[.pointer (some ⟨r, 0, none⟩)] w fun en w' => en = .returned (.int .i64 ((zs.length : Int) - p)) ∧ ∃ q, w' = w.drewN q := by
  have c0 := h.c0
  have c1 := h.c1
  have hp := h.hp
  have ht := h.ht
  generalize zs.length = n at *
  have i1 : -9223372036854775808 ≤ (n : Int) - p := by omega
  have i2 : (n : Int) - p ≤ 9223372036854775807 := by omega
  clear h
  go_enter Tryd.func70, Tryd.ntmps70
  go_wp2
  go_quiet (fail)
  go_wp2
  go_ret
  exact ⟨rfl, _, rfl⟩
/-- The End of a reader. -/
def endE (n p : Nat) (e : Int) : Int := if e ≠ 0 then e else if p < n then 21 else 0
/-- What next answers, where the reader is behind it, its error then. -/
def nxL (zs : List Int) (p : Nat) (e n : Int) : List Int := if e ≠ 0 ∨ n < 0 ∨ (zs.length : Int) - p < n then [] else (zs.drop p).take n.toNat
def nxP (zs : List Int) (p : Nat) (e n : Int) : Nat := if e ≠ 0 ∨ n < 0 ∨ (zs.length : Int) - p < n then p else p + n.toNat
def nxE (zs : List Int) (p : Nat) (e n : Int) : Int := if e ≠ 0 then e else if n < 0 then 2 else if (zs.length : Int) - p < n then 20 else 0
theorem nx_err {zs : List Int} {p : Nat} {e n : Int} (h : e ≠ 0) : nxL zs p e n = [] ∧ nxP zs p e n = p ∧ nxE zs p e n = e := by simp [nxL, nxP, nxE, h]
theorem nx_arg {zs : List Int} {p : Nat} {n : Int} (h : n < 0) : nxL zs p 0 n = [] ∧ nxP zs p 0 n = p ∧ nxE zs p 0 n = 2 := by simp [nxL, nxP, nxE, h]
theorem nx_short {zs : List Int} {p : Nat} {n : Int} (h0 : ¬ n < 0) (h : (zs.length : Int) - p < n) : nxL zs p 0 n = [] ∧ nxP zs p 0 n = p ∧ nxE zs p 0 n = 20 := by simp [nxL, nxP, nxE, h0, h]
theorem nx_ok {zs : List Int} {p m : Nat} (h : p + m ≤ zs.length) : nxL zs p 0 (m : Int) = (zs.drop p).take m ∧ nxP zs p 0 (m : Int) = p + m ∧ nxE zs p 0 (m : Int) = 0 := by
  have h1 : ¬ ((m : Int) < 0) := by omega
  have h2 : ¬ ((zs.length : Int) - p < m) := by omega
  simp [nxL, nxP, nxE, h1, h2]

theorem seen_sub {w : World} {g p m : Nat} {zs : List Int} (h : RowAt w g zs) (hp : p + m ≤ zs.length) (ht : m ≤ 140737488355328) (hb : Bytes zs) : Seen w (some ⟨g, p, none⟩) m ((zs.drop p).take m) :=
  ⟨by simp; omega, ht, bytes_take (bytes_drop hb p) m, fun _ => ⟨g, p, rfl, h.lt, fun i hi => by
    rw [h.cell (p + i) (by omega)]
    simp [List.getD, hi]⟩⟩
set_option maxHeartbeats 1000000 in
set_option maxRecDepth 20000 in
theorem next_any (r : Nat) (ao : Option Addr) (c : Nat) (zs : List Int) (p : Nat) (e n : Int) (hn : -9223372036854775808 ≤ n ∧ n ≤ 9223372036854775807) (w : World) (h : Rd w r ao c zs p e) :
    Calls Tryd.prog 76 #[.pointer (some ⟨r, 0, none⟩), .int .i64 n] w fun en w' => ∃ so c', en = .returned (.slice so (nxL zs p e n).length c') ∧ Seen w' so (nxL zs p e n).length (nxL zs p e n) ∧ (so = none → c' = 0) ∧ Rd w' r ao c zs (nxP zs p e n) (nxE zs p e n) ∧ Kept (fun k => k = r) w w' := by
  by_cases he : e = 0
  · subst he
    have HER : ∀ W, Rd W r ao c zs p 0 → Calls Tryd.prog 87 #[.pointer (some ⟨r, 0, none⟩)] W fun en w' => en = .returned (.int .i64 0) ∧ W = w' := fun W hW => err_any r ao c zs p 0 W hW
    by_cases h0 : n < 0
    · obtain ⟨e1, e2, e3⟩ := @nx_arg zs p n h0
      rw [e1, e2, e3]
      have R1 : Hid _ := h.setErr 2
      have R2 : Hid _ := (Kept.refl (fun k => k = r) w).setCell (p := ⟨r, 2, none⟩) rfl (.int .i64 2)
      have c2 := h.c2
      have f2 := h.f2
      go_enter Tryd.func76, Tryd.ntmps76
      go_wp2_with fail
      refine (HER w h).mono ?_
      rintro e w' ⟨rfl, rfl⟩
      clear h HER
      go_wp2
      go_ret
      exact ⟨none, 0, rfl, Seen.empty _ _, fun _ => rfl, R1.out, R2.out⟩
    · by_cases h1 : (zs.length : Int) - p < n
      · obtain ⟨e1, e2, e3⟩ := @nx_short zs p n h0 h1
        rw [e1, e2, e3]
        have HL := left_any r ao c zs p 0 w h
        have HR : Hid (∀ q, Rd ((w.drewN q).setCell ⟨r, 2, none⟩ (.int .i64 20)) r ao c zs p 20 ∧ Kept (fun k => k = r) w ((w.drewN q).setCell ⟨r, 2, none⟩ (.int .i64 20))) := fun q => ⟨(h.drewN q).setErr 20, Kept.setCell (S := fun k => k = r) (a := w) (w := w.drewN q) ⟨rfl, rfl, rfl, Nat.le_refl _, fun _ _ _ => rfl⟩ (p := ⟨r, 2, none⟩) rfl (.int .i64 20)⟩
        have c2 := h.c2
        have f2 := h.f2
        generalize ((zs.length : Int) - p) = D at *
        go_enter Tryd.func76, Tryd.ntmps76
        go_wp2_with fail
        refine (HER w h).mono ?_
        rintro e w' ⟨rfl, rfl⟩
        clear h HER
        go_wp2_with fail
        refine HL.mono ?_
        rintro e _ ⟨rfl, q, rfl⟩
        go_wp2
        go_ret
        exact ⟨none, 0, rfl, Seen.empty _ _, fun _ => rfl, (HR.out q).1, (HR.out q).2⟩
      · obtain ⟨m, rfl⟩ := Int.eq_ofNat_of_zero_le (show 0 ≤ n by omega)
        have hp := h.hp
        have ht := h.ht
        have hpm : p + m ≤ zs.length := by omega
        obtain ⟨e1, e2, e3⟩ := @nx_ok zs p m hpm
        rw [e1, e2, e3]
        have HL := left_any r ao c zs p 0 w h
        have HR : Hid (∀ q, Rd ((w.drewN q).setCell ⟨r, 1, none⟩ (.int .i64 (p + m : Nat))) r ao c zs (p + m) 0 ∧ Kept (fun k => k = r) w ((w.drewN q).setCell ⟨r, 1, none⟩ (.int .i64 (p + m : Nat)))) := fun q => ⟨(h.drewN q).setPlace (p + m) hpm, Kept.setCell (S := fun k => k = r) (a := w) (w := w.drewN q) ⟨rfl, rfl, rfl, Nat.le_refl _, fun _ _ _ => rfl⟩ (p := ⟨r, 1, none⟩) rfl (.int .i64 (p + m : Nat))⟩
        have c0 := h.c0
        have c1 := h.c1
        have f1 := h.f1
        have HH : Hid (Rd w r ao c zs p 0) := h
        generalize hD : ((zs.length : Int) - p) = D at *
        go_enter Tryd.func76, Tryd.ntmps76
        go_wp2_with fail
        refine (HER w h).mono ?_
        rintro e w' ⟨rfl, rfl⟩
        clear h HER hD
        go_wp2_with fail
        refine HL.mono ?_
        rintro e _ ⟨rfl, q, rfl⟩
        go_wp2
        have hq := HR.out q
        have ec : ((p + m : Nat) : Int) = (p : Int) + (m : Int) := by omega
        rw [ec] at hq
        generalize ((w.drewN q).setCell ⟨r, 1, none⟩ (.int .i64 ((p : Int) + (m : Int)))) = W at hq ⊢
        have d0 := hq.1.c0
        have d1 := hq.1.c1
        rw [ec] at d1
        have hlc : zs.length ≤ c := by
          rcases hq.1.own.2 with ⟨h1, h2⟩ | ⟨g, cap, cur, h1, _, _, h4, _⟩
          · omega
          · simp only [Value.slice.injEq] at h1; omega
        have i1 : (0 : Int) ≤ (p : Int) := by omega
        have i2 : (p : Int) ≤ (p : Int) + (m : Int) := by omega
        have i3 : (p : Int) + (m : Int) ≤ (c : Int) := by omega
        have HQ : Hid (Rd W r ao c zs (p + m) 0 ∧ Kept (fun k => k = r) w W) := hq
        have HL2 : Hid (((zs.drop p).take m).length = m) := by show _ = _; simp; omega
        clear hq c0 c1 f1 ec
        by_cases hcp : c = p
        · have hm0 : m = 0 := by omega
          subst hm0
          subst hcp
          go_quiet (fail)
          go_wp2
          go_ret
          rw [HL2.out]
          exact ⟨ao, 0, rfl, by rw [List.take_zero]; exact Seen.empty _ _, fun _ => rfl, HQ.out.1.drewN _, HQ.out.2.trans ⟨rfl, rfl, rfl, Nat.le_refl _, fun _ _ _ => rfl⟩⟩
        · obtain ⟨g, rfl⟩ : ∃ g, ao = some ⟨g, 0, none⟩ := by
            rcases HQ.out.1.own.2 with ⟨h1, h2⟩ | ⟨g, cap, cur, h1, _⟩
            · simp only [Value.slice.injEq] at h1; omega
            · simp only [Value.slice.injEq] at h1; exact ⟨g, h1.1⟩
          go_quiet (fail)
          go_wp2
          go_ret
          rw [HL2.out]
          refine ⟨some ⟨g, p, none⟩, c - p, ?_, (seen_sub (RowAt.of_own HQ.out.1.own).1 hpm (by omega) HQ.out.1.hb).drewN _, (fun h => by cases h), HQ.out.1.drewN _, HQ.out.2.trans ⟨rfl, rfl, rfl, Nat.le_refl _, fun _ _ _ => rfl⟩⟩
          show Ending.returned (Value.slice (some ⟨g, p, none⟩) (p + m - p) (c - p)) = _
          rw [Nat.add_sub_cancel_left]
  · obtain ⟨e1, e2, e3⟩ := @nx_err zs p e n he
    rw [e1, e2, e3]
    have hne : (e != 0) = true := by simpa using he
    go_enter Tryd.func76, Tryd.ntmps76
    go_wp2_with fail
    refine (err_any r ao c zs p e w h).mono ?_
    rintro e' w' ⟨rfl, rfl⟩
    go_wp2
    go_ret
    exact ⟨none, 0, rfl, Seen.empty _ _, fun _ => rfl, h, Kept.refl _ _⟩

theorem take_8 (r : Nat) (ao : Option Addr) (c : Nat) (zs : List Int) (p : Nat) (e : Int) (w : World) (h : Rd w r ao c zs p e) :
    Calls Tryd.prog 77 #[.pointer (some ⟨r, 0, none⟩)] w fun en w' => en = .returned (.int .u8 (leV 1 (nxL zs p e 1).length (nxL zs p e 1))) ∧ Rd w' r ao c zs (nxP zs p e 1) (nxE zs p e 1) ∧ Kept (fun k => k = r) w w' := by
  have hn := next_any r ao c zs p e 1 (by decide) w h
  clear h
  generalize nxL zs p e 1 = L at *
  generalize nxP zs p e 1 = P' at *
  generalize nxE zs p e 1 = E' at *
  go_enter Tryd.func77, Tryd.ntmps77
  go_wp2_with fail
  refine (width_8 w).mono ?_
  rintro e w' ⟨rfl, rfl⟩
  go_wp2_with fail
  refine hn.mono ?_
  rintro e w1 ⟨so, c', rfl, sL, _, rd, kp⟩
  clear hn
  go_wp2_with fail
  refine (little_8 so L.length c' L w1 sL).mono ?_
  rintro e w' ⟨rfl, rfl⟩
  have HR : Hid _ := rd
  have HK : Hid _ := kp
  clear rd kp sL
  go_wp2
  go_ret
  exact ⟨rfl, HR.out, HK.out⟩
theorem ru_8 (r : Nat) (ao : Option Addr) (c : Nat) (zs : List Int) (p : Nat) (e : Int) (w : World) (h : Rd w r ao c zs p e) :
    Calls Tryd.prog 63 #[.pointer (some ⟨r, 0, none⟩)] w fun en w' => en = .returned (.int .u8 (leV 1 (nxL zs p e 1).length (nxL zs p e 1))) ∧ Rd w' r ao c zs (nxP zs p e 1) (nxE zs p e 1) ∧ Kept (fun k => k = r) w w' := by
  have hn := take_8 r ao c zs p e w h
  clear h
  go_enter Tryd.func63, Tryd.ntmps63
  go_wp2_with fail
  refine hn.mono ?_
  rintro e w1 ⟨rfl, rd, kp⟩
  have HR : Hid _ := rd
  have HK : Hid _ := kp
  clear rd kp hn
  go_wp2
  go_ret
  exact ⟨rfl, HR.out, HK.out⟩
theorem take_32 (r : Nat) (ao : Option Addr) (c : Nat) (zs : List Int) (p : Nat) (e : Int) (w : World) (h : Rd w r ao c zs p e) :
    Calls Tryd.prog 90 #[.pointer (some ⟨r, 0, none⟩)] w fun en w' => en = .returned (.int .u32 (leV 4 (nxL zs p e 4).length (nxL zs p e 4))) ∧ Rd w' r ao c zs (nxP zs p e 4) (nxE zs p e 4) ∧ Kept (fun k => k = r) w w' := by
  have hn := next_any r ao c zs p e 4 (by decide) w h
  clear h
  generalize nxL zs p e 4 = L at *
  generalize nxP zs p e 4 = P' at *
  generalize nxE zs p e 4 = E' at *
  go_enter Tryd.func90, Tryd.ntmps90
  go_wp2_with fail
  refine (width_32 w).mono ?_
  rintro e w' ⟨rfl, rfl⟩
  go_wp2_with fail
  refine hn.mono ?_
  rintro e w1 ⟨so, c', rfl, sL, _, rd, kp⟩
  clear hn
  go_wp2_with fail
  refine (little_32 so L.length c' L w1 sL).mono ?_
  rintro e w' ⟨rfl, rfl⟩
  have HR : Hid _ := rd
  have HK : Hid _ := kp
  clear rd kp sL
  go_wp2
  go_ret
  exact ⟨rfl, HR.out, HK.out⟩
theorem ru_32 (r : Nat) (ao : Option Addr) (c : Nat) (zs : List Int) (p : Nat) (e : Int) (w : World) (h : Rd w r ao c zs p e) :
    Calls Tryd.prog 78 #[.pointer (some ⟨r, 0, none⟩)] w fun en w' => en = .returned (.int .u32 (leV 4 (nxL zs p e 4).length (nxL zs p e 4))) ∧ Rd w' r ao c zs (nxP zs p e 4) (nxE zs p e 4) ∧ Kept (fun k => k = r) w w' := by
  have hn := take_32 r ao c zs p e w h
  clear h
  go_enter Tryd.func78, Tryd.ntmps78
  go_wp2_with fail
  refine hn.mono ?_
  rintro e w1 ⟨rfl, rd, kp⟩
  have HR : Hid _ := rd
  have HK : Hid _ := kp
  clear rd kp hn
  go_wp2
  go_ret
  exact ⟨rfl, HR.out, HK.out⟩
set_option maxRecDepth 20000 in
theorem rdbytes_any (r : Nat) (ao : Option Addr) (c : Nat) (zs : List Int) (p : Nat) (e n : Int) (hn : -9223372036854775808 ≤ n ∧ n ≤ 9223372036854775807) (w : World) (h : Rd w r ao c zs p e) :
    Calls Tryd.prog 61 #[.pointer (some ⟨r, 0, none⟩), .int .i64 n] w fun en w' => ∃ vo cv, en = .returned (.slice vo (nxL zs p e n).length (nxL zs p e n).length) ∧ w'.ownsRow w.heap.size 5 1 (.slice vo (nxL zs p e n).length cv) (nxL zs p e n).length ((nxL zs p e n).map (Value.int .u8)) ∧ Rd w' r ao c zs (nxP zs p e n) (nxE zs p e n) ∧ Kept (fun k => k = r) w w' := by
  have hx := next_any r ao c zs p e n hn w h
  clear h
  generalize nxL zs p e n = L at *
  generalize nxP zs p e n = P' at *
  generalize nxE zs p e n = E' at *
  go_enter Tryd.func61, Tryd.ntmps61
  go_wp2_with fail
  refine hx.mono ?_
  rintro e w1 ⟨so, c', rfl, sL, _, rd, kp⟩
  clear hx
  go_wp2_with fail
  refine (clone_any so L.length c' L w1 sL).mono ?_
  rintro e w2 ⟨v, rfl, o2, b2⟩
  have HT : Hid (L.length ≤ 140737488355328) := sL.top
  have z1 := kp.size
  have HO := ownsRow_base o2 z1
  have HR : Hid (Rd w2 r ao c zs P' E') := rd.later b2 (Nat.le_refl _)
  have HK : Hid (Kept (fun k => k = r) w w2) := kp.trans (kept_of_below b2 (Nat.le_refl _))
  clear rd kp b2 o2 sL
  rcases own_len rfl HO with ⟨rfl, h0⟩ | ⟨g, cap, rfl, hr, hg, hc, hm⟩
  · have HO' : Hid (w2.ownsRow w.heap.size 5 1 (.slice none 0 0) L.length (L.map (Value.int .u8))) := HO
    have HZ : Hid (L.length = 0) := h0
    clear HO h0
    go_wp2
    go_ret
    exact ⟨none, 0, by rw [HZ.out]; rfl, by have h := HO'.out; rw [HZ.out] at h ⊢; exact h, HR.out, HK.out⟩
  · have HO' : Hid (w2.ownsRow w.heap.size 5 1 (.slice (some ⟨g, 0, none⟩) L.length cap) L.length (L.map (Value.int .u8))) := HO
    have i1 : (L.length : Int) ≤ (cap : Int) := by omega
    have i2 : (0 : Int) ≤ (L.length : Int) := by omega
    clear HO hr
    go_wp2
    go_ret
    exact ⟨_, cap, rfl, HO'.out, HR.out, HK.out⟩
end Go.Proofs.YtmgkjldjeomcmaaDoor
