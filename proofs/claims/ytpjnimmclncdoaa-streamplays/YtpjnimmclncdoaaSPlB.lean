/- StreamPlays: the statements' step, but for its first way. -/
import Derived.Test.YtpjnimmclncdoaaSPlA
import Derived.Test.YtpjnimmclncdoaaSHeld
import Derived.Test.YtpjnimmclncdoaaRInv
namespace Go.Proofs.Ytpjnimmclncdoaa
open Go.RowKit
set_option linter.unusedVariables false
set_option linter.unusedSimpArgs false

/-- A step's cells. -/
def stpC (d n : Int) (so : Option Addr) (m cs : Nat) : List Value := [.int .i64 d, .int .i64 n, .slice so m cs]
/-- Two streams at the same place, apart from one another. -/
structure Pr (w : World) (g q : Nat) (key nonce : List Int) (P : Nat) : Prop where
  one : StAt w g key nonce P
  two : RtAt w q key nonce P
  ne : g ≠ q
theorem Pr.later {w w' : World} {g q : Nat} {key nonce : List Int} {P : Nat} (h : Pr w g q key nonce P) (l : Below w.heap.size w w') : Pr w' g q key nonce P := ⟨h.one.later l h.one.lt, h.two.later l h.two.lt, h.ne⟩
theorem Pr.kept {S : Nat → Prop} {w w' : World} {g q : Nat} {key nonce : List Int} {P : Nat} (h : Pr w g q key nonce P) (hk : Kept S w w') (h1 : ¬ S g) (h2 : ¬ S q) : Pr w' g q key nonce P := ⟨h.one.kept hk h1, h.two.kept hk h2, h.ne⟩
theorem Pr.dn {w : World} {g q : Nat} {key nonce : List Int} {P : Nat} (h : Pr w g q key nonce P) (k : Nat) : Pr (w.drewN k) g q key nonce P := h.later (below_dn (Below.refl _ _) k)
def Plays (g q : Nat) (key nonce : List Int) (w : World) (e : Ending) (w' : World) : Prop := e = .returned (.bool true) ∧ ∃ P, Pr w' g q key nonce P ∧ Kept (fun k => k = g ∨ k = q) w w'
set_option maxRecDepth 20000 in
set_option maxHeartbeats 1000000 in
theorem step_none (g q : Nat) (key nonce : List Int) (P : Nat) (d n : Int) (so : Option Addr) (m cs : Nat) (w : World) (x : Pr w g q key nonce P) (hd : d ≠ 1 ∧ d ≠ 2 ∧ d ≠ 3) :
    Calls Try.prog 7 #[.pointer (some ⟨g, 0, none⟩), .pointer (some ⟨q, 0, none⟩), .agg (stpC d n so m cs).toArray] w (Plays g q key nonce w) := by
  have X : Hid (Pr w g q key nonce P) := x
  have q1 : (d == 1) = false := by simp; omega
  have q2 : (d == 2) = false := by simp; omega
  have q3 : (d == 3) = false := by simp; omega
  clear x hd
  go_enter Try.func7, Try.ntmps7
  go_wp2_with (refine wpList_box_new rfl 43 _ rfl (stpC d n so m cs) rfl ?_; intro w1 b1 s1 l1; have cd := b1.cell 0; rw [show (stpC d n so m cs)[0]? = some (.int .i64 d) from rfl] at cd)
  have V1 : Hid (Pr w1 g q key nonce P ∧ Below w.heap.size w w1) := ⟨X.out.later l1, l1⟩
  clear b1 s1 l1 cd
  try go_wp2_with fail
  go_ret
  exact ⟨rfl, P, V1.out.1, Kept.new _ V1.out.2⟩
set_option maxRecDepth 20000 in
set_option maxHeartbeats 1000000 in
theorem step_at (g q : Nat) (key nonce : List Int) (P : Nat) (d n : Int) (so : Option Addr) (m cs : Nat) (w : World) (x : Pr w g q key nonce P) (hd : d = 3) :
    Calls Try.prog 7 #[.pointer (some ⟨g, 0, none⟩), .pointer (some ⟨q, 0, none⟩), .agg (stpC d n so m cs).toArray] w (Plays g q key nonce w) := by
  have X : Hid (Pr w g q key nonce P) := x
  have q1 : (d == 1) = false := by simp; omega
  have q2 : (d == 2) = false := by simp; omega
  have q3 : (d == 3) = true := by simp [hd]
  clear x hd
  go_enter Try.func7, Try.ntmps7
  go_wp2_with (refine wpList_box_new rfl 43 _ rfl (stpC d n so m cs) rfl ?_; intro w1 b1 s1 l1; have cd := b1.cell 0; rw [show (stpC d n so m cs)[0]? = some (.int .i64 d) from rfl] at cd)
  have V1 : Hid (Pr w1 g q key nonce P ∧ Below w.heap.size w w1) := ⟨X.out.later l1, l1⟩
  clear b1 s1 l1 cd
  refine region_inv [.val (.pointer (some ⟨g, 0, none⟩)), .val (.int .u64 (P : Int)), .val (.pointer (some ⟨q, 0, none⟩)), .val (.pointer (some ⟨q, 0, none⟩)), .val (.pointer (some ⟨q, 44, none⟩)), .val (.int .u64 (P : Int)), .val (.bool true)] (by kernel_rfl) (by kernel_rfl) (by kernel_rfl) ?_ ?_
  · refine Steps'.cons ?_ (Steps'.cons ?_ (Steps'.cons ?_ (Steps'.cons ?_ (Steps'.cons ?_ (Steps'.cons ?_ (Steps'.cons ?_ (Steps'.one _ _ _ _ _ _ _)))))))
    · intro ax wx hb hs hd
      have h0 : ax.tmps.getD 0 undef = (.pointer (some ⟨g, 0, none⟩)) := hs 0 (by kernel_rfl)
      refine Does.value (.pointer (some ⟨g, 0, none⟩)) ?_ rfl
      clear hs hd
      go_simp
    · intro ax wx hb hs hd
      have h93 : ax.tmps.getD 93 undef = (.pointer (some ⟨g, 0, none⟩)) := hd 0 93 rfl (by kernel_rfl) (by decide)
      refine Does.call 6 #[.pointer (some ⟨g, 0, none⟩)] (by clear hs hd; go_simp) ?_
      refine (at_any g key nonce P wx (V1.out.1.later hb).one).mono ?_
      rintro e2 w2 ⟨rfl, rfl⟩
      exact ⟨_, rfl, rfl, Below.refl _ _⟩
    · intro ax wx hb hs hd
      have h1 : ax.tmps.getD 1 undef = (.pointer (some ⟨q, 0, none⟩)) := hs 1 (by kernel_rfl)
      refine Does.value (.pointer (some ⟨q, 0, none⟩)) ?_ rfl
      clear hs hd
      go_simp
    · intro ax wx hb hs hd
      have h95 : ax.tmps.getD 95 undef = (.pointer (some ⟨q, 0, none⟩)) := hd 2 95 rfl (by kernel_rfl) (by decide)
      refine Does.value (.pointer (some ⟨q, 0, none⟩)) ?_ rfl
      clear hs hd
      go_simp
    · intro ax wx hb hs hd
      have h96 : ax.tmps.getD 96 undef = (.pointer (some ⟨q, 0, none⟩)) := hd 3 96 rfl (by kernel_rfl) (by decide)
      refine Does.value (.pointer (some ⟨q, 44, none⟩)) ?_ rfl
      clear hs hd
      go_simp
    · intro ax wx hb hs hd
      have h97 : ax.tmps.getD 97 undef = (.pointer (some ⟨q, 44, none⟩)) := hd 4 97 rfl (by kernel_rfl) (by decide)
      have cx := (V1.out.1.later hb).two.place
      refine Does.value (.int .u64 (P : Int)) ?_ rfl
      clear hs hd
      go_simp
    · intro ax wx hb hs hd
      have h94 : ax.tmps.getD 94 undef = (.int .u64 (P : Int)) := hd 1 94 rfl (by kernel_rfl) (by decide)
      have h98 : ax.tmps.getD 98 undef = (.int .u64 (P : Int)) := hd 5 98 rfl (by kernel_rfl) (by decide)
      refine Does.value (.bool true) ?_ rfl
      clear hs hd
      go_simp
  · intro wx hb
    refine @Ends.val _ _ _ _ _ _ _ _ _ (.pointer (some ⟨g, 0, none⟩)) rfl ?_
    refine @Ends.val _ _ _ _ _ _ _ _ _ (.int .u64 (P : Int)) rfl ?_
    refine @Ends.val _ _ _ _ _ _ _ _ _ (.pointer (some ⟨q, 0, none⟩)) rfl ?_
    refine @Ends.val _ _ _ _ _ _ _ _ _ (.pointer (some ⟨q, 0, none⟩)) rfl ?_
    refine @Ends.val _ _ _ _ _ _ _ _ _ (.pointer (some ⟨q, 44, none⟩)) rfl ?_
    refine @Ends.val _ _ _ _ _ _ _ _ _ (.int .u64 (P : Int)) rfl ?_
    refine @Ends.val _ _ _ _ _ _ _ _ _ (.bool true) rfl ?_
    refine @Ends.one _ _ _ _ _ _ _ ?_
    simp only [Act.put, List.setIfInBounds_toArray, List.set_cons_zero, List.set_cons_succ]
    have W2 : Hid (Pr wx g q key nonce P ∧ Below w.heap.size w wx) := ⟨V1.out.1.later hb, below_chain V1.out.2 hb V1.out.2.size⟩
    clear hb
    refine last_assign (.tmp 99) rfl (some 6) rfl (.bool true) rfl ?_
    simp only [Act.put, List.setIfInBounds_toArray, List.set_cons_zero, List.set_cons_succ]
    go_wp2
    go_ret
    exact ⟨rfl, P, W2.out.1, Kept.new _ W2.out.2⟩
set_option maxRecDepth 20000 in
set_option maxHeartbeats 1000000 in
theorem step_skip (g q : Nat) (key nonce : List Int) (P : Nat) (d n : Int) (so : Option Addr) (m cs : Nat) (w : World) (x : Pr w g q key nonce P) (hd : d = 2) (hn : -9223372036854775808 ≤ n ∧ n < 9223372036854775808) :
    Calls Try.prog 7 #[.pointer (some ⟨g, 0, none⟩), .pointer (some ⟨q, 0, none⟩), .agg (stpC d n so m cs).toArray] w (Plays g q key nonce w) := by
  have X : Hid (Pr w g q key nonce P) := x
  have q1 : (d == 1) = false := by simp; omega
  have q2 : (d == 2) = true := by simp [hd]
  obtain ⟨E, hE⟩ : ∃ E, chk n P = E := ⟨_, rfl⟩
  obtain ⟨P', hP⟩ : ∃ P', mv n P = P' := ⟨_, rfl⟩
  have HE : Hid (chk n P = E ∧ mv n P = P') := ⟨hE, hP⟩
  clear x hd hE hP
  go_enter Try.func7, Try.ntmps7
  go_wp2_with (refine wpList_box_new rfl 43 _ rfl (stpC d n so m cs) rfl ?_; intro w1 b1 s1 l1; have cd := b1.cell 0; rw [show (stpC d n so m cs)[0]? = some (.int .i64 d) from rfl] at cd)
  have V1 : Hid (Blk w1 w.heap.size 43 (stpC d n so m cs) ∧ Below w.heap.size w w1) := ⟨b1, l1⟩
  clear b1 s1 l1 cd
  refine wp_region_noPanic (till_region 9 (fun W : World => W.cell? ⟨w.heap.size, 1, none⟩ = some (.int .i64 n)) (by kernel_rfl) ?_)
  obtain ⟨w3, hw3⟩ : ∃ q, ({ heap := w1.heap, tape := w1.tape, drawn := w1.drawn + 1, os := w1.os, output := w1.output } : World) = q := ⟨_, rfl⟩
  have V3 : Hid (Blk w3 w.heap.size 43 (stpC d n so m cs) ∧ Below w.heap.size w w3) := by rw [← hw3]; exact ⟨V1.out.1, ⟨V1.out.2.os, V1.out.2.tape, V1.out.2.output, V1.out.2.size, V1.out.2.block⟩⟩
  rw [hw3]
  clear hw3
  have hS : (fun W : World => W.cell? ⟨w.heap.size, 1, none⟩ = some (.int .i64 n)) w3 := V3.out.1.cell 1
  refine tTake 0 (some 82) (.pointer (some ⟨g, 0, none⟩)) rfl rfl (by kernel_rfl) (by kernel_rfl) (by kernel_rfl) (by decide) (fun _ _ _ h => h) (by rfl) (fun W' => by go_simp) hS ?_
  simp only [Act.put, List.setIfInBounds_toArray, List.set_cons_zero, List.set_cons_succ]
  refine tTake 1 (some 83) (.pointer (some ⟨w.heap.size, 1, none⟩)) rfl rfl (by kernel_rfl) (by kernel_rfl) (by kernel_rfl) (by decide) (fun _ _ _ h => h) (by rfl) (fun W' => by go_simp) hS ?_
  simp only [Act.put, List.setIfInBounds_toArray, List.set_cons_zero, List.set_cons_succ]
  refine tLoad 2 (some 84) (.int .i64 n) rfl rfl (by kernel_rfl) (by kernel_rfl) (by kernel_rfl) (by decide) (by kernel_rfl) (by kernel_rfl) (fun _ _ _ h => h) (by rfl) (fun W' hS' => by have s1 := hS'; go_simp) hS ?_
  simp only [Act.put, List.setIfInBounds_toArray, List.set_cons_zero, List.set_cons_succ]
  refine tTake 4 (some 86) (.pointer (some ⟨q, 0, none⟩)) rfl rfl (by kernel_rfl) (by kernel_rfl) (by kernel_rfl) (by decide) (fun _ _ _ h => h) (by rfl) (fun W' => by go_simp) hS ?_
  simp only [Act.put, List.setIfInBounds_toArray, List.set_cons_zero, List.set_cons_succ]
  refine tTake 5 (some 87) (.pointer (some ⟨w.heap.size, 1, none⟩)) rfl rfl (by kernel_rfl) (by kernel_rfl) (by kernel_rfl) (by decide) (fun _ _ _ h => h) (by rfl) (fun W' => by go_simp) hS ?_
  simp only [Act.put, List.setIfInBounds_toArray, List.set_cons_zero, List.set_cons_succ]
  refine tLoad 6 (some 88) (.int .i64 n) rfl rfl (by kernel_rfl) (by kernel_rfl) (by kernel_rfl) (by decide) (by kernel_rfl) (by kernel_rfl) (fun _ _ _ h => h) (by rfl) (fun W' hS' => by have s1 := hS'; go_simp) hS ?_
  simp only [Act.put, List.setIfInBounds_toArray, List.set_cons_zero, List.set_cons_succ]
  refine till_ready 3 (by kernel_rfl) rfl (fun K hK => ?_)
  go_simp
  go_wp2_with (go_at_call 13; refine (skip_any g key nonce P n hn w3 (X.out.one.later V3.out.2 X.out.one.lt)).mono ?_; rintro e4 w4 ⟨rfl, r4, k4⟩)
  rw [HE.out.1]
  have lr := X.out.one.lt
  have lq := X.out.two.lt
  have hS4 : (fun W : World => W.cell? ⟨w.heap.size, 1, none⟩ = some (.int .i64 n)) w4 := (k4.cell (p := ⟨w.heap.size, 1, none⟩) V3.out.1.lt (by show ¬ w.heap.size = g; omega)).trans hS
  refine ⟨hS4, ?_⟩
  have V4 : Hid (StAt w4 g key nonce P' ∧ RtAt w4 q key nonce P ∧ Kept (fun k => k = g ∨ k = q) w w4) := ⟨by rw [← HE.out.2]; exact r4, (X.out.two.later V3.out.2 X.out.two.lt).kept k4 (fun h => X.out.ne h.symm), (Kept.new _ V3.out.2).trans (k4.mono (fun k h => .inl h))⟩
  clear r4 k4 hS
  refine till_ready 7 (by kernel_rfl) rfl (fun K hK => ?_)
  go_simp
  go_wp2_with (go_at_call 14; refine (rskip_any q key nonce P n hn w4 V4.out.2.1).mono ?_; rintro e6 w6 ⟨rfl, r6, k6⟩)
  rw [HE.out.1]
  have hS6 : (fun W : World => W.cell? ⟨w.heap.size, 1, none⟩ = some (.int .i64 n)) w6 := (k6.cell (p := ⟨w.heap.size, 1, none⟩) (World.block_lt_of_cell? _ _ hS4) (by show ¬ w.heap.size = q; omega)).trans hS4
  refine ⟨hS6, ?_⟩
  have V6 : Hid (Pr w6 g q key nonce P' ∧ Kept (fun k => k = g ∨ k = q) w w6) := ⟨⟨V4.out.1.kept k6 X.out.ne, by rw [← HE.out.2]; exact r6, X.out.ne⟩, V4.out.2.2.trans (k6.mono (fun k h => .inr h))⟩
  clear r6 k6 hS4
  refine tTake 8 (some 90) (.bool true) rfl rfl (by kernel_rfl) (by kernel_rfl) (by kernel_rfl) (by decide) (fun _ _ _ h => h) (by rfl) (fun W' => by go_simp) hS6 ?_
  simp only [Act.put, List.setIfInBounds_toArray, List.set_cons_zero, List.set_cons_succ]
  clear hS6
  refine till_at (by kernel_rfl) ?_
  refine wpAny_ready (rs := [9]) (by kernel_rfl) (by simp) (AllReady.cons rfl (fun K hK => ?_) AllReady.nil)
  rw [if_pos (by rfl)]
  refine last_assign (.tmp 90) rfl (some 6) rfl (.bool true) rfl ?_
  refine hK _ _ ?_
  simp only [Act.put, List.setIfInBounds_toArray, List.set_cons_zero, List.set_cons_succ]
  refine wpAny_done (by kernel_rfl) (NoPanic.normal ?_) _
  go_wp2_with fail
  go_ret
  exact ⟨rfl, _, V6.out.1, V6.out.2⟩
end Go.Proofs.Ytpjnimmclncdoaa
