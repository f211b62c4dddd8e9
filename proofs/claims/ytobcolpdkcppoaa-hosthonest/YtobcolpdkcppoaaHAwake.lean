/- Layer host: the statements' awake. -/
import Derived.Test.YtobcolpdkcppoaaHEq
namespace Go.Proofs.Ytobcolpdkcppoaa
open Go.RowKit
set_option linter.unusedVariables false
set_option linter.unusedSimpArgs false

def awF : Fl := ⟨3, 3, 0, 0, 0, 0⟩
def awT : Tc := ⟨1, 1, 3, headL [1, 2, 3]⟩
def aw0 : HSt := newS 2 3 [awF]
def aw1 : HSt := aw0.opS (fun s => s.wrote 1 [1, 2, 3]) ⟨1, 1, aw0.size, headL [1, 2, 3]⟩
def aw2 : HSt := aw1.opS (raiseF 7) (tcA 3)
def aw3 : HSt := aw2.opS id ⟨0, 1, aw2.size, List.replicate 12 0⟩
def aw4 : HSt := aw3.opS id (tcA 2)
def aw5 : HSt := { aw4 with down := false }
def aw6 : HSt := aw5.opS id (tcA 2)
theorem aw_facts : aw0.opE = 0 ∧ aw1.opE = 0 ∧ ¬ (7 : Int) ≤ aw1.reg ∧ aw2.opE = 0 ∧ aw3.opE = 110 ∧ aw4.down = true ∧ aw5.opE = 0 ∧ aw5.reg = 7 ∧ aw6.ops = 5 ∧ aw6.log.length = 4 ∧ spoL aw2 1 (aw2.coming aw2.ops) = [1, 2, 3] ∧ aw2.size = 3 ∧ aw2.pages = 2 ∧ aw0.pages = 2 ∧ aw0.size = 3 := by decide +kernel
theorem aw_ops : aw0.ops < 3000000000000 ∧ aw1.ops < 3000000000000 ∧ aw2.ops < 3000000000000 ∧ aw3.ops < 3000000000000 ∧ aw5.ops < 3000000000000 := by decide +kernel
theorem build_fl (a k : Int) (w : World) : (Instr.build 55 #[(0, .int .i64 a), (1, .int .i64 k)]).run Try.prog w = .ok (.agg (flC ⟨a, k, 0, 0, 0, 0⟩).toArray) w := by kernel_rfl
theorem fls_one {w : World} {g : Nat} {f : Fl} (h : Blk w g 55 (flC f)) (hf : f.Good) : FlS w (fun k => k < w.heap.size) (.slice (some ⟨g, 0, none⟩) 1 1) [f] :=
  ⟨by simp, fun x hx => by simp at hx; subst hx; exact hf, some ⟨g, 0, none⟩, 1, rfl, fun i hi => by
    have : i = 0 := by simp at hi; exact hi
    subst this
    exact ⟨g, 0, rfl, h.lt, h.lt, fun j v hv => by simpa using (h.cell j).trans hv⟩⟩
theorem b123 : Bytes [1, 2, 3] := by intro z hz; simp at hz; omega
theorem seen_lit {w : World} {g : Nat} {zs : List Int} {c : Nat} (h : Blk w g 5 (u8s zs)) (hb : Bytes zs) (hc : zs.length ≤ 1048576) : Seen w (some ⟨g, 0, none⟩) zs.length zs := seen_blk h hb (by omega)
theorem aw_new (v : Value) (M : Nat → Prop) (w : World) (x : FlS w M v [awF]) (hM : ∀ k, M k → k < w.heap.size) : Calls Try.prog 11 #[.int .i64 2, .int .i64 3, v] w fun e w' => ∃ h, e = .returned (.tuple #[.pointer (some ⟨h, 0, none⟩), .int .i64 0]) ∧ HostAt w' (fun k => w.heap.size ≤ k ∧ k < w'.heap.size) h aw0 ∧ Below w.heap.size w w' :=
  new_good 2 3 v [awF] M w x hM (by simp) (by decide) (by decide) (by decide)
theorem aw_write (h : Nat) (M : Nat → Prop) (w : World) (x : HostAt w M h aw0) (ao : Option Addr) (c : Nat) (hx : Seen w ao 3 [1, 2, 3]) (ho : ∀ b o, 0 < 3 → ao = some ⟨b, o, none⟩ → ¬ M b) : Calls Try.prog 34 #[.pointer (some ⟨h, 0, none⟩), .int .i64 1, .slice ao 3 c] w fun e w' => e = .returned (.int .i64 0) ∧ ∃ M2, HostAt w' M2 h aw1 ∧ Goes M M2 w w' := by
  have := write_good h aw0 1 (by rw [aw_facts.2.2.2.2.2.2.2.2.2.2.2.2.2.1]; decide) ao 3 c [1, 2, 3] aw_facts.2.2.2.2.2.2.2.2.2.2.2.2.2.2.symm M w x hx ho aw_ops.1
  rw [aw_facts.1] at this
  exact this
theorem aw_raise (h : Nat) (M : Nat → Prop) (w : World) (x : HostAt w M h aw1) : Calls Try.prog 39 #[.pointer (some ⟨h, 0, none⟩), .int .u64 7] w fun e w' => e = .returned (.int .i64 0) ∧ ∃ M2, HostAt w' M2 h aw2 ∧ Goes M M2 w w' := by
  have := raise_any h aw1 7 (by decide) M w x aw_ops.2.1
  rw [aw_facts.2.1, if_neg (fun h => aw_facts.2.2.1 h.2)] at this
  exact this
theorem aw_read (h : Nat) (M : Nat → Prop) (w : World) (x : HostAt w M h aw2) : Calls Try.prog 28 #[.pointer (some ⟨h, 0, none⟩), .int .i64 1] w fun e w' => ∃ g, e = .returned (.tuple #[.slice (some ⟨g, 0, none⟩) 3 3, .int .i64 0]) ∧ ∃ M2, HostAt w' M2 h aw3 ∧ Goes M M2 w w' ∧ Blk w' g 5 (u8s [1, 2, 3]) ∧ ¬ M2 g := by
  have A := aw_facts
  refine (read_good h aw2 1 (by rw [A.2.2.2.2.2.2.2.2.2.2.2.2.1]; decide) M w x aw_ops.2.2.1).mono ?_
  rintro e w' ⟨v, rfl, M2, y, go, _, hy⟩
  obtain ⟨g, rfl, b, _, nm, _⟩ := hy A.2.2.2.1
  rw [A.2.2.2.2.2.2.2.2.2.2.1] at b
  refine ⟨g, ?_, M2, y, go, b, nm⟩
  rw [A.2.2.2.1, A.2.2.2.2.2.2.2.2.2.2.2.1]
theorem aw_ask1 (h : Nat) (M : Nat → Prop) (w : World) (x : HostAt w M h aw3) : Calls Try.prog 37 #[.pointer (some ⟨h, 0, none⟩)] w fun e w' => e = .returned (.tuple #[.int .u64 0, .int .i64 110]) ∧ ∃ M2, HostAt w' M2 h aw4 ∧ Goes M M2 w w' := by
  have := ask_any h aw3 M w x aw_ops.2.2.2.1
  rw [aw_facts.2.2.2.2.1, if_neg (by decide)] at this
  exact this
theorem aw_ask2 (h : Nat) (M : Nat → Prop) (w : World) (x : HostAt w M h aw5) : Calls Try.prog 37 #[.pointer (some ⟨h, 0, none⟩)] w fun e w' => e = .returned (.tuple #[.int .u64 7, .int .i64 0]) ∧ ∃ M2, HostAt w' M2 h aw6 ∧ Goes M M2 w w' := by
  have := ask_any h aw5 M w x aw_ops.2.2.2.2
  rw [aw_facts.2.2.2.2.2.2.1, if_pos rfl, aw_facts.2.2.2.2.2.2.2.1] at this
  exact this
theorem log_len (h : Nat) (s : HSt) (n : Nat) (hn : s.log.length = n) (M : Nat → Prop) (w : World) (x : HostAt w M h s) : Calls Try.prog 17 #[.pointer (some ⟨h, 0, none⟩)] w fun e w' => ∃ a c, e = .returned (.slice a n c) ∧ Below w.heap.size w w' := by
  refine (log_any h s M w x).mono ?_
  rintro e w' ⟨v', rfl, o1, l1⟩
  rw [hn] at o1
  rcases o1.2 with ⟨rfl, h0⟩ | ⟨g, cap, cur, rfl, _⟩
  · exact ⟨none, 0, by rw [h0], l1⟩
  · exact ⟨_, _, rfl, l1⟩
set_option maxRecDepth 20000 in
set_option maxHeartbeats 4000000 in
theorem awake_any (w : World) : Calls Try.prog 10 #[] w fun e w' => e = .returned (.bool true) ∧ Below w.heap.size w w' := by
  have bf := build_fl 3 3
  have b1 := build1_fl awF
  obtain ⟨F0, F1, F1r, F2, F3, F4, F5, F5r, F6, F6l, FS, FS2, FS2p, F0p, F0s⟩ := aw_facts
  have A : Hid (aw0.opE = 0 ∧ aw1.opE = 0 ∧ ¬ (7 : Int) ≤ aw1.reg ∧ aw2.opE = 0 ∧ aw3.opE = 110 ∧ aw4.down = true ∧ aw5.opE = 0 ∧ aw5.reg = 7 ∧ aw6.ops = 5 ∧ aw6.log.length = 4 ∧ spoL aw2 1 (aw2.coming aw2.ops) = [1, 2, 3] ∧ aw2.size = 3 ∧ aw2.pages = 2 ∧ aw0.pages = 2 ∧ aw0.size = 3) := aw_facts
  clear F0 F1 F1r F2 F3 F4 F5 F5r F6 F6l FS FS2 FS2p F0p F0s
  obtain ⟨w1, hw1⟩ : ∃ q, w.alloc (.cells (flC awF).toArray 55) = q := ⟨_, rfl⟩
  have B1 : Hid (Blk w1 w.heap.size 55 (flC awF) ∧ Below w.heap.size w w1) := by rw [← hw1]; exact ⟨heap_alloc_new w _, (Below.refl _ _).alloc (Nat.le_refl _) _⟩
  have b1' := b1 w
  rw [hw1] at b1'
  have e5 : flC ⟨3, 3, 0, 0, 0, 0⟩ = flC awF := rfl
  clear b1 hw1
  go_enter Try.func10, Try.ntmps10
  go_wp2_with (first | ((with_reducible show wpList _ _ _ (({ dst := some 11, op := _, type := _, pos := _, after := _, guard := _ } : Oper) :: _) _ _); refine wpList_build rfl 55 _ rfl #[(0, .int .i64 3), (1, .int .i64 3)] (by simp [Act.eval]) (.agg (flC awF).toArray) (bf _) ?_) | ((with_reducible show wpList _ _ _ (({ dst := some 12, op := _, type := _, pos := _, after := _, guard := _ } : Oper) :: _) _ _); refine wpList_bs rfl 22 1 _ rfl #[(0, .agg (flC awF).toArray)] (by simp [Act.eval, Act.put]) _ _ b1' ?_) | fail)
  refine (aw_new _ _ w1 (fls_one B1.out.1 (by unfold Fl.Good awF; decide)) (fun _ h => h)).mono ?_
  rintro e w2 ⟨h, rfl, x2, l2⟩
  have U2 : Hid (HostAt w2 (fun k => w1.heap.size ≤ k ∧ k < w2.heap.size) h aw0 ∧ Below w.heap.size w w2 ∧ w.heap.size ≤ w1.heap.size) := ⟨x2, below_chain B1.out.2 l2 B1.out.2.size, B1.out.2.size⟩
  clear x2 l2 b1' bf e5
  go_wp2_with fail
  obtain ⟨w3, hw3⟩ : ∃ q, w2.alloc (.cells #[.int .u8 1, .int .u8 2, .int .u8 3] 5) = q := ⟨_, rfl⟩
  rw [hw3]
  have U3 : Hid (HostAt w3 (fun k => w1.heap.size ≤ k ∧ k < w2.heap.size) h aw0 ∧ Below w.heap.size w w3 ∧ Seen w3 (some ⟨w2.heap.size, 0, none⟩) 3 [1, 2, 3]) := by
    have l3 : Below w2.heap.size w2 w3 := by rw [← hw3]; exact (Below.refl _ _).alloc (Nat.le_refl _) _
    have b3 : Blk w3 w2.heap.size 5 (u8s [1, 2, 3]) := by rw [← hw3]; exact heap_alloc_new w2 _
    exact ⟨U2.out.1.later l3, below_chain U2.out.2.1 l3 U2.out.2.1.size, seen_blk b3 b123 (by decide)⟩
  clear hw3
  refine (aw_write h _ w3 U3.out.1 _ 3 U3.out.2.2 (fun b o _ e => by cases e; intro h; omega)).mono ?_
  rintro e w4 ⟨rfl, M4, x4, g4⟩
  have U4 : Hid (HostAt w4 M4 h aw1 ∧ Below w.heap.size w w4 ∧ ∀ k, M4 k → w.heap.size ≤ k) := by
    obtain ⟨q1, q2⟩ := g4.below (B := w.heap.size) (fun k hk => by have := U2.out.2.2; omega) U3.out.2.1.size
    exact ⟨x4, below_chain U3.out.2.1 q1 (Nat.le_refl _), q2⟩
  clear x4 g4
  go_wp2_with fail
  refine (aw_raise h M4 w4 U4.out.1).mono ?_
  rintro e w5 ⟨rfl, M5, x5, g5⟩
  have U5 : Hid (HostAt w5 M5 h aw2 ∧ Below w.heap.size w w5 ∧ ∀ k, M5 k → w.heap.size ≤ k) := by
    obtain ⟨q1, q2⟩ := g5.below (B := w.heap.size) U4.out.2.2 U4.out.2.1.size
    exact ⟨x5, below_chain U4.out.2.1 q1 (Nat.le_refl _), q2⟩
  clear x5 g5
  go_wp2_with fail
  refine (aw_read h M5 w5 U5.out.1).mono ?_
  rintro e w6 ⟨g, rfl, M6, x6, g6, b6, n6⟩
  have U6 : Hid (HostAt w6 M6 h aw3 ∧ Below w.heap.size w w6 ∧ (∀ k, M6 k → w.heap.size ≤ k) ∧ Blk w6 g 5 (u8s [1, 2, 3]) ∧ ¬ M6 g) := by
    obtain ⟨q1, q2⟩ := g6.below (B := w.heap.size) U5.out.2.2 U5.out.2.1.size
    exact ⟨x6, below_chain U5.out.2.1 q1 (Nat.le_refl _), q2, b6, n6⟩
  clear x6 g6 b6 n6
  go_wp2_with fail
  refine (aw_ask1 h M6 w6 U6.out.1).mono ?_
  rintro e w7 ⟨rfl, M7, x7, g7⟩
  have U7 : Hid (HostAt w7 M7 h aw4 ∧ Below w.heap.size w w7 ∧ (∀ k, M7 k → w.heap.size ≤ k) ∧ Blk w7 g 5 (u8s [1, 2, 3]) ∧ ¬ M7 g) := by
    obtain ⟨q1, q2⟩ := g7.below (B := w.heap.size) U6.out.2.2.1 U6.out.2.1.size
    obtain ⟨q3, q4⟩ := g7.blk U6.out.2.2.2.1 U6.out.2.2.2.2
    exact ⟨x7, below_chain U6.out.2.1 q1 (Nat.le_refl _), q2, q3, q4⟩
  clear x7 g7
  have CD := down_any h aw4 M7 w7 U7.out.1
  rw [A.out.2.2.2.2.2.1] at CD
  go_wp2_with (go_at_call 19; refine CD.mono ?_; rintro e _ ⟨rfl, rfl⟩)
  clear CD
  refine (restart_any h aw4 M7 w7 U7.out.1).mono ?_
  rintro e w8 ⟨rfl, x8, k8⟩
  have U8 : Hid (HostAt w8 M7 h aw5 ∧ Below w.heap.size w w8 ∧ (∀ k, M7 k → w.heap.size ≤ k) ∧ Blk w8 g 5 (u8s [1, 2, 3]) ∧ ¬ M7 g) := by
    have mh : M7 h := by obtain ⟨_, _, _, _, _, _, q⟩ := U7.out.1; exact q.mh
    exact ⟨x8, below_kept U7.out.2.1 k8 U7.out.2.1.size (fun j hj e => by have := U7.out.2.2.1 h mh; omega), U7.out.2.2.1, U7.out.2.2.2.1.kept k8 (fun e => U7.out.2.2.2.2 (e ▸ mh)), U7.out.2.2.2.2⟩
  clear x8 k8
  go_wp2_with fail
  refine (aw_ask2 h M7 w8 U8.out.1).mono ?_
  rintro e w9 ⟨rfl, M9, x9, g9⟩
  have U9 : Hid (HostAt w9 M9 h aw6 ∧ Below w.heap.size w w9 ∧ Blk w9 g 5 (u8s [1, 2, 3])) := by
    obtain ⟨q1, q2⟩ := g9.below (B := w.heap.size) U8.out.2.2.1 U8.out.2.1.size
    obtain ⟨q3, q4⟩ := g9.blk U8.out.2.2.2.1 U8.out.2.2.2.2
    exact ⟨x9, below_chain U8.out.2.1 q1 (Nat.le_refl _), q3⟩
  clear x9 g9
  go_wp2_with fail
  obtain ⟨w10, hw10⟩ : ∃ q, w9.alloc (.cells #[.int .u8 1, .int .u8 2, .int .u8 3] 5) = q := ⟨_, rfl⟩
  rw [hw10]
  have U10 : Hid (HostAt w10 M9 h aw6 ∧ Below w.heap.size w w10 ∧ Seen w10 (some ⟨w9.heap.size, 0, none⟩) 3 [1, 2, 3] ∧ Seen w10 (some ⟨g, 0, none⟩) 3 [1, 2, 3]) := by
    have l3 : Below w9.heap.size w9 w10 := by rw [← hw10]; exact (Below.refl _ _).alloc (Nat.le_refl _) _
    have b3 : Blk w10 w9.heap.size 5 (u8s [1, 2, 3]) := by rw [← hw10]; exact heap_alloc_new w9 _
    exact ⟨U9.out.1.later l3, below_chain U9.out.2.1 l3 U9.out.2.1.size, seen_blk b3 b123 (by decide), seen_blk (U9.out.2.2.later l3 U9.out.2.2.lt) b123 (by decide)⟩
  clear hw10
  refine (reqb_any _ _ 3 3 3 3 _ _ w10 U10.out.2.2.2 U10.out.2.2.1).mono ?_
  rintro e w11 ⟨rfl, q11, hw11⟩
  have U11 : Hid (HostAt w11 M9 h aw6 ∧ Below w.heap.size w w11) := by rw [hw11]; exact ⟨U10.out.1.frame ⟨Nat.le_refl _, fun _ _ => rfl⟩, below_dn U10.out.2.1 _⟩
  clear hw11
  have CO := ops_any h aw6 M9 w11 U11.out.1
  rw [A.out.2.2.2.2.2.2.2.2.1] at CO
  have e1 : decide (([1, 2, 3] : List Int) = [1, 2, 3]) = true := by decide
  rw [e1]
  go_wp2_with (go_at_call 18; refine CO.mono ?_; rintro e _ ⟨rfl, rfl⟩)
  clear CO
  refine (log_len h aw6 4 A.out.2.2.2.2.2.2.2.2.2.1 M9 w11 U11.out.1).mono ?_
  rintro e w12 ⟨la, lc, rfl, l12⟩
  have R : Hid (Below w.heap.size w w12) := below_chain U11.out.2 l12 U11.out.2.size
  clear l12
  go_wp2_with fail
  go_ret
  exact ⟨rfl, R.out⟩
end Go.Proofs.Ytobcolpdkcppoaa
