/- Layer slots: Pages and New, of numbers that fit. -/
import Derived.Test.YtnagndnpamcbbaaGreatZJ
namespace Go.Proofs.YtnagndnpamcbbaaGreat
open Go.RowKit
set_option linter.unusedVariables false
set_option linter.unusedSimpArgs false

/-- How many pages slots take. -/
def pgsN (n each : Nat) : Nat := if 0 < n % each then n / each + 1 else n / each
set_option maxRecDepth 20000 in
set_option maxHeartbeats 1000000 in
theorem spages_good (n size text : Nat) (hs : 1 ≤ size) (ht : size ≤ text) (htx : text ≤ 1000000) (hn : n ≤ 1000000000) (hp : pgsN n (text / size) ≤ 65536) (w : World) :
    Calls Tryz.prog 11 #[.int .i64 (n : Int), .int .i64 (size : Int), .int .i64 (text : Int)] w fun e w' => e = .returned (.tuple #[.int .i64 (pgsN n (text / size) : Int), .int .i64 0]) ∧ w = w' := by
  obtain ⟨each, he⟩ : ∃ e, text / size = e := ⟨_, rfl⟩
  have hepos : 1 ≤ each := by rw [← he]; exact Nat.div_pos ht hs
  rw [he] at hp ⊢
  obtain ⟨pg, hpg⟩ : ∃ p, n / each = p := ⟨_, rfl⟩
  obtain ⟨r, hr⟩ : ∃ r, n % each = r := ⟨_, rfl⟩
  have q1 : Int.tdiv (text : Int) (size : Int) = (each : Int) := by rw [divN, he]
  have q2 : Int.tdiv (n : Int) (each : Int) = (pg : Int) := by rw [divN, hpg]
  have q3 : Int.tmod (n : Int) (each : Int) = (r : Int) := by rw [modN, hr]
  have hbd : pg ≤ 65536 ∧ each ≤ 1000000 ∧ r ≤ 1000000000 := by
    refine ⟨?_, by rw [← he]; exact Nat.le_trans (Nat.div_le_self _ _) htx, by rw [← hr]; exact Nat.le_trans (Nat.mod_le _ _) hn⟩
    unfold pgsN at hp
    rw [hpg] at hp
    split at hp <;> omega
  have z1 := wrapN each (by omega)
  have z2 := wrapN pg (by omega)
  have i1 : ¬ size = 0 := by omega
  have i2 : ¬ each = 0 := by omega
  have i3 : ¬ size < 1 := by omega
  have i4 : ¬ text < size := by omega
  unfold pgsN at hp ⊢
  rw [hr, hpg] at hp ⊢
  clear he hpg hr
  by_cases h0 : 0 < r
  · rw [if_pos h0] at hp ⊢
    obtain ⟨pg1, h1⟩ : ∃ pg1, pg + 1 = pg1 := ⟨_, rfl⟩
    rw [h1] at hp ⊢
    have q4 : (pg : Int) + 1 = (pg1 : Int) := by omega
    have z3 := wrapN pg1 (by omega)
    have i5 : ¬ 65536 < pg1 := by omega
    clear h1
    go_enter Tryz.func11, Tryz.ntmps11
    go_wp2
    go_ret2
    exact ⟨rfl, rfl⟩
  · rw [if_neg h0] at hp ⊢
    have i5 : ¬ 65536 < pg := by omega
    go_enter Tryz.func11, Tryz.ntmps11
    go_wp2
    go_ret2
    exact ⟨rfl, rfl⟩
theorem sbuild (p f n s e : Nat) (w : World) : (Instr.build 129 #[(0, .pointer (some ⟨p, 0, none⟩)), (1, .int .i64 (f : Int)), (2, .int .i64 (n : Int)), (3, .int .i64 (s : Int)), (4, .int .i64 (e : Int))]).run Tryz.prog w = .ok (.agg (slC ⟨p, f, n, s, e, .slice none 0 0⟩).toArray) w := by kernel_rfl
set_option maxRecDepth 20000 in
set_option maxHeartbeats 2000000 in
theorem snew_good (p first n size h : Nat) (cf : Cf) (hl : List Nat) (nm : Nm) (txt : Nat → List Int) (F : Nat → Prop) (w : World) (x : PagS w p h cf hl nm txt F) (hs : 1 ≤ size) (ht : size ≤ cf.text) (hn : n ≤ 1000000000) (hp : first + pgsN n (cf.text / size) ≤ cf.pages) :
    Calls Tryz.prog 14 #[.pointer (some ⟨p, 0, none⟩), .int .i64 (first : Int), .int .i64 (n : Int), .int .i64 (size : Int)] w fun e w' => ∃ g, e = .returned (.tuple #[.pointer (some ⟨g, 0, none⟩), .int .i64 0]) ∧ SlS w' g ⟨p, first, n, size, cf.text / size, .slice none 0 0⟩ [] ∧ w.heap.size ≤ g ∧ Below w.heap.size w w' := by
  have hg := x.good
  have CT : Hid (Calls Tryz.prog 63 #[.pointer (some ⟨p, 0, none⟩)] w fun e w' => e = .returned (.int .i64 (cf.text : Int)) ∧ w = w') := by
    obtain ⟨gh, gp, v, fh, fp, szp, Mh, s, Mt, y, hf, ha⟩ := x
    have := gtext_any p v w y.o.m.pa
    rw [y.et] at this
    exact this
  have CP : Hid (Calls Tryz.prog 64 #[.pointer (some ⟨p, 0, none⟩)] w fun e w' => e = .returned (.int .i64 (cf.pages : Int)) ∧ w = w') := by
    obtain ⟨gh, gp, v, fh, fp, szp, Mh, s, Mt, y, hf, ha⟩ := x
    have := gpages_any p v w y.o.m.pa
    rw [y.ep] at this
    exact this
  have CS : Hid (Calls Tryz.prog 11 #[.int .i64 (n : Int), .int .i64 (size : Int), .int .i64 (cf.text : Int)] w fun e w' => e = .returned (.tuple #[.int .i64 (pgsN n (cf.text / size) : Int), .int .i64 0]) ∧ w = w') := spages_good n size cf.text hs ht (by have := hg.text; omega) hn (by have := hg.pages; omega) w
  obtain ⟨each, he⟩ : ∃ e, cf.text / size = e := ⟨_, rfl⟩
  rw [he] at hp CS ⊢
  obtain ⟨pg, hpg⟩ : ∃ q, pgsN n each = q := ⟨_, rfl⟩
  rw [hpg] at hp CS
  obtain ⟨df, hdf⟩ : ∃ d, cf.pages - pg = d := ⟨_, rfl⟩
  have q1 : Int.tdiv (cf.text : Int) (size : Int) = (each : Int) := by rw [divN, he]
  have q2 : (cf.pages : Int) - (pg : Int) = (df : Int) := by omega
  have hpb := hg.pages
  have z1 := wrapN each (by have := hg.text; have := Nat.div_le_self cf.text size; omega)
  have z2 := wrapN df (by omega)
  have i1 : ¬ size = 0 := by omega
  have i2 : ¬ df < first := by omega
  have HSB : Hid (∀ W, (Instr.build 129 #[(0, .pointer (some ⟨p, 0, none⟩)), (1, .int .i64 (first : Int)), (2, .int .i64 (n : Int)), (3, .int .i64 (size : Int)), (4, .int .i64 (each : Int))]).run Tryz.prog W = .ok (.agg (slC ⟨p, first, n, size, each, .slice none 0 0⟩).toArray) W) := sbuild p first n size each
  clear x hs ht hn hp hg hdf hpg he hpb
  go_enter Tryz.func14, Tryz.ntmps14
  go_wp2_with (first | (go_at_call 63; refine CT.out.mono ?_; rintro e _ ⟨rfl, rfl⟩) | (go_at_call 11; refine CS.out.mono ?_; rintro e _ ⟨rfl, rfl⟩) | (go_at_call 64; refine CP.out.mono ?_; rintro e _ ⟨rfl, rfl⟩) | ((with_reducible show wpList _ _ _ (({ dst := some 41, op := _, type := _, pos := _, after := _, guard := _ } : Oper) :: _) _ _); refine wpList_build rfl 129 _ rfl #[(0, .pointer (some ⟨p, 0, none⟩)), (1, .int .i64 (first : Int)), (2, .int .i64 (n : Int)), (3, .int .i64 (size : Int)), (4, .int .i64 (each : Int))] (by simp [Act.eval]; done) _ (HSB.out _) ?_) | ((with_reducible show wpList _ _ _ (({ dst := some 42, op := _, type := _, pos := _, after := _, guard := _ } : Oper) :: _) _ _); refine wpList_box_new rfl 129 _ rfl (slC ⟨p, first, n, size, each, .slice none 0 0⟩) rfl ?_; intro w1 b1 s1 l1; clear s1))
  go_ret2
  exact ⟨_, rfl, ⟨b1, World.ownsRow_nil _ _ _ _⟩, Nat.le_refl _, l1⟩
end Go.Proofs.YtnagndnpamcbbaaGreat
