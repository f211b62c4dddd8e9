/- Layer host: HostPower's host, step by step; its calls. -/
import Derived.Test.YtahmighpgfajiaaHAwake
namespace Go.Proofs.Ytahmighpgfajiaa
open Go.RowKit
set_option linter.unusedVariables false
set_option linter.unusedSimpArgs false

def pwF (κ : Int) : List Fl := [⟨0, κ, 0, 0, 0, 0⟩, ⟨1, κ, 0, 0, 0, 0⟩, ⟨2, κ, 0, 0, 0, 0⟩]
def pw0 (κ : Int) (n : Nat) : HSt := newS 1 n (pwF κ)
def pw1 (κ : Int) (n : Nat) (zs : List Int) : HSt := (pw0 κ n).opS (fun s => s.wrote 0 zs) ⟨1, 0, (pw0 κ n).size, headL zs⟩
def pw2 (κ : Int) (n : Nat) (zs : List Int) : HSt := { pw1 κ n zs with down := false }
def pw3 (κ : Int) (n : Nat) (zs : List Int) (v : Int) : HSt := (pw2 κ n zs).opS (raiseF v) (tcA 3)
def pw4 (κ : Int) (n : Nat) (zs : List Int) (v : Int) : HSt := { pw3 κ n zs v with down := false }
def pw5 (κ : Int) (n : Nat) (zs : List Int) (v : Int) : HSt := (pw4 κ n zs v).opS id ⟨0, 0, (pw4 κ n zs v).size, List.replicate 12 0⟩
def pw6 (κ : Int) (n : Nat) (zs : List Int) (v : Int) : HSt := { pw5 κ n zs v with down := false }
def pw7 (κ : Int) (n : Nat) (zs : List Int) (v : Int) : HSt := (pw6 κ n zs v).opS id ⟨0, 0, (pw6 κ n zs v).size, List.replicate 12 0⟩
def pw8 (κ : Int) (n : Nat) (zs : List Int) (v : Int) : HSt := (pw7 κ n zs v).opS id (tcA 2)
theorem a_opE (n : Nat) (zs : List Int) (v : Int) : (pw0 3 n).opE = 110 ∧ (pw1 3 n zs).down = true ∧ (pw1 3 n zs).ops = 1 ∧ (pw2 3 n zs).opE = 110 ∧ (pw3 3 n zs v).ops = 2 ∧ (pw4 3 n zs v).opE = 110 ∧ (pw5 3 n zs v).down = true ∧ (pw5 3 n zs v).ops = 3 ∧ (pw6 3 n zs v).opE = 0 ∧ (pw7 3 n zs v).opE = 0 ∧ (pw8 3 n zs v).ops = 5 ∧ (pw0 3 n).pages = 1 ∧ (pw0 3 n).size = n ∧ (pw4 3 n zs v).pages = 1 ∧ (pw6 3 n zs v).pages = 1 ∧ (pw6 3 n zs v).size = n ∧ (pw4 3 n zs v).size = n :=
  ⟨by kernel_rfl, by kernel_rfl, by kernel_rfl, by kernel_rfl, by kernel_rfl, by kernel_rfl, by kernel_rfl, by kernel_rfl, by kernel_rfl, by kernel_rfl, by kernel_rfl, by kernel_rfl, by kernel_rfl, by kernel_rfl, by kernel_rfl, by kernel_rfl, by kernel_rfl⟩
theorem a_ops (n : Nat) (zs : List Int) (v : Int) : (pw0 3 n).ops = 0 ∧ (pw1 3 n zs).ops = 1 ∧ (pw2 3 n zs).ops = 1 ∧ (pw4 3 n zs v).ops = 2 ∧ (pw5 3 n zs v).ops = 3 ∧ (pw6 3 n zs v).ops = 3 ∧ (pw7 3 n zs v).ops = 4 := ⟨by kernel_rfl, by kernel_rfl, by kernel_rfl, by kernel_rfl, by kernel_rfl, by kernel_rfl, by kernel_rfl⟩
theorem b_opE (n : Nat) (zs : List Int) (v : Int) : (pw0 4 n).opE = 110 ∧ (pw1 4 n zs).down = true ∧ (pw1 4 n zs).ops = 1 ∧ (pw2 4 n zs).opE = 110 ∧ (pw3 4 n zs v).ops = 2 ∧ (pw4 4 n zs v).opE = 110 ∧ (pw5 4 n zs v).down = true ∧ (pw5 4 n zs v).ops = 3 ∧ (pw6 4 n zs v).opE = 0 ∧ (pw7 4 n zs v).opE = 0 ∧ (pw8 4 n zs v).ops = 5 ∧ (pw0 4 n).pages = 1 ∧ (pw0 4 n).size = n ∧ (pw4 4 n zs v).pages = 1 ∧ (pw6 4 n zs v).pages = 1 ∧ (pw6 4 n zs v).size = n ∧ (pw4 4 n zs v).size = n :=
  ⟨by kernel_rfl, by kernel_rfl, by kernel_rfl, by kernel_rfl, by kernel_rfl, by kernel_rfl, by kernel_rfl, by kernel_rfl, by kernel_rfl, by kernel_rfl, by kernel_rfl, by kernel_rfl, by kernel_rfl, by kernel_rfl, by kernel_rfl, by kernel_rfl, by kernel_rfl⟩
theorem b_ops (n : Nat) (zs : List Int) (v : Int) : (pw0 4 n).ops = 0 ∧ (pw1 4 n zs).ops = 1 ∧ (pw2 4 n zs).ops = 1 ∧ (pw4 4 n zs v).ops = 2 ∧ (pw5 4 n zs v).ops = 3 ∧ (pw6 4 n zs v).ops = 3 ∧ (pw7 4 n zs v).ops = 4 := ⟨by kernel_rfl, by kernel_rfl, by kernel_rfl, by kernel_rfl, by kernel_rfl, by kernel_rfl, by kernel_rfl⟩
theorem a_last (n : Nat) (zs : List Int) (v : Int) : spoL (pw6 3 n zs v) 0 ((pw6 3 n zs v).coming (pw6 3 n zs v).ops) = List.replicate n 0 ∧ (pw7 3 n zs v).reg = 0 ∧ (pw8 3 n zs v).log.length = 2 := ⟨by kernel_rfl, by kernel_rfl, by kernel_rfl⟩
theorem b_last (n : Nat) (zs : List Int) (v : Int) : spoL (pw6 4 n zs v) 0 ((pw6 4 n zs v).coming (pw6 4 n zs v).ops) = zs ∧ (pw7 4 n zs v).reg = (if 0 < v then v else 0) ∧ (pw8 4 n zs v).log.length = 5 := ⟨by kernel_rfl, by kernel_rfl, by kernel_rfl⟩
theorem opS_down {s : HSt} (h : s.down = true) (f : HSt → HSt) (t : Tc) : s.opS f t = s := if_pos h
theorem opE_down {s : HSt} (h : s.down = true) : s.opE = 110 := if_pos (.inl h)
theorem fls_flat {w : World} {g : Nat} {fs : List Fl} (h : Blk w g 55 (fs.flatMap flC)) (hf : ∀ f ∈ fs, f.Good) (hl : fs.length ≤ 3000000000000) : FlS w (fun k => k < w.heap.size) (.slice (some ⟨g, 0, none⟩) fs.length fs.length) fs :=
  ⟨hl, hf, some ⟨g, 0, none⟩, fs.length, rfl, fun i hi => ⟨g, 0, rfl, h.lt, h.lt, fun j v hv => by
    have hj : j < 6 := by have := (List.getElem?_eq_some_iff.1 hv).1; rw [flC_length] at this; exact this
    rw [Nat.zero_add, h.cell, flat_at fs i j hi hj]; exact hv⟩⟩
theorem build3_fl (f1 f2 f3 : Fl) (w : World) : (Instr.buildSlice 22 3 #[(0, .agg (flC f1).toArray), (1, .agg (flC f2).toArray), (2, .agg (flC f3).toArray)]).run Try.prog w = .ok (.slice (some ⟨w.heap.size, 0, none⟩) 3 3) (w.alloc (.cells ([f1, f2, f3].flatMap flC).toArray 55)) := by
  obtain ⟨a1, a2, a3, a4, a5, a6⟩ := f1
  obtain ⟨b1, b2, b3, b4, b5, b6⟩ := f2
  obtain ⟨c1, c2, c3, c4, c5, c6⟩ := f3
  kernel_rfl
theorem a_good : ∀ f ∈ pwF 3, f.Good := by
  intro f hf
  simp only [pwF, List.mem_cons, List.not_mem_nil, or_false] at hf
  rcases hf with rfl | rfl | rfl <;> (unfold Fl.Good; decide)
theorem a_new (n : Nat) (hn : 1 ≤ n ∧ n ≤ 4124) (v : Value) (M : Nat → Prop) (w : World) (x : FlS w M v (pwF 3)) (hM : ∀ k, M k → k < w.heap.size) : Calls Try.prog 12 #[.int .i64 1, .int .i64 n, v] w fun e w' => ∃ h, e = .returned (.tuple #[.pointer (some ⟨h, 0, none⟩), .int .i64 0]) ∧ HostAt w' (fun k => w.heap.size ≤ k ∧ k < w'.heap.size) h (pw0 3 n) ∧ Below w.heap.size w w' :=
  new_good 1 n v (pwF 3) M w x hM (by decide) (by decide) hn (by decide)
theorem a_new1 (v : Value) (M : Nat → Prop) (w : World) (x : FlS w M v (pwF 3)) (hM : ∀ k, M k → k < w.heap.size) : Calls Try.prog 12 #[.int .i64 1, .int .i64 1, v] w fun e w' => ∃ h, e = .returned (.tuple #[.pointer (some ⟨h, 0, none⟩), .int .i64 0]) ∧ HostAt w' (fun k => w.heap.size ≤ k ∧ k < w'.heap.size) h (pw0 3 1) ∧ Below w.heap.size w w' :=
  a_new 1 (by decide) v M w x hM
theorem a_w1 (h n : Nat) (zs : List Int) (M : Nat → Prop) (w : World) (x : HostAt w M h (pw0 3 n)) (ao : Option Addr) (c : Nat) (hx : Seen w ao n zs) (ho : ∀ b o, 0 < n → ao = some ⟨b, o, none⟩ → ¬ M b) : Calls Try.prog 29 #[.pointer (some ⟨h, 0, none⟩), .int .i64 0, .slice ao n c] w fun e w' => e = .returned (.int .i64 110) ∧ ∃ M2, HostAt w' M2 h (pw1 3 n zs) ∧ Goes M M2 w w' := by
  have A := a_opE n zs 0
  have := write_good h (pw0 3 n) 0 (by rw [A.2.2.2.2.2.2.2.2.2.2.2.1]; decide) ao n c zs A.2.2.2.2.2.2.2.2.2.2.2.2.1.symm M w x hx ho (by rw [(a_ops n zs 0).1]; decide)
  rw [A.1] at this
  exact this
theorem a_w2 (h n : Nat) (zs : List Int) (M : Nat → Prop) (w : World) (x : HostAt w M h (pw1 3 n zs)) (ao : Option Addr) (c : Nat) (hx : Seen w ao n zs) (ho : ∀ b o, 0 < n → ao = some ⟨b, o, none⟩ → ¬ M b) : Calls Try.prog 29 #[.pointer (some ⟨h, 0, none⟩), .int .i64 0, .slice ao n c] w fun e w' => e = .returned (.int .i64 110) ∧ ∃ M2, HostAt w' M2 h (pw1 3 n zs) ∧ Goes M M2 w w' := by
  have A := a_opE n zs 0
  have := write_good h (pw1 3 n zs) 0 (show 0 < 1 by decide) ao n c zs rfl M w x hx ho (by rw [(a_ops n zs 0).2.1]; decide)
  rw [opE_down A.2.1, opS_down A.2.1] at this
  exact this
theorem a_r1 (h n : Nat) (zs : List Int) (v : Int) (hv : Word v) (M : Nat → Prop) (w : World) (x : HostAt w M h (pw1 3 n zs)) : Calls Try.prog 30 #[.pointer (some ⟨h, 0, none⟩), .int .u64 v] w fun e w' => e = .returned (.int .i64 110) ∧ ∃ M2, HostAt w' M2 h (pw1 3 n zs) ∧ Goes M M2 w w' := by
  have A := a_opE n zs 0
  have := raise_any h (pw1 3 n zs) v hv M w x (by rw [(a_ops n zs 0).2.1]; decide)
  rw [opE_down A.2.1, opS_down A.2.1, if_neg (fun h => absurd h.1 (by decide))] at this
  exact this
theorem a_r2 (h n : Nat) (zs : List Int) (v : Int) (hv : Word v) (M : Nat → Prop) (w : World) (x : HostAt w M h (pw2 3 n zs)) : Calls Try.prog 30 #[.pointer (some ⟨h, 0, none⟩), .int .u64 v] w fun e w' => e = .returned (.int .i64 110) ∧ ∃ M2, HostAt w' M2 h (pw3 3 n zs v) ∧ Goes M M2 w w' := by
  have A := a_opE n zs 0
  have := raise_any h (pw2 3 n zs) v hv M w x (by rw [(a_ops n zs 0).2.2.1]; decide)
  rw [A.2.2.2.1, if_neg (fun h => absurd h.1 (by decide))] at this
  exact this
theorem a_rd1 (h n : Nat) (zs : List Int) (v : Int) (M : Nat → Prop) (w : World) (x : HostAt w M h (pw4 3 n zs v)) : Calls Try.prog 32 #[.pointer (some ⟨h, 0, none⟩), .int .i64 0] w fun e w' => e = .returned (.tuple #[.slice none 0 0, .int .i64 110]) ∧ ∃ M2, HostAt w' M2 h (pw5 3 n zs v) ∧ Goes M M2 w w' := by
  have A := a_opE n zs v
  refine (read_good h (pw4 3 n zs v) 0 (by rw [A.2.2.2.2.2.2.2.2.2.2.2.2.2.1]; decide) M w x (by rw [(a_ops n zs v).2.2.2.1]; decide)).mono ?_
  rintro e w' ⟨v', rfl, M2, y, go, hn, _⟩
  rw [hn (by rw [A.2.2.2.2.2.1]; decide), A.2.2.2.2.2.1]
  exact ⟨rfl, M2, y, go⟩
theorem a_ask1 (h n : Nat) (zs : List Int) (v : Int) (M : Nat → Prop) (w : World) (x : HostAt w M h (pw5 3 n zs v)) : Calls Try.prog 33 #[.pointer (some ⟨h, 0, none⟩)] w fun e w' => e = .returned (.tuple #[.int .u64 0, .int .i64 110]) ∧ ∃ M2, HostAt w' M2 h (pw5 3 n zs v) ∧ Goes M M2 w w' := by
  have A := a_opE n zs v
  have := ask_any h (pw5 3 n zs v) M w x (by rw [(a_ops n zs v).2.2.2.2.1]; decide)
  rw [opE_down A.2.2.2.2.2.2.1, opS_down A.2.2.2.2.2.2.1, if_neg (by decide)] at this
  exact this
theorem a_rd2 (h n : Nat) (zs : List Int) (v : Int) (M : Nat → Prop) (w : World) (x : HostAt w M h (pw6 3 n zs v)) : Calls Try.prog 32 #[.pointer (some ⟨h, 0, none⟩), .int .i64 0] w fun e w' => ∃ g, e = .returned (.tuple #[.slice (some ⟨g, 0, none⟩) n n, .int .i64 0]) ∧ ∃ M2, HostAt w' M2 h (pw7 3 n zs v) ∧ Goes M M2 w w' ∧ Blk w' g 5 (u8s (spoL (pw6 3 n zs v) 0 ((pw6 3 n zs v).coming (pw6 3 n zs v).ops))) ∧ ¬ M2 g ∧ Bytes (spoL (pw6 3 n zs v) 0 ((pw6 3 n zs v).coming (pw6 3 n zs v).ops)) := by
  have A := a_opE n zs v
  refine (read_good h (pw6 3 n zs v) 0 (by rw [A.2.2.2.2.2.2.2.2.2.2.2.2.2.2.1]; decide) M w x (by rw [(a_ops n zs v).2.2.2.2.2.1]; decide)).mono ?_
  rintro e w' ⟨v', rfl, M2, y, go, _, hy⟩
  obtain ⟨g, rfl, b, _, nm, hb⟩ := hy A.2.2.2.2.2.2.2.2.1
  refine ⟨g, ?_, M2, y, go, b, nm, hb⟩
  rw [A.2.2.2.2.2.2.2.2.1, A.2.2.2.2.2.2.2.2.2.2.2.2.2.2.2.1]
theorem a_ask2 (h n : Nat) (zs : List Int) (v : Int) (M : Nat → Prop) (w : World) (x : HostAt w M h (pw7 3 n zs v)) : Calls Try.prog 33 #[.pointer (some ⟨h, 0, none⟩)] w fun e w' => e = .returned (.tuple #[.int .u64 (pw7 3 n zs v).reg, .int .i64 0]) ∧ ∃ M2, HostAt w' M2 h (pw8 3 n zs v) ∧ Goes M M2 w w' := by
  have A := a_opE n zs v
  have := ask_any h (pw7 3 n zs v) M w x (by rw [(a_ops n zs v).2.2.2.2.2.2]; decide)
  rw [A.2.2.2.2.2.2.2.2.2.1, if_pos rfl] at this
  exact this
theorem b_good : ∀ f ∈ pwF 4, f.Good := by
  intro f hf
  simp only [pwF, List.mem_cons, List.not_mem_nil, or_false] at hf
  rcases hf with rfl | rfl | rfl <;> (unfold Fl.Good; decide)
theorem b_new (n : Nat) (hn : 1 ≤ n ∧ n ≤ 4124) (v : Value) (M : Nat → Prop) (w : World) (x : FlS w M v (pwF 4)) (hM : ∀ k, M k → k < w.heap.size) : Calls Try.prog 12 #[.int .i64 1, .int .i64 n, v] w fun e w' => ∃ h, e = .returned (.tuple #[.pointer (some ⟨h, 0, none⟩), .int .i64 0]) ∧ HostAt w' (fun k => w.heap.size ≤ k ∧ k < w'.heap.size) h (pw0 4 n) ∧ Below w.heap.size w w' :=
  new_good 1 n v (pwF 4) M w x hM (by decide) (by decide) hn (by decide)
theorem b_new1 (v : Value) (M : Nat → Prop) (w : World) (x : FlS w M v (pwF 4)) (hM : ∀ k, M k → k < w.heap.size) : Calls Try.prog 12 #[.int .i64 1, .int .i64 1, v] w fun e w' => ∃ h, e = .returned (.tuple #[.pointer (some ⟨h, 0, none⟩), .int .i64 0]) ∧ HostAt w' (fun k => w.heap.size ≤ k ∧ k < w'.heap.size) h (pw0 4 1) ∧ Below w.heap.size w w' :=
  b_new 1 (by decide) v M w x hM
theorem b_w1 (h n : Nat) (zs : List Int) (M : Nat → Prop) (w : World) (x : HostAt w M h (pw0 4 n)) (ao : Option Addr) (c : Nat) (hx : Seen w ao n zs) (ho : ∀ b o, 0 < n → ao = some ⟨b, o, none⟩ → ¬ M b) : Calls Try.prog 29 #[.pointer (some ⟨h, 0, none⟩), .int .i64 0, .slice ao n c] w fun e w' => e = .returned (.int .i64 110) ∧ ∃ M2, HostAt w' M2 h (pw1 4 n zs) ∧ Goes M M2 w w' := by
  have A := b_opE n zs 0
  have := write_good h (pw0 4 n) 0 (by rw [A.2.2.2.2.2.2.2.2.2.2.2.1]; decide) ao n c zs A.2.2.2.2.2.2.2.2.2.2.2.2.1.symm M w x hx ho (by rw [(b_ops n zs 0).1]; decide)
  rw [A.1] at this
  exact this
theorem b_w2 (h n : Nat) (zs : List Int) (M : Nat → Prop) (w : World) (x : HostAt w M h (pw1 4 n zs)) (ao : Option Addr) (c : Nat) (hx : Seen w ao n zs) (ho : ∀ b o, 0 < n → ao = some ⟨b, o, none⟩ → ¬ M b) : Calls Try.prog 29 #[.pointer (some ⟨h, 0, none⟩), .int .i64 0, .slice ao n c] w fun e w' => e = .returned (.int .i64 110) ∧ ∃ M2, HostAt w' M2 h (pw1 4 n zs) ∧ Goes M M2 w w' := by
  have A := b_opE n zs 0
  have := write_good h (pw1 4 n zs) 0 (show 0 < 1 by decide) ao n c zs rfl M w x hx ho (by rw [(b_ops n zs 0).2.1]; decide)
  rw [opE_down A.2.1, opS_down A.2.1] at this
  exact this
theorem b_r1 (h n : Nat) (zs : List Int) (v : Int) (hv : Word v) (M : Nat → Prop) (w : World) (x : HostAt w M h (pw1 4 n zs)) : Calls Try.prog 30 #[.pointer (some ⟨h, 0, none⟩), .int .u64 v] w fun e w' => e = .returned (.int .i64 110) ∧ ∃ M2, HostAt w' M2 h (pw1 4 n zs) ∧ Goes M M2 w w' := by
  have A := b_opE n zs 0
  have := raise_any h (pw1 4 n zs) v hv M w x (by rw [(b_ops n zs 0).2.1]; decide)
  rw [opE_down A.2.1, opS_down A.2.1, if_neg (fun h => absurd h.1 (by decide))] at this
  exact this
theorem b_r2 (h n : Nat) (zs : List Int) (v : Int) (hv : Word v) (M : Nat → Prop) (w : World) (x : HostAt w M h (pw2 4 n zs)) : Calls Try.prog 30 #[.pointer (some ⟨h, 0, none⟩), .int .u64 v] w fun e w' => e = .returned (.int .i64 110) ∧ ∃ M2, HostAt w' M2 h (pw3 4 n zs v) ∧ Goes M M2 w w' := by
  have A := b_opE n zs 0
  have := raise_any h (pw2 4 n zs) v hv M w x (by rw [(b_ops n zs 0).2.2.1]; decide)
  rw [A.2.2.2.1, if_neg (fun h => absurd h.1 (by decide))] at this
  exact this
theorem b_rd1 (h n : Nat) (zs : List Int) (v : Int) (M : Nat → Prop) (w : World) (x : HostAt w M h (pw4 4 n zs v)) : Calls Try.prog 32 #[.pointer (some ⟨h, 0, none⟩), .int .i64 0] w fun e w' => e = .returned (.tuple #[.slice none 0 0, .int .i64 110]) ∧ ∃ M2, HostAt w' M2 h (pw5 4 n zs v) ∧ Goes M M2 w w' := by
  have A := b_opE n zs v
  refine (read_good h (pw4 4 n zs v) 0 (by rw [A.2.2.2.2.2.2.2.2.2.2.2.2.2.1]; decide) M w x (by rw [(b_ops n zs v).2.2.2.1]; decide)).mono ?_
  rintro e w' ⟨v', rfl, M2, y, go, hn, _⟩
  rw [hn (by rw [A.2.2.2.2.2.1]; decide), A.2.2.2.2.2.1]
  exact ⟨rfl, M2, y, go⟩
theorem b_ask1 (h n : Nat) (zs : List Int) (v : Int) (M : Nat → Prop) (w : World) (x : HostAt w M h (pw5 4 n zs v)) : Calls Try.prog 33 #[.pointer (some ⟨h, 0, none⟩)] w fun e w' => e = .returned (.tuple #[.int .u64 0, .int .i64 110]) ∧ ∃ M2, HostAt w' M2 h (pw5 4 n zs v) ∧ Goes M M2 w w' := by
  have A := b_opE n zs v
  have := ask_any h (pw5 4 n zs v) M w x (by rw [(b_ops n zs v).2.2.2.2.1]; decide)
  rw [opE_down A.2.2.2.2.2.2.1, opS_down A.2.2.2.2.2.2.1, if_neg (by decide)] at this
  exact this
theorem b_rd2 (h n : Nat) (zs : List Int) (v : Int) (M : Nat → Prop) (w : World) (x : HostAt w M h (pw6 4 n zs v)) : Calls Try.prog 32 #[.pointer (some ⟨h, 0, none⟩), .int .i64 0] w fun e w' => ∃ g, e = .returned (.tuple #[.slice (some ⟨g, 0, none⟩) n n, .int .i64 0]) ∧ ∃ M2, HostAt w' M2 h (pw7 4 n zs v) ∧ Goes M M2 w w' ∧ Blk w' g 5 (u8s (spoL (pw6 4 n zs v) 0 ((pw6 4 n zs v).coming (pw6 4 n zs v).ops))) ∧ ¬ M2 g ∧ Bytes (spoL (pw6 4 n zs v) 0 ((pw6 4 n zs v).coming (pw6 4 n zs v).ops)) := by
  have A := b_opE n zs v
  refine (read_good h (pw6 4 n zs v) 0 (by rw [A.2.2.2.2.2.2.2.2.2.2.2.2.2.2.1]; decide) M w x (by rw [(b_ops n zs v).2.2.2.2.2.1]; decide)).mono ?_
  rintro e w' ⟨v', rfl, M2, y, go, _, hy⟩
  obtain ⟨g, rfl, b, _, nm, hb⟩ := hy A.2.2.2.2.2.2.2.2.1
  refine ⟨g, ?_, M2, y, go, b, nm, hb⟩
  rw [A.2.2.2.2.2.2.2.2.1, A.2.2.2.2.2.2.2.2.2.2.2.2.2.2.2.1]
theorem b_ask2 (h n : Nat) (zs : List Int) (v : Int) (M : Nat → Prop) (w : World) (x : HostAt w M h (pw7 4 n zs v)) : Calls Try.prog 33 #[.pointer (some ⟨h, 0, none⟩)] w fun e w' => e = .returned (.tuple #[.int .u64 (pw7 4 n zs v).reg, .int .i64 0]) ∧ ∃ M2, HostAt w' M2 h (pw8 4 n zs v) ∧ Goes M M2 w w' := by
  have A := b_opE n zs v
  have := ask_any h (pw7 4 n zs v) M w x (by rw [(b_ops n zs v).2.2.2.2.2.2]; decide)
  rw [A.2.2.2.2.2.2.2.2.2.1, if_pos rfl] at this
  exact this
end Go.Proofs.Ytahmighpgfajiaa
