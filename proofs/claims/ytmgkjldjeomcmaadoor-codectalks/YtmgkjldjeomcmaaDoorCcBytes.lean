/- Layer codec: bytesOf of each part. -/
import Derived.Test.YtmgkjldjeomcmaaDoorCcCheck
import Derived.Test.YtmgkjldjeomcmaaDoorSBase
import Derived.Test.YtmgkjldjeomcmaaDoorOMem
namespace Go.Proofs.YtmgkjldjeomcmaaDoor
open Go.RowKit
set_option linter.unusedVariables false
set_option linter.unusedSimpArgs false

/-- A part that gives these bytes. -/
def Piece (v : Value) (zs : List Int) (w : World) : Prop := ∀ W, Below w.heap.size w W → Calls Tryd.prog 73 #[v] W fun e w' => ∃ ao c, e = .returned (.tuple #[.slice ao zs.length c, .nilIface]) ∧ Seen w' ao zs.length zs ∧ (ao = none → c = 0) ∧ Below W.heap.size W w'
/-- A part that gives an error. -/
def NoPiece (v : Value) (x : Int) (w : World) : Prop := ∀ W, Below w.heap.size w W → Calls Tryd.prog 73 #[v] W fun e w' => e = .returned (.tuple #[.slice none 0 0, .iface 25 (.int .i64 x)]) ∧ Below W.heap.size W w'
theorem Piece.later {v : Value} {zs : List Int} {w w' : World} (h : Piece v zs w) (hb : Below w.heap.size w w') : Piece v zs w' := fun W hW => h W (below_chain hb hW hb.size)
theorem NoPiece.later {v : Value} {x : Int} {w w' : World} (h : NoPiece v x w) (hb : Below w.heap.size w w') : NoPiece v x w' := fun W hW => h W (below_chain hb hW hb.size)

theorem own_seen8 {w : World} {base : Nat} {v : Value} {n : Nat} {zs : List Int} (h : w.ownsRow base 5 1 v n (zs.map (Value.int .u8))) (hl : zs.length = n) (hb : Bytes zs) (ht : n ≤ 140737488355328) : ∃ ao c, v = .slice ao n c ∧ Seen w ao n zs ∧ (ao = none → c = 0) := by
  rcases h.2 with ⟨rfl, h0⟩ | ⟨g, cap, cur, rfl, hg, hh, _⟩
  · subst h0
    exact ⟨none, 0, rfl, ⟨hl, by decide, hb, fun h => by omega⟩, fun _ => rfl⟩
  · refine ⟨_, cap, rfl, ⟨hl, ht, hb, fun _ => ⟨g, 0, rfl, lt_of_block hh, fun i hi => ?_⟩⟩, fun h => by cases h⟩
    rw [Nat.zero_add, h.cellAt i (by omega)]
    simp [List.getD, hl ▸ hi]

theorem ta_int (v : Value) (w : World) : (Instr.typeAssert (.iface 3 v) 20 3 true).run Tryd.prog w = .ok (.tuple #[v, .bool true]) w := by kernel_rfl
theorem ta_bool_int (v : Value) (w : World) : (Instr.typeAssert (.iface 4 v) 20 3 true).run Tryd.prog w = .ok (.tuple #[.int .i64 0, .bool false]) w := by kernel_rfl
theorem ta_bool (v : Value) (w : World) : (Instr.typeAssert (.iface 4 v) 20 4 true).run Tryd.prog w = .ok (.tuple #[v, .bool true]) w := by kernel_rfl
theorem ta_Drop_int (v : Value) (w : World) : (Instr.typeAssert (.iface 35 v) 20 3 true).run Tryd.prog w = .ok (.tuple #[.int .i64 0, .bool false]) w := by kernel_rfl
theorem ta_Drop_bool (v : Value) (w : World) : (Instr.typeAssert (.iface 35 v) 20 4 true).run Tryd.prog w = .ok (.tuple #[.bool false, .bool false]) w := by kernel_rfl
theorem ta_Drop (v : Value) (w : World) : (Instr.typeAssert (.iface 35 v) 20 35 true).run Tryd.prog w = .ok (.tuple #[v, .bool true]) w := by kernel_rfl
theorem ta_choice_int (v : Value) (w : World) : (Instr.typeAssert (.iface 96 v) 20 3 true).run Tryd.prog w = .ok (.tuple #[.int .i64 0, .bool false]) w := by kernel_rfl
theorem ta_choice_bool (v : Value) (w : World) : (Instr.typeAssert (.iface 96 v) 20 4 true).run Tryd.prog w = .ok (.tuple #[.bool false, .bool false]) w := by kernel_rfl
theorem ta_choice_Drop (v : Value) (w : World) : (Instr.typeAssert (.iface 96 v) 20 35 true).run Tryd.prog w = .ok (.tuple #[.agg #[.int .u8 0, .int .u8 0, .int .u8 0, .int .u8 0, .int .u8 0, .int .u8 0, .int .u8 0, .int .u8 0, .int .u8 0, .int .u8 0, .int .u8 0, .int .u8 0, .int .u8 0, .int .u8 0, .int .u8 0, .int .u8 0], .bool false]) w := by kernel_rfl
theorem ta_choice (v : Value) (w : World) : (Instr.typeAssert (.iface 96 v) 20 96 true).run Tryd.prog w = .ok (.tuple #[v, .bool true]) w := by kernel_rfl
theorem ta_row_int (v : Value) (w : World) : (Instr.typeAssert (.iface 87 v) 20 3 true).run Tryd.prog w = .ok (.tuple #[.int .i64 0, .bool false]) w := by kernel_rfl
theorem ta_row_bool (v : Value) (w : World) : (Instr.typeAssert (.iface 87 v) 20 4 true).run Tryd.prog w = .ok (.tuple #[.bool false, .bool false]) w := by kernel_rfl
theorem ta_row_Drop (v : Value) (w : World) : (Instr.typeAssert (.iface 87 v) 20 35 true).run Tryd.prog w = .ok (.tuple #[.agg #[.int .u8 0, .int .u8 0, .int .u8 0, .int .u8 0, .int .u8 0, .int .u8 0, .int .u8 0, .int .u8 0, .int .u8 0, .int .u8 0, .int .u8 0, .int .u8 0, .int .u8 0, .int .u8 0, .int .u8 0, .int .u8 0], .bool false]) w := by kernel_rfl
theorem ta_row_choice (v : Value) (w : World) : (Instr.typeAssert (.iface 87 v) 20 96 true).run Tryd.prog w = .ok (.tuple #[.agg #[.int .i64 0, .int .i64 0, .int .i64 0], .bool false]) w := by kernel_rfl
theorem ta_row (v : Value) (w : World) : (Instr.typeAssert (.iface 87 v) 20 87 true).run Tryd.prog w = .ok (.tuple #[v, .bool true]) w := by kernel_rfl
theorem ta_invs_int (v : Value) (w : World) : (Instr.typeAssert (.iface 100 v) 20 3 true).run Tryd.prog w = .ok (.tuple #[.int .i64 0, .bool false]) w := by kernel_rfl
theorem ta_invs_bool (v : Value) (w : World) : (Instr.typeAssert (.iface 100 v) 20 4 true).run Tryd.prog w = .ok (.tuple #[.bool false, .bool false]) w := by kernel_rfl
theorem ta_invs_Drop (v : Value) (w : World) : (Instr.typeAssert (.iface 100 v) 20 35 true).run Tryd.prog w = .ok (.tuple #[.agg #[.int .u8 0, .int .u8 0, .int .u8 0, .int .u8 0, .int .u8 0, .int .u8 0, .int .u8 0, .int .u8 0, .int .u8 0, .int .u8 0, .int .u8 0, .int .u8 0, .int .u8 0, .int .u8 0, .int .u8 0, .int .u8 0], .bool false]) w := by kernel_rfl
theorem ta_invs_choice (v : Value) (w : World) : (Instr.typeAssert (.iface 100 v) 20 96 true).run Tryd.prog w = .ok (.tuple #[.agg #[.int .i64 0, .int .i64 0, .int .i64 0], .bool false]) w := by kernel_rfl
theorem ta_invs_row (v : Value) (w : World) : (Instr.typeAssert (.iface 100 v) 20 87 true).run Tryd.prog w = .ok (.tuple #[.agg #[.slice none 0 0, .int .i64 0], .bool false]) w := by kernel_rfl
theorem ta_invs (v : Value) (w : World) : (Instr.typeAssert (.iface 100 v) 20 100 true).run Tryd.prog w = .ok (.tuple #[v, .bool true]) w := by kernel_rfl
set_option maxRecDepth 20000 in
set_option maxHeartbeats 1000000 in
theorem piece_int (x : Int) (hx : 0 ≤ x ∧ x < 4294967296) (w : World) : Piece (.iface 3 (.int .i64 x)) (leB 4 x) w := by
  intro W hW
  have ta9 := ta_int
  have HP := put_32 none 0 0 [] x W (Seen.empty _ _) (fun _ => rfl) (by decide) hx
  rw [leB_length]
  have HL : Hid ((leB 4 x).length = 4 ∧ Bytes (leB 4 x)) := ⟨leB_length _ _, leB_bytes _ _⟩
  have w1 : x % 4294967296 = x := by omega
  simp only [List.nil_append, Nat.zero_add] at HP
  generalize leB 4 x = L at *
  clear hW
  go_enter Tryd.func73, Tryd.ntmps73
  go_wp2_with (go_at_call 83; refine HP.mono ?_; rintro e w1 ⟨v, rfl, hown, hbel⟩)
  obtain ⟨ao, c, rfl, hs, hc⟩ := own_seen8 hown HL.out.1 HL.out.2 (by decide)
  have HS : Hid (Seen w1 ao 4 L ∧ (ao = none → c = 0) ∧ Below W.heap.size W w1) := ⟨hs, hc, hbel⟩
  clear hs hc hbel hown HP
  go_wp2
  go_ret2
  exact ⟨ao, c, rfl, HS.out⟩
set_option maxRecDepth 20000 in
set_option maxHeartbeats 1000000 in
theorem piece_bool (b : Bool) (w : World) : Piece (.iface 4 (.bool b)) [if b then 1 else 0] w := by
  intro W hW
  have ta0 := ta_bool_int
  have ta9 := ta_bool
  have HN : ∀ z : Int, (z = 0 ∨ z = 1) → Hid (Seen (W.alloc (.cells #[.int .u8 z] 5)) (some ⟨W.heap.size, 0, none⟩) 1 [z] ∧ Below W.heap.size W (W.alloc (.cells #[.int .u8 z] 5))) := fun z hz => by
    refine ⟨⟨rfl, by decide, fun y hy => by simp at hy; omega, fun _ => ⟨W.heap.size, 0, rfl, by simp, fun i hi => ?_⟩⟩, (Below.refl _ _).alloc (Nat.le_refl _) _⟩
    obtain rfl : i = 0 := by omega
    simp
  have N0 := HN 0 (.inl rfl)
  have N1 := HN 1 (.inr rfl)
  clear HN hW
  cases b
  · go_enter Tryd.func73, Tryd.ntmps73
    go_wp2
    go_ret2
    exact ⟨some ⟨W.heap.size, 0, none⟩, 1, rfl, N0.out.1, (fun h => by cases h), N0.out.2⟩
  · go_enter Tryd.func73, Tryd.ntmps73
    go_wp2
    go_ret2
    exact ⟨some ⟨W.heap.size, 0, none⟩, 1, rfl, N1.out.1, (fun h => by cases h), N1.out.2⟩
set_option maxRecDepth 20000 in
set_option maxHeartbeats 1000000 in
theorem piece_choice (x lo hi : Int) (hx : 0 ≤ x ∧ x < 4294967296) (hin : inB x lo hi = true) (w : World) : Piece (.iface 96 (.agg #[.int .i64 x, .int .i64 lo, .int .i64 hi])) (leB 4 x) w := by
  intro W hW
  have ta0 := ta_choice_int
  have ta1 := ta_choice_bool
  have ta2 := ta_choice_Drop
  have ta9 := ta_choice
  have HC : Hid (∀ W, Calls Tryd.prog 52 #[.int .i64 x, .int .i64 lo, .int .i64 hi] W fun e w' => e = .returned (.bool true) ∧ W = w') := fun W => hin ▸ within_any x lo hi W
  have HP := piece_int x hx w (W.alloc (.cells #[.int .i64 x, .int .i64 lo, .int .i64 hi] 96)) (hW.alloc hW.size _)
  have HB : Hid (Below W.heap.size W (W.alloc (.cells #[.int .i64 x, .int .i64 lo, .int .i64 hi] 96)) ∧ (W.alloc (.cells #[.int .i64 x, .int .i64 lo, .int .i64 hi] 96)).heap.size = W.heap.size + 1) := ⟨(Below.refl _ _).alloc (Nat.le_refl _) _, by simp⟩
  rw [leB_length] at HP ⊢
  generalize leB 4 x = L at *
  clear hW hin
  go_enter Tryd.func73, Tryd.ntmps73
  go_wp2_with (first | (go_at_call 52; refine (HC.out _).mono ?_; rintro e w1 ⟨rfl, rfl⟩) | (go_at_call 73; refine HP.mono ?_; rintro e w1 ⟨ao, c, rfl, hs, hc, hb⟩))
  have HS : Hid (Seen w1 ao 4 L ∧ (ao = none → c = 0) ∧ Below W.heap.size W w1) := ⟨hs, hc, below_chain HB.out.1 hb (by have := HB.out.2; omega)⟩
  clear hs hc hb HP
  go_wp2
  go_ret2
  exact ⟨ao, c, rfl, HS.out⟩
set_option maxRecDepth 20000 in
set_option maxHeartbeats 1000000 in
theorem nopiece_choice (x lo hi : Int) (hin : inB x lo hi = false) (w : World) : NoPiece (.iface 96 (.agg #[.int .i64 x, .int .i64 lo, .int .i64 hi])) 201 w := by
  intro W hW
  have ta0 := ta_choice_int
  have ta1 := ta_choice_bool
  have ta2 := ta_choice_Drop
  have ta9 := ta_choice
  have HC : Hid (∀ W, Calls Tryd.prog 52 #[.int .i64 x, .int .i64 lo, .int .i64 hi] W fun e w' => e = .returned (.bool false) ∧ W = w') := fun W => hin ▸ within_any x lo hi W
  have HB : Hid (Below W.heap.size W (W.alloc (.cells #[.int .i64 x, .int .i64 lo, .int .i64 hi] 96))) := (Below.refl _ _).alloc (Nat.le_refl _) _
  clear hW hin
  go_enter Tryd.func73, Tryd.ntmps73
  go_wp2_with (go_at_call 52; refine (HC.out _).mono ?_; rintro e w1 ⟨rfl, rfl⟩)
  go_ret2
  exact ⟨rfl, HB.out⟩
set_option maxRecDepth 20000 in
set_option maxHeartbeats 1000000 in
theorem piece_row (ao : Option Addr) (n c : Nat) (zs : List Int) (w : World) (hs : Seen w ao n zs) (hc : ao = none → c = 0) : Piece (.iface 87 (.agg #[.slice ao n c, .int .i64 n])) zs w := by
  intro W hW
  have ta0 := ta_row_int
  have ta1 := ta_row_bool
  have ta2 := ta_row_Drop
  have ta3 := ta_row_choice
  have ta9 := ta_row
  have ht := hs.top
  have HL : Hid (zs.length = n) := hs.len
  have HB : Hid (Below W.heap.size W (W.alloc (.cells #[.slice ao n c, .int .i64 n] 87)) ∧ Seen (W.alloc (.cells #[.slice ao n c, .int .i64 n] 87)) ao n zs ∧ (ao = none → c = 0)) := ⟨(Below.refl _ _).alloc (Nat.le_refl _) _, hs.later (hW.alloc hW.size _) (Nat.le_refl _), hc⟩
  rw [HL.out]
  clear hW hs hc
  go_enter Tryd.func73, Tryd.ntmps73
  go_wp2
  go_ret2
  exact ⟨ao, c, rfl, HB.out.2.1, HB.out.2.2, HB.out.1⟩
set_option maxRecDepth 20000 in
set_option maxHeartbeats 1000000 in
theorem nopiece_row (ao : Option Addr) (n c : Nat) (m : Int) (hne : ¬ (n : Int) = m) (w : World) : NoPiece (.iface 87 (.agg #[.slice ao n c, .int .i64 m])) 4 w := by
  intro W hW
  have ta0 := ta_row_int
  have ta1 := ta_row_bool
  have ta2 := ta_row_Drop
  have ta3 := ta_row_choice
  have ta9 := ta_row
  have HB : Hid (Below W.heap.size W (W.alloc (.cells #[.slice ao n c, .int .i64 m] 87))) := (Below.refl _ _).alloc (Nat.le_refl _) _
  have n1 : ((n : Int) != m) = true := by simpa using hne
  clear hW hne
  go_enter Tryd.func73, Tryd.ntmps73
  go_wp2
  go_ret2
  exact ⟨rfl, HB.out⟩
end Go.Proofs.YtmgkjldjeomcmaaDoor
