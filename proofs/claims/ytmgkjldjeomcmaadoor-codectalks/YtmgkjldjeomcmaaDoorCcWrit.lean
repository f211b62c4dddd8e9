/- Layer codec: written; a dead drop as a part. -/
import Derived.Test.YtmgkjldjeomcmaaDoorCcBytes
import Derived.Test.YtmgkjldjeomcmaaDoorOApart
namespace Go.Proofs.YtmgkjldjeomcmaaDoor
open Go.RowKit
set_option linter.unusedVariables false
set_option linter.unusedSimpArgs false

def zer (n : Nat) : List Int := List.replicate n 0
theorem zero_Drop : (Tryd.prog.info? 35).map (fun i => (i.zero, i.size)) = some (some (.agg (u8s (zer 16)).toArray), 16) := by kernel_rfl
theorem size_Drop : (Tryd.prog.info? 35).map (·.size) = some 16 := by kernel_rfl
theorem ta_dropv (v : Value) (w : World) : (Instr.typeAssert (.iface 35 v) 20 35 true).run Tryd.prog w = .ok (.tuple #[v, .bool true]) w := by kernel_rfl
set_option maxRecDepth 20000 in
set_option maxHeartbeats 1000000 in
theorem piece_drop (d : List Int) (hd : d.length = 16) (hb : Bytes d) (w : World) : Piece (.iface 35 (.agg (u8s d).toArray)) d w := by
  intro W hW
  have ta0 := ta_Drop_int
  have ta1 := ta_Drop_bool
  have ta9 := ta_dropv
  have HD : Hid (d.length = 16 ∧ Bytes d) := ⟨hd, hb⟩
  rw [hd]
  clear hW hd hb
  go_enter Tryd.func73, Tryd.ntmps73
  go_wp2_with (first | ((with_reducible show wpList _ _ _ (({ dst := some 6, op := _, type := _, pos := _, after := _, guard := _ } : Oper) :: _) _ _); refine wpList_alloc_new rfl 35 rfl 16 _ zero_Drop ?_; intro w1 b1 s1 l1; have z1 : Hid (w1.heap.size = W.heap.size + 1) := s1; clear s1) | (refine wpList_store_blk rfl 35 35 (.tmp 6) (.tmp 25) rfl _ rfl _ (u8s d) rfl b1 (by rw [u8s_length, HD.out.1]; rfl) (by rw [u8s_length, HD.out.1]; exact size_Drop) (u8s_one _) ?_; intro w2 b2 s2 k2; have HX : Hid (Seen w2 (some ⟨W.heap.size, 0, none⟩) 16 d ∧ Below W.heap.size W w2) := (by have := z1.out; exact ⟨⟨HD.out.1, by decide, HD.out.2, fun _ => ⟨W.heap.size, 0, rfl, b2.lt, fun i hi => by rw [Nat.zero_add, u8s_cell b2 i (by rw [HD.out.1]; exact hi)]⟩⟩, below_kept l1 k2 (by omega) (fun j hj => by omega)⟩); clear b1 b2 k2 s2 l1))
  go_ret2
  exact ⟨some ⟨W.heap.size, 0, none⟩, 16, rfl, HX.out.1, (fun h => by cases h), HX.out.2⟩

/-- Values in a row. -/
structure SeenV (w : World) (ao : Option Addr) (n : Nat) (vs : Nat → Value) : Prop where
  cells : 0 < n → ∃ b o, ao = some ⟨b, o, none⟩ ∧ b < w.heap.size ∧ ∀ i, i < n → w.cell? ⟨b, o + i, none⟩ = some (vs i)
theorem SeenV.later {w w' : World} {ao : Option Addr} {n : Nat} {vs : Nat → Value} (h : SeenV w ao n vs) (hb : Below w.heap.size w w') : SeenV w' ao n vs :=
  ⟨fun h0 => by
    obtain ⟨b, o, e, hlt, hc⟩ := h.cells h0
    exact ⟨b, o, e, Nat.lt_of_lt_of_le hlt hb.size, fun i hi => (hb.cell (p := ⟨b, o + i, none⟩) hlt).trans (hc i hi)⟩⟩
/-- The bytes of the first k parts. -/
def flatP (fs : Nat → List Int) (k : Nat) : List Int := ((List.range k).map fs).flatten
theorem flatP_zero (fs : Nat → List Int) : flatP fs 0 = [] := rfl
theorem flatP_succ (fs : Nat → List Int) (k : Nat) : flatP fs (k + 1) = flatP fs k ++ fs k := by simp [flatP, List.range_succ]
theorem flatP_le (fs : Nat → List Int) (k : Nat) : (flatP fs k).length ≤ (flatP fs (k + 1)).length := by rw [flatP_succ]; simp
theorem flatP_mono (fs : Nat → List Int) (k n : Nat) (h : k ≤ n) : (flatP fs k).length ≤ (flatP fs n).length := by
  induction n with
  | zero => obtain rfl : k = 0 := by omega
            exact Nat.le_refl _
  | succ n ih =>
    rcases Nat.lt_or_ge k (n + 1) with h1 | h1
    · exact Nat.le_trans (ih (by omega)) (flatP_le fs n)
    · obtain rfl : k = n + 1 := by omega
      exact Nat.le_refl _
theorem below_grown8 {W w1 w2 : World} {base n : Nat} {v : Value} {xs : List Value} (hb : Below base W w1) (hbs : base ≤ w1.heap.size) (ho : w1.ownsRow base 5 1 v n xs) (hg : w1.grownBy w2 v.ownBlock) : Below base W w2 :=
  hb.grown hg hbs (fun j hj => (ho.lt j hj).1)
/-- A part that gives this error. -/
def NoP (v er : Value) (w : World) : Prop := ∃ et ev, er = .iface et ev ∧ ∀ W, Below w.heap.size w W → Calls Tryd.prog 73 #[v] W fun e w' => e = .returned (.tuple #[.slice none 0 0, .iface et ev]) ∧ Below W.heap.size W w'
theorem NoPiece.nop {v : Value} {x : Int} {w : World} (h : NoPiece v x w) : NoP v (.iface 25 (.int .i64 x)) w := ⟨_, _, rfl, h⟩
set_option maxRecDepth 20000 in
set_option maxHeartbeats 2000000 in
theorem written_yes (ao : Option Addr) (n c : Nat) (vs : Nat → Value) (fs : Nat → List Int) (w : World) (hs : SeenV w ao n vs) (hn : n ≤ 1000000) (hp : ∀ i, i < n → Piece (vs i) (fs i) w) (hl : (flatP fs n).length ≤ 1000000000) :
    Calls Tryd.prog 49 #[.slice ao n c] w fun e w' => ∃ v, e = .returned (.tuple #[v, .nilIface]) ∧ w'.ownsRow w.heap.size 5 1 v (flatP fs n).length ((flatP fs n).map (Value.int .u8)) ∧ Below w.heap.size w w' := by
  have HP : Hid ((∀ i, i < n → Piece (vs i) (fs i) w) ∧ SeenV w ao n vs ∧ (flatP fs n).length ≤ 1000000000 ∧ n ≤ 1000000) := ⟨hp, hs, hl, hn⟩
  clear hp hs hl
  go_enter Tryd.func49, Tryd.ntmps49
  go_wp2
  go_loopw [4, 11] (fun v i wr => ∃ k : Nat, k ≤ n ∧ i = .int .i64 k ∧ wr.ownsRow w.heap.size 5 1 v (flatP fs k).length ((flatP fs k).map (Value.int .u8)) ∧ Below w.heap.size w wr) (fun _ i _ => n - (intOf i).toNat)
  case atStart => exact ⟨0, Nat.zero_le _, rfl, by rw [flatP_zero]; exact World.ownsRow_nil _ _ _ _, Below.refl _ _⟩
  case round =>
    obtain ⟨k, hk, rfl, hown, hbel⟩ := hrel
    by_cases hlt : k < n
    · obtain ⟨b, o, rfl, hb, hc⟩ := HP.out.2.1.cells (by omega)
      have c1 := (hbel.cell (p := ⟨b, o + k, none⟩) hb).trans (hc k hlt)
      have i1 : (0 : Int) ≤ (k : Int) := by omega
      have i2 : (k : Int) < (n : Int) := by omega
      have HC := HP.out.1 k hlt wr hbel
      obtain ⟨V, hV⟩ : ∃ V, vs k = V := ⟨_, rfl⟩
      rw [hV] at c1 HC
      have HO : Hid (wr.ownsRow w.heap.size 5 1 u4 (flatP fs k).length ((flatP fs k).map (Value.int .u8)) ∧ Below w.heap.size w wr ∧ (flatP fs (k + 1)).length ≤ 1000000000 ∧ flatP fs (k + 1) = flatP fs k ++ fs k) := ⟨hown, hbel, Nat.le_trans (flatP_mono fs (k + 1) n (by omega)) HP.out.2.2.1, flatP_succ fs k⟩
      clear hown hbel hc hV hb
      go_wp2_with (first | (go_at_call 73; refine HC.mono ?_; rintro e w1 ⟨bo, d, rfl, hs1, hd1, hb1⟩; have HO1 : Hid (w1.ownsRow w.heap.size 5 1 u4 (flatP fs k).length ((flatP fs k).map (Value.int .u8)) ∧ Seen w1 bo (fs k).length (fs k) ∧ (bo = none → d = 0) ∧ Below w.heap.size w w1 ∧ (flatP fs k).length + (fs k).length ≤ 140737488355328 ∧ w.heap.size ≤ w1.heap.size) := (by have q1 := HO.out.2.1.size; have q2 := hb1.size; have q3 := HO.out.2.2.1; rw [HO.out.2.2.2, List.length_append] at q3; exact ⟨own_block HO.out.1 (fun j hj => hb1.block j (HO.out.1.lt j hj).2), hs1, hd1, below_chain HO.out.2.1 hb1 q1, by omega, by omega⟩); clear hs1 hd1 hb1 HC) | (at_builtin; refine wpList_append_seen rfl _ _ rfl w.heap.size u4 (flatP fs k).length _ rfl HO1.out.1 bo (fs k).length d (fs k) rfl HO1.out.2.1 HO1.out.2.2.1 HO1.out.2.2.2.2.1 HO1.out.2.2.2.2.2 ?_; intro v' w2 hown' hg'))
      have R1 : w2.ownsRow w.heap.size 5 1 v' (flatP fs (k + 1)).length ((flatP fs (k + 1)).map (Value.int .u8)) := by rw [HO.out.2.2.2, List.length_append, List.map_append]; exact hown'
      have R2 := below_grown8 HO1.out.2.2.2.1 HO1.out.2.2.2.2.2 HO1.out.1 hg'
      clear hown' hg'
      go_wp2
      go_roundw
      case rel => exact ⟨k + 1, by omega, by go_num, R1, R2⟩
      case measure => simp [intOf]; omega
    · obtain rfl : k = n := by omega
      have HO : Hid (wr.ownsRow w.heap.size 5 1 u4 (flatP fs k).length ((flatP fs k).map (Value.int .u8)) ∧ Below w.heap.size w wr) := ⟨hown, hbel⟩
      clear hown hbel
      go_wp2
      go_ret2
      exact ⟨_, rfl, HO.out⟩
set_option maxRecDepth 20000 in
set_option maxHeartbeats 2000000 in
theorem written_no (ao : Option Addr) (n c : Nat) (vs : Nat → Value) (fs : Nat → List Int) (w : World) (hs : SeenV w ao n vs) (hn : n ≤ 1000000) (J : Nat) (hJ : J < n) (er : Value) (hp : ∀ i, i < J → Piece (vs i) (fs i) w) (hno : NoP (vs J) er w) (hl : (flatP fs J).length ≤ 1000000000) :
    Calls Tryd.prog 49 #[.slice ao n c] w fun e w' => e = .returned (.tuple #[.slice none 0 0, .iface 110 (.agg #[.int .i64 J, er])]) ∧ Below w.heap.size w w' := by
  have HP : Hid ((∀ i, i < J → Piece (vs i) (fs i) w) ∧ SeenV w ao n vs ∧ (flatP fs J).length ≤ 1000000000 ∧ n ≤ 1000000 ∧ NoP (vs J) er w) := ⟨hp, hs, hl, hn, hno⟩
  clear hp hs hl hno
  go_enter Tryd.func49, Tryd.ntmps49
  go_wp2
  go_loopw [4, 11] (fun v i wr => ∃ k : Nat, k ≤ J ∧ i = .int .i64 k ∧ wr.ownsRow w.heap.size 5 1 v (flatP fs k).length ((flatP fs k).map (Value.int .u8)) ∧ Below w.heap.size w wr) (fun _ i _ => n - (intOf i).toNat)
  case atStart => exact ⟨0, Nat.zero_le _, rfl, by rw [flatP_zero]; exact World.ownsRow_nil _ _ _ _, Below.refl _ _⟩
  case round =>
    obtain ⟨k, hk, rfl, hown, hbel⟩ := hrel
    by_cases hlt : k < J
    · obtain ⟨b, o, rfl, hb, hc⟩ := HP.out.2.1.cells (by omega)
      have c1 := (hbel.cell (p := ⟨b, o + k, none⟩) hb).trans (hc k (by omega))
      have i1 : (0 : Int) ≤ (k : Int) := by omega
      have i2 : (k : Int) < (n : Int) := by omega
      have HC := HP.out.1 k hlt wr hbel
      obtain ⟨V, hV⟩ : ∃ V, vs k = V := ⟨_, rfl⟩
      rw [hV] at c1 HC
      have HO : Hid (wr.ownsRow w.heap.size 5 1 u4 (flatP fs k).length ((flatP fs k).map (Value.int .u8)) ∧ Below w.heap.size w wr ∧ (flatP fs (k + 1)).length ≤ 1000000000 ∧ flatP fs (k + 1) = flatP fs k ++ fs k) := ⟨hown, hbel, Nat.le_trans (flatP_mono fs (k + 1) J (by omega)) HP.out.2.2.1, flatP_succ fs k⟩
      clear hown hbel hc hV hb
      go_wp2_with (first | (go_at_call 73; refine HC.mono ?_; rintro e w1 ⟨bo, d, rfl, hs1, hd1, hb1⟩; have HO1 : Hid (w1.ownsRow w.heap.size 5 1 u4 (flatP fs k).length ((flatP fs k).map (Value.int .u8)) ∧ Seen w1 bo (fs k).length (fs k) ∧ (bo = none → d = 0) ∧ Below w.heap.size w w1 ∧ (flatP fs k).length + (fs k).length ≤ 140737488355328 ∧ w.heap.size ≤ w1.heap.size) := (by have q1 := HO.out.2.1.size; have q2 := hb1.size; have q3 := HO.out.2.2.1; rw [HO.out.2.2.2, List.length_append] at q3; exact ⟨own_block HO.out.1 (fun j hj => hb1.block j (HO.out.1.lt j hj).2), hs1, hd1, below_chain HO.out.2.1 hb1 q1, by omega, by omega⟩); clear hs1 hd1 hb1 HC) | (at_builtin; refine wpList_append_seen rfl _ _ rfl w.heap.size u4 (flatP fs k).length _ rfl HO1.out.1 bo (fs k).length d (fs k) rfl HO1.out.2.1 HO1.out.2.2.1 HO1.out.2.2.2.2.1 HO1.out.2.2.2.2.2 ?_; intro v' w2 hown' hg'))
      have R1 : w2.ownsRow w.heap.size 5 1 v' (flatP fs (k + 1)).length ((flatP fs (k + 1)).map (Value.int .u8)) := by rw [HO.out.2.2.2, List.length_append, List.map_append]; exact hown'
      have R2 := below_grown8 HO1.out.2.2.2.1 HO1.out.2.2.2.2.2 HO1.out.1 hg'
      clear hown' hg'
      go_wp2
      go_roundw
      case rel => exact ⟨k + 1, by omega, by go_num, R1, R2⟩
      case measure => simp [intOf]; omega
    · obtain rfl : k = J := by omega
      obtain ⟨b, o, rfl, hb, hc⟩ := HP.out.2.1.cells (by omega)
      have c1 := (hbel.cell (p := ⟨b, o + k, none⟩) hb).trans (hc k hJ)
      have i1 : (0 : Int) ≤ (k : Int) := by omega
      have i2 : (k : Int) < (n : Int) := by omega
      obtain ⟨et, ev, rfl, HC'⟩ := HP.out.2.2.2.2
      have HC := HC' wr hbel
      obtain ⟨V, hV⟩ : ∃ V, vs k = V := ⟨_, rfl⟩
      rw [hV] at c1 HC
      have HO : Hid (Below w.heap.size w wr) := hbel
      clear hown hbel hc hV hb HC' HP
      go_wp2_with (go_at_call 73; refine HC.mono ?_; rintro e w1 ⟨rfl, hb1⟩)
      go_ret2
      exact ⟨rfl, below_chain HO.out hb1 HO.out.size⟩
end Go.Proofs.YtmgkjldjeomcmaaDoor
