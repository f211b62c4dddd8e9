/- DigestPlays: one step with a pair. -/
import Derived.Test.YtpphmodibbeomaaDoorDPair
namespace Go.Proofs.YtpphmodibbeomaaDoor
open Go.RowKit
set_option linter.unusedVariables false
set_option linter.unusedSimpArgs false

/-- A step, as data: its kind, which, to, and its bytes. -/
def opV (k a b : Int) (bo : Option Addr) (n c : Nat) : List Value := [.int .i64 k, .int .i64 a, .int .i64 b, .slice bo n c]
/-- What a pair holds behind a step. -/
def stepF (k : Int) (st : Option (List Int)) (zs : List Int) : Option (List Int) :=
  if k = 1 then st.map (· ++ zs) else if k = 5 then st.map (fun _ => []) else if k = 6 then some [] else if k = 7 then none else st
/-- What a step leaves: the pair's block and its hash's alone are written. -/
structure Stepped (w w' : World) (P h : Nat) (st' : Option (List Int)) : Prop where
  pair : ∃ h' so c, PairAt w' P h' so c st' ∧ (h' = h ∨ w.heap.size ≤ h')
  kept : Kept (fun b => b = P ∨ b = h) w w'
theorem PairAt.grow {w w' : World} {P h : Nat} {so : Option Addr} {c : Nat} {st : Option (List Int)} (p : PairAt w P h so c st) (l : Below w.heap.size w w') : PairAt w' P h so c st :=
  ⟨p.blk.later l p.blk.lt, fun m e => ⟨(p.held m e).1.later l (p.held m e).1.lt, by
    rcases (p.held m e).2.1 with h0 | ⟨b, e1, hr⟩
    · exact .inl h0
    · exact .inr ⟨b, e1, hr.later l (Nat.le_refl _)⟩, (p.held m e).2.2⟩⟩
theorem PairAt.drewN {w : World} {P h : Nat} {so : Option Addr} {c : Nat} {st : Option (List Int)} (p : PairAt w P h so c st) (q : Nat) : PairAt (w.drewN q) P h so c st :=
  p.grow (below_dn (Below.refl _ _) q)
theorem all_nil (so : Option Addr) (w : World) : AllAt w so [] := .inl rfl
set_option maxRecDepth 20000 in
set_option maxHeartbeats 2000000 in
theorem stepped_idle (k a b : Int) (bo : Option Addr) (n c : Nat) (P h : Nat) (so : Option Addr) (pc : Nat) (st : Option (List Int)) (w : World) (hp : PairAt w P h so pc st) (hk : ¬ k = 1 ∧ ¬ k = 2 ∧ ¬ k = 3 ∧ ¬ k = 5 ∧ ¬ k = 6 ∧ ¬ k = 7) :
    Calls Tryd.prog 17 #[.pointer (some ⟨P, 0, none⟩), .agg (opV k a b bo n c).toArray] w fun e w' => e = .returned (.bool true) ∧ Stepped w w' P h (stepF k st []) := by
  have HP : Hid (PairAt w P h so pc st ∧ stepF k st [] = st) := ⟨hp, by simp [stepF, hk]⟩
  have k1 : (k == 1) = false := by simpa using hk.1
  have k2 : (k == 2) = false := by simpa using hk.2.1
  have k3 : (k == 3) = false := by simpa using hk.2.2.1
  have k5 : (k == 5) = false := by simpa using hk.2.2.2.1
  have k6 : (k == 6) = false := by simpa using hk.2.2.2.2.1
  have k7 : (k == 7) = false := by simpa using hk.2.2.2.2.2
  clear hp hk
  go_enter Tryd.func17, Tryd.ntmps17
  go_wp2_with (first | (refine wpList_box_new rfl 41 _ rfl (opV k a b bo n c) rfl ?_; intro w1 b1 s1 l1; have cK : w1.cell? ⟨w.heap.size, 0, none⟩ = some (.int .i64 k) := b1.cell 0))
  go_ret
  rw [HP.out.2]
  have kk : Kept (fun b => b = P ∨ b = h) w w1 := Kept.new _ l1
  exact ⟨rfl, ⟨h, so, pc, ⟨HP.out.1.blk.later l1 HP.out.1.blk.lt, fun m e => ⟨(HP.out.1.held m e).1.later l1 (HP.out.1.held m e).1.lt, by
    rcases (HP.out.1.held m e).2.1 with h0 | ⟨b, e1, hr⟩
    · exact .inl h0
    · exact .inr ⟨b, e1, hr.later l1 (Nat.le_refl _)⟩, (HP.out.1.held m e).2.2⟩⟩, .inl rfl⟩, kk⟩
set_option maxRecDepth 20000 in
set_option maxHeartbeats 2000000 in
theorem stepped_7 (a b : Int) (bo : Option Addr) (c : Nat) (zs : List Int) (P h : Nat) (so : Option Addr) (pc : Nat) (st : Option (List Int)) (w : World) (hp : PairAt w P h so pc (st)) (hx : Seen w bo zs.length zs) (hc : zs.length ≤ c) (hz : zs.length ≤ 1048576) (hK : KTab w) (hP : 0 < P) (hne : P ≠ h) :
    Calls Tryd.prog 17 #[.pointer (some ⟨P, 0, none⟩), .agg (opV 7 a b bo zs.length c).toArray] w fun e w' => e = .returned (.bool true) ∧ Stepped w w' P h (stepF 7 (st) zs) := by
  have HP : Hid (PairAt w P h so pc (st) ∧ KTab w) := ⟨hp, hK⟩
  have HX : Hid (Seen w bo zs.length zs ∧ zs.length ≤ c) := ⟨hx, hc⟩
  clear hp hx hc hK
  go_enter Tryd.func17, Tryd.ntmps17
  go_wp2_with (first | (refine wpList_box_new rfl 41 _ rfl (opV 7 a b bo zs.length c) rfl ?_; intro w1 b1 s1 l1; have cK : w1.cell? ⟨w.heap.size, 0, none⟩ = some (.int .i64 7) := b1.cell 0; have p1 := HP.out.1.grow l1; have f0 := p1.blk.frozen 0; have f1 := p1.blk.frozen 1; have f2 := p1.blk.frozen 2; obtain ⟨x0, x1, x2, hxx⟩ : ∃ x0 x1 x2, pairC h so pc st = [x0, x1, x2] := (by cases st <;> exact ⟨_, _, _, rfl⟩); have pb := p1.blk; rw [hxx] at pb; have d0 : w1.cell? ⟨P, 0, none⟩ = some x0 := pb.cell 0; have d1 : w1.cell? ⟨P, 1, none⟩ = some x1 := pb.cell 1; have d2 : w1.cell? ⟨P, 2, none⟩ = some x2 := pb.cell 2; have PB : Hid (Blk w1 P 39 [x0, x1, x2] ∧ Below w.heap.size w w1) := ⟨pb, l1⟩; clear pb hxx p1 l1))
  go_ret
  have R := ((PB.out.1.set 0 (.pointer none)).set 1 (.slice none 0 0)).set 2 (.bool true)
  exact ⟨rfl, ⟨h, none, 0, ⟨R, fun m e => by cases e⟩, .inl rfl⟩, (((Kept.new _ PB.out.2).setCell (.inl rfl) _).setCell (.inl rfl) _).setCell (.inl rfl) _⟩
set_option maxRecDepth 20000 in
set_option maxHeartbeats 2000000 in
theorem stepped_6 (a b : Int) (bo : Option Addr) (c : Nat) (zs : List Int) (P h : Nat) (so : Option Addr) (pc : Nat) (st : Option (List Int)) (w : World) (hp : PairAt w P h so pc (st)) (hx : Seen w bo zs.length zs) (hc : zs.length ≤ c) (hz : zs.length ≤ 1048576) (hK : KTab w) (hP : 0 < P) (hne : P ≠ h) :
    Calls Tryd.prog 17 #[.pointer (some ⟨P, 0, none⟩), .agg (opV 6 a b bo zs.length c).toArray] w fun e w' => e = .returned (.bool true) ∧ Stepped w w' P h (stepF 6 (st) zs) := by
  have HP : Hid (PairAt w P h so pc (st) ∧ KTab w) := ⟨hp, hK⟩
  have HX : Hid (Seen w bo zs.length zs ∧ zs.length ≤ c) := ⟨hx, hc⟩
  clear hp hx hc hK
  go_enter Tryd.func17, Tryd.ntmps17
  go_wp2_with (first | (refine wpList_box_new rfl 41 _ rfl (opV 6 a b bo zs.length c) rfl ?_; intro w1 b1 s1 l1; have cK : w1.cell? ⟨w.heap.size, 0, none⟩ = some (.int .i64 6) := b1.cell 0) | (go_at_call 14; refine (new_holds _).mono ?_; rintro e w2 ⟨g, rfl, hg, h2, l2⟩; have z1 := l1.size; have p1 := (HP.out.1.grow l1).grow l2; have f0 := p1.blk.frozen 0; have f1 := p1.blk.frozen 1; have f2 := p1.blk.frozen 2; obtain ⟨x0, x1, x2, hxx⟩ : ∃ x0 x1 x2, pairC h so pc st = [x0, x1, x2] := (by cases st <;> exact ⟨_, _, _, rfl⟩); have pb := p1.blk; rw [hxx] at pb; have d0 : w2.cell? ⟨P, 0, none⟩ = some x0 := pb.cell 0; have d1 : w2.cell? ⟨P, 1, none⟩ = some x1 := pb.cell 1; have d2 : w2.cell? ⟨P, 2, none⟩ = some x2 := pb.cell 2; have hPg : P ≠ g := (by have := (HP.out.1.grow l1).blk.lt; omega); have PB : Hid (Blk w2 P 39 [x0, x1, x2] ∧ Below w.heap.size w w2 ∧ Holds w2 g [] ∧ P ≠ g ∧ w.heap.size ≤ g) := ⟨pb, below_chain l1 l2 z1, h2, hPg, by omega⟩; clear pb hxx p1 l2 h2))
  go_ret
  have R := ((PB.out.1.set 0 (.pointer (some ⟨g, 0, none⟩))).set 1 (.slice none 0 0)).set 2 (.bool false)
  have K := (((Kept.refl (fun b => b = P) w2).setCell (p := ⟨P, 0, none⟩) rfl (.pointer (some ⟨g, 0, none⟩))).setCell (p := ⟨P, 1, none⟩) rfl (.slice none 0 0)).setCell (p := ⟨P, 2, none⟩) rfl (.bool false)
  exact ⟨rfl, ⟨g, none, 0, ⟨R, fun m e => by cases e; exact ⟨PB.out.2.2.1.kept K (fun e => PB.out.2.2.2.1 e.symm), all_nil _ _, (fun z hz => by cases hz), by decide, by decide⟩⟩, .inr PB.out.2.2.2.2⟩, (((Kept.new _ PB.out.2.1).setCell (.inl rfl) _).setCell (.inl rfl) _).setCell (.inl rfl) _⟩
set_option maxRecDepth 20000 in
set_option maxHeartbeats 2000000 in
theorem stepped_3n (a b : Int) (bo : Option Addr) (c : Nat) (zs : List Int) (P h : Nat) (so : Option Addr) (pc : Nat) (w : World) (hp : PairAt w P h so pc (none)) (hx : Seen w bo zs.length zs) (hc : zs.length ≤ c) (hz : zs.length ≤ 1048576) (hK : KTab w) (hP : 0 < P) (hne : P ≠ h) :
    Calls Tryd.prog 17 #[.pointer (some ⟨P, 0, none⟩), .agg (opV 3 a b bo zs.length c).toArray] w fun e w' => e = .returned (.bool true) ∧ Stepped w w' P h (stepF 3 (none) zs) := by
  have HP : Hid (PairAt w P h so pc (none) ∧ KTab w) := ⟨hp, hK⟩
  have HX : Hid (Seen w bo zs.length zs ∧ zs.length ≤ c) := ⟨hx, hc⟩
  clear hp hx hc hK
  go_enter Tryd.func17, Tryd.ntmps17
  go_wp2_with (first | (refine wpList_box_new rfl 41 _ rfl (opV 3 a b bo zs.length c) rfl ?_; intro w1 b1 s1 l1; have cK : w1.cell? ⟨w.heap.size, 0, none⟩ = some (.int .i64 3) := b1.cell 0; have cB : w1.cell? ⟨w.heap.size, 3, none⟩ = some (.slice bo zs.length c) := b1.cell 3; have p1 := HP.out.1.grow l1; have d0 := p1.blk.cell 0; have d1 := p1.blk.cell 1; have d2 := p1.blk.cell 2; simp only [pairC, List.getElem?_cons_zero, List.getElem?_cons_succ] at d0 d1 d2) | (go_at_call 21; refine (len_nil _).mono ?_; rintro e w2 ⟨rfl, rfl⟩))
  go_ret
  exact ⟨rfl, ⟨h, so, pc, p1, .inl rfl⟩, Kept.new _ l1⟩
set_option maxRecDepth 20000 in
set_option maxHeartbeats 2000000 in
theorem stepped_3s (a b : Int) (bo : Option Addr) (c : Nat) (zs : List Int) (P h : Nat) (so : Option Addr) (pc : Nat) (m : List Int) (w : World) (hp : PairAt w P h so pc (some m)) (hx : Seen w bo zs.length zs) (hc : zs.length ≤ c) (hz : zs.length ≤ 1048576) (hK : KTab w) (hP : 0 < P) (hne : P ≠ h) (hh : 0 < h) (hm : m.length + zs.length ≤ 1048576) :
    Calls Tryd.prog 17 #[.pointer (some ⟨P, 0, none⟩), .agg (opV 3 a b bo zs.length c).toArray] w fun e w' => e = .returned (.bool true) ∧ Stepped w w' P h (stepF 3 (some m) zs) := by
  have HP : Hid (PairAt w P h so pc (some m) ∧ KTab w) := ⟨hp, hK⟩
  have HX : Hid (Seen w bo zs.length zs ∧ zs.length ≤ c) := ⟨hx, hc⟩
  clear hp hx hc hK
  go_enter Tryd.func17, Tryd.ntmps17
  have hmw : IntKind.u64.wrap (m.length : Int) = (m.length : Int) := by rw [IntKind.wrap_u64]; omega
  go_wp2_with (first | (refine wpList_box_new rfl 41 _ rfl (opV 3 a b bo zs.length c) rfl ?_; intro w1 b1 s1 l1; have cK : w1.cell? ⟨w.heap.size, 0, none⟩ = some (.int .i64 3) := b1.cell 0; have cB : w1.cell? ⟨w.heap.size, 3, none⟩ = some (.slice bo zs.length c) := b1.cell 3; have p1 := HP.out.1.grow l1; have d0 := p1.blk.cell 0; have d1 := p1.blk.cell 1; have d2 := p1.blk.cell 2; simp only [pairC, List.getElem?_cons_zero, List.getElem?_cons_succ] at d0 d1 d2) | (go_at_call 21; refine (len_holds h m _ (p1.held m rfl).1).mono ?_; rintro e w2 ⟨rfl, rfl⟩))
  go_ret
  exact ⟨rfl, ⟨h, so, pc, p1, .inl rfl⟩, Kept.new _ l1⟩
set_option maxRecDepth 20000 in
set_option maxHeartbeats 2000000 in
theorem stepped_5n (a b : Int) (bo : Option Addr) (c : Nat) (zs : List Int) (P h : Nat) (so : Option Addr) (pc : Nat) (w : World) (hp : PairAt w P h so pc (none)) (hx : Seen w bo zs.length zs) (hc : zs.length ≤ c) (hz : zs.length ≤ 1048576) (hK : KTab w) (hP : 0 < P) (hne : P ≠ h) :
    Calls Tryd.prog 17 #[.pointer (some ⟨P, 0, none⟩), .agg (opV 5 a b bo zs.length c).toArray] w fun e w' => e = .returned (.bool true) ∧ Stepped w w' P h (stepF 5 (none) zs) := by
  have HP : Hid (PairAt w P h so pc (none) ∧ KTab w) := ⟨hp, hK⟩
  have HX : Hid (Seen w bo zs.length zs ∧ zs.length ≤ c) := ⟨hx, hc⟩
  clear hp hx hc hK
  go_enter Tryd.func17, Tryd.ntmps17
  go_wp2_with (first | (refine wpList_box_new rfl 41 _ rfl (opV 5 a b bo zs.length c) rfl ?_; intro w1 b1 s1 l1; have cK : w1.cell? ⟨w.heap.size, 0, none⟩ = some (.int .i64 5) := b1.cell 0; have cB : w1.cell? ⟨w.heap.size, 3, none⟩ = some (.slice bo zs.length c) := b1.cell 3; have p1 := HP.out.1.grow l1; have d0 := p1.blk.cell 0; have d1 := p1.blk.cell 1; have d2 := p1.blk.cell 2; simp only [pairC, List.getElem?_cons_zero, List.getElem?_cons_succ] at d0 d1 d2) | (go_at_call 29; refine (reset_nil _).mono ?_; rintro e w2 ⟨rfl, rfl⟩; have f1 := p1.blk.frozen 1))
  go_ret
  have R := p1.blk.set 1 (.slice none 0 0)
  exact ⟨rfl, ⟨h, so, pc, ⟨R, fun m e => by cases e⟩, .inl rfl⟩, (Kept.new _ l1).setCell (.inl rfl) _⟩
set_option maxRecDepth 20000 in
set_option maxHeartbeats 2000000 in
theorem stepped_5s (a b : Int) (bo : Option Addr) (c : Nat) (zs : List Int) (P h : Nat) (so : Option Addr) (pc : Nat) (m : List Int) (w : World) (hp : PairAt w P h so pc (some m)) (hx : Seen w bo zs.length zs) (hc : zs.length ≤ c) (hz : zs.length ≤ 1048576) (hK : KTab w) (hP : 0 < P) (hne : P ≠ h) (hh : 0 < h) (hm : m.length + zs.length ≤ 1048576) :
    Calls Tryd.prog 17 #[.pointer (some ⟨P, 0, none⟩), .agg (opV 5 a b bo zs.length c).toArray] w fun e w' => e = .returned (.bool true) ∧ Stepped w w' P h (stepF 5 (some m) zs) := by
  have HP : Hid (PairAt w P h so pc (some m) ∧ KTab w) := ⟨hp, hK⟩
  have HX : Hid (Seen w bo zs.length zs ∧ zs.length ≤ c) := ⟨hx, hc⟩
  clear hp hx hc hK
  go_enter Tryd.func17, Tryd.ntmps17
  go_wp2_with (first | (refine wpList_box_new rfl 41 _ rfl (opV 5 a b bo zs.length c) rfl ?_; intro w1 b1 s1 l1; have cK : w1.cell? ⟨w.heap.size, 0, none⟩ = some (.int .i64 5) := b1.cell 0; have cB : w1.cell? ⟨w.heap.size, 3, none⟩ = some (.slice bo zs.length c) := b1.cell 3; have p1 := HP.out.1.grow l1; have d0 := p1.blk.cell 0; have d1 := p1.blk.cell 1; have d2 := p1.blk.cell 2; simp only [pairC, List.getElem?_cons_zero, List.getElem?_cons_succ] at d0 d1 d2) | (go_at_call 29; refine (reset_any h _ _ _ _ (p1.held m rfl).1.hash).mono ?_; rintro e w2 ⟨rfl, h2, k2⟩; have pb := p1.blk.kept k2 hne; have f1 := pb.frozen 1; have e1 := pb.cell 1; simp only [pairC, List.getElem?_cons_zero, List.getElem?_cons_succ] at e1))
  go_ret
  have R := pb.set 1 (.slice none 0 0)
  have K := (Kept.refl (fun b => b = P) w2).setCell (p := ⟨P, 1, none⟩) rfl (.slice none 0 0)
  exact ⟨rfl, ⟨h, none, 0, ⟨R, fun m' e => by cases e; exact ⟨(holds_new h2).kept K (fun e => hne e.symm), all_nil _ _, (fun z hz => by cases hz), Nat.le_refl 0, Nat.zero_le _⟩⟩, .inl rfl⟩, ((Kept.new _ l1).trans (k2.mono fun k e => .inr e)).setCell (.inl rfl) _⟩
end Go.Proofs.YtpphmodibbeomaaDoor
