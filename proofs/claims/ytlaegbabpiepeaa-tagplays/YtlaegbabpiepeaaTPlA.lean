/- TagPlays: a pair in memory; one step with a pair. -/
import Derived.Test.YtlaegbabpiepeaaRTSum
import Derived.Test.YtlaegbabpiepeaaTRows
import Derived.Test.YtlaegbabpiepeaaDHeld
import Derived.Lib.IfaceEq
namespace Go.Proofs.Ytlaegbabpiepeaa
open Go.RowKit
set_option linter.unusedVariables false
set_option linter.unusedSimpArgs false

/-- The bytes m in a row of their own, or none. -/
def AllAt (w : World) (so : Option Addr) (m : List Int) : Prop := m = [] ∨ ∃ b, so = some ⟨b, 0, none⟩ ∧ RowAt w b m
theorem AllAt.seen {w : World} {so : Option Addr} {m : List Int} (h : AllAt w so m) (hb : Bytes m) (ht : m.length ≤ 140737488355328) : Seen w so m.length m := by
  rcases h with rfl | ⟨b, rfl, hr⟩
  · exact Seen.empty _ _
  · have := Seen.of_row (n := m.length) hr (Nat.le_refl _) ht hb
    rwa [List.take_length] at this
theorem AllAt.kept {S : Nat → Prop} {w w' : World} {so : Option Addr} {m : List Int} (h : AllAt w so m) (hk : Kept S w w') (hS : ∀ b, S b → ∃ t vs, Blk w b t vs ∧ t ≠ 5) : AllAt w' so m := by
  rcases h with rfl | ⟨b, rfl, hr⟩
  · exact .inl rfl
  · refine .inr ⟨b, rfl, hr.kept hk fun hs => ?_⟩
    obtain ⟨t, vs, hb, ht⟩ := hS b hs
    obtain ⟨rest, h1⟩ := hr
    unfold Blk at hb
    rw [h1] at hb
    simp at hb
    exact ht hb.2.symm
theorem all_nil (so : Option Addr) (w : World) : AllAt w so [] := .inl rfl
/-- The cells of a pair: its poly, its key, what it holds, whether it is nil. -/
def pcC (x0 : Value) (key : List Int) (x1 x2 : Value) : List Value := x0 :: (u8s key ++ [x1, x2])
theorem pc_length (x0 : Value) (key : List Int) (x1 x2 : Value) (hk : key.length = 32) : (pcC x0 key x1 x2).length = 35 := by simp [pcC, u8s_length, hk]
theorem pc33 {x0 : Value} {key : List Int} {x1 x2 : Value} (hk : key.length = 32) : (pcC x0 key x1 x2)[33]? = some x1 := by simp [pcC, List.getElem?_append, u8s_length, hk]
theorem pc34 {x0 : Value} {key : List Int} {x1 x2 : Value} (hk : key.length = 32) : (pcC x0 key x1 x2)[34]? = some x2 := by simp [pcC, List.getElem?_append, u8s_length, hk]
theorem pcs0 (x0 : Value) (key : List Int) (x1 x2 v : Value) : (pcC x0 key x1 x2).set 0 v = pcC v key x1 x2 := rfl
theorem pcs33 (x0 : Value) (key : List Int) (x1 x2 v : Value) (hk : key.length = 32) : (pcC x0 key x1 x2).set 33 v = pcC x0 key v x2 := by
  simp [pcC, List.set_append, u8s_length, hk]
theorem pcs34 (x0 : Value) (key : List Int) (x1 x2 v : Value) (hk : key.length = 32) : (pcC x0 key x1 x2).set 34 v = pcC x0 key x1 v := by
  simp [pcC, List.set_append, u8s_length, hk]
theorem pc_key {W : World} {P : Nat} {t : TypeId} {x0 x1 x2 : Value} {key : List Int} (h : Blk W P t (pcC x0 key x1 x2)) : W.rangeAt P 1 (u8s key) := fun j v hv => by
  rw [h.cell]
  show (pcC x0 key x1 x2)[1 + j]? = some v
  rw [Nat.add_comm]
  simp only [pcC, List.getElem?_cons_succ]
  rw [List.getElem?_append_left (List.getElem?_eq_some_iff.1 hv).1]
  exact hv
/-- A pair in block P: its poly in block h, or nil; its key; what it holds. -/
def pairC (h : Nat) (key : List Int) (so : Option Addr) (c : Nat) : Option (List Int) → List Value
  | none => pcC (.pointer none) key (.slice none 0 0) (.bool true)
  | some m => pcC (.pointer (some ⟨h, 0, none⟩)) key (.slice so m.length c) (.bool false)
structure PairAt (w : World) (P h : Nat) (key : List Int) (so : Option Addr) (c : Nat) (st : Option (List Int)) : Prop where
  blk : Blk w P 30 (pairC h key so c st)
  klen : key.length = 32
  kb : Bytes key
  held : ∀ m, st = some m → KHolds w h key m ∧ AllAt w so m ∧ Bytes m ∧ m.length ≤ c ∧ m.length ≤ 1048576
theorem PairAt.kept {S : Nat → Prop} {w w' : World} {P h : Nat} {key : List Int} {so : Option Addr} {c : Nat} {st : Option (List Int)} (p : PairAt w P h key so c st) (hk : Kept S w w') (hP : ¬ S P) (hh : st ≠ none → ¬ S h) (hS : ∀ b, S b → ∃ t vs, Blk w b t vs ∧ t ≠ 5) : PairAt w' P h key so c st :=
  ⟨p.blk.kept hk hP, p.klen, p.kb, fun m e => ⟨(p.held m e).1.kept hk (hh (by rw [e]; intro h; cases h)), (p.held m e).2.1.kept hk hS, (p.held m e).2.2⟩⟩
/-- A step, as data: its kind, which, its bytes, its key. -/
def opV (k a : Int) (bo : Option Addr) (n c : Nat) (ky : List Int) : List Value := .int .i64 k :: .int .i64 a :: .slice bo n c :: u8s ky
theorem op_key {W : World} {P : Nat} {t : TypeId} {k a : Int} {bo : Option Addr} {n c : Nat} {ky : List Int} (h : Blk W P t (opV k a bo n c ky)) : W.rangeAt P 3 (u8s ky) := fun j v hv => by
  rw [h.cell]
  show (opV k a bo n c ky)[3 + j]? = some v
  rw [Nat.add_comm]
  exact hv
/-- What a pair holds behind a step. -/
def stepF (k : Int) (st : Option (List Int)) (zs : List Int) : Option (List Int) :=
  if k = 1 then st.map (· ++ zs) else if k = 3 then some [] else if k = 4 then none else st
/-- What a step leaves: the pair's block and its poly's alone are written. -/
structure Stepped (w w' : World) (P h : Nat) (st' : Option (List Int)) : Prop where
  pair : ∃ h' key so c, PairAt w' P h' key so c st' ∧ (h' = h ∨ w.heap.size ≤ h')
  kept : Kept (fun b => b = P ∨ b = h) w w'
theorem PairAt.grow {w w' : World} {P h : Nat} {key : List Int} {so : Option Addr} {c : Nat} {st : Option (List Int)} (p : PairAt w P h key so c st) (l : Below w.heap.size w w') : PairAt w' P h key so c st :=
  ⟨p.blk.later l p.blk.lt, p.klen, p.kb, fun m e => ⟨(p.held m e).1.later l (p.held m e).1.lt, by
    rcases (p.held m e).2.1 with h0 | ⟨b, e1, hr⟩
    · exact .inl h0
    · exact .inr ⟨b, e1, hr.later l (Nat.le_refl _)⟩, (p.held m e).2.2⟩⟩
theorem PairAt.drewN {w : World} {P h : Nat} {key : List Int} {so : Option Addr} {c : Nat} {st : Option (List Int)} (p : PairAt w P h key so c st) (q : Nat) : PairAt (w.drewN q) P h key so c st :=
  p.grow (below_dn (Below.refl _ _) q)
set_option maxRecDepth 20000 in
set_option maxHeartbeats 2000000 in
theorem stepped_idle (k a : Int) (bo : Option Addr) (n c : Nat) (ky : List Int) (P h : Nat) (key : List Int) (so : Option Addr) (pc : Nat) (st : Option (List Int)) (w : World) (hp : PairAt w P h key so pc st) (hky : ky.length = 32) (hk : ¬ k = 1 ∧ ¬ k = 2 ∧ ¬ k = 3 ∧ ¬ k = 4) :
    Calls Try.prog 4 #[.pointer (some ⟨P, 0, none⟩), .agg (opV k a bo n c ky).toArray] w fun e w' => e = .returned (.bool true) ∧ Stepped w w' P h (stepF k st []) := by
  have HP : Hid (PairAt w P h key so pc st ∧ stepF k st [] = st) := ⟨hp, by simp [stepF, hk]⟩
  have k1 : (k == 1) = false := by simpa using hk.1
  have k2 : (k == 2) = false := by simpa using hk.2.1
  have k3 : (k == 3) = false := by simpa using hk.2.2.1
  have k4 : (k == 4) = false := by simpa using hk.2.2.2
  have HKY : Hid (ky.length = 32) := hky
  clear hp hk hky
  go_enter Try.func4, Try.ntmps4
  go_wp2_with (first | (refine wpList_box_new rfl 33 _ rfl (opV k a bo n c ky) rfl ?_; intro w1 b1 s1 l1; have cK : w1.cell? ⟨w.heap.size, 0, none⟩ = some (.int .i64 k) := b1.cell 0))
  go_ret
  rw [HP.out.2]
  exact ⟨rfl, ⟨h, key, so, pc, HP.out.1.grow l1, .inl rfl⟩, Kept.new _ l1⟩
set_option maxRecDepth 20000 in
set_option maxHeartbeats 2000000 in
theorem stepped_4 (a : Int) (bo : Option Addr) (n c : Nat) (ky : List Int) (P h : Nat) (key : List Int) (so : Option Addr) (pc : Nat) (st : Option (List Int)) (zs : List Int) (w : World) (hp : PairAt w P h key so pc st) (hky : ky.length = 32) :
    Calls Try.prog 4 #[.pointer (some ⟨P, 0, none⟩), .agg (opV 4 a bo n c ky).toArray] w fun e w' => e = .returned (.bool true) ∧ Stepped w w' P h (stepF 4 st zs) := by
  have HP : Hid (PairAt w P h key so pc st) := hp
  have HKY : Hid (ky.length = 32) := hky
  clear hp hky
  go_enter Try.func4, Try.ntmps4
  go_wp2_with (first | (refine wpList_box_new rfl 33 _ rfl (opV 4 a bo n c ky) rfl ?_; intro w1 b1 s1 l1; have cK : w1.cell? ⟨w.heap.size, 0, none⟩ = some (.int .i64 4) := b1.cell 0; have p1 := HP.out.grow l1; have f0 := p1.blk.frozen 0; have f1 := p1.blk.frozen 33; have f2 := p1.blk.frozen 34; obtain ⟨x0, x1, x2, hxx⟩ : ∃ x0 x1 x2, pairC h key so pc st = pcC x0 key x1 x2 := (by cases st <;> exact ⟨_, _, _, rfl⟩); have pb := p1.blk; rw [hxx] at pb; have d0 : w1.cell? ⟨P, 0, none⟩ = some x0 := pb.cell 0; have d1 : w1.cell? ⟨P, 33, none⟩ = some x1 := ((pb.cell 33).trans (pc33 HP.out.klen)); have d2 : w1.cell? ⟨P, 34, none⟩ = some x2 := ((pb.cell 34).trans (pc34 HP.out.klen)); have PB : Hid (Blk w1 P 30 (pcC x0 key x1 x2) ∧ Below w.heap.size w w1) := ⟨pb, l1⟩; clear pb hxx p1 l1))
  go_ret
  have R := ((PB.out.1.set 0 (.pointer none)).set 33 (.slice none 0 0)).set 34 (.bool true)
  rw [pcs0, pcs33 _ _ _ _ _ HP.out.klen, pcs34 _ _ _ _ _ HP.out.klen] at R
  exact ⟨rfl, ⟨h, key, none, 0, ⟨R, HP.out.klen, HP.out.kb, fun m e => by cases e⟩, .inl rfl⟩, (((Kept.new _ PB.out.2).setCell (.inl rfl) _).setCell (.inl rfl) _).setCell (.inl rfl) _⟩
theorem tsizeK : (Try.prog.info? 27).map (·.size) = some 32 := by kernel_rfl
set_option maxRecDepth 20000 in
set_option maxHeartbeats 2000000 in
theorem stepped_3 (a : Int) (bo : Option Addr) (n c : Nat) (ky : List Int) (P : Nat) (key : List Int) (x0 x1 x2 : Value) (w : World) (hp : Blk w P 30 (pcC x0 key x1 x2)) (hkl : key.length = 32) (hky : ky.length = 32) (hkb : Bytes ky) :
    Calls Try.prog 4 #[.pointer (some ⟨P, 0, none⟩), .agg (opV 3 a bo n c ky).toArray] w fun e w' => e = .returned (.bool true) ∧ (∃ g, PairAt w' P g ky none 0 (some []) ∧ w.heap.size ≤ g) ∧ Kept (fun b => b = P) w w' := by
  have HP : Hid (Blk w P 30 (pcC x0 key x1 x2) ∧ key.length = 32 ∧ ky.length = 32 ∧ Bytes ky) := ⟨hp, hkl, hky, hkb⟩
  have HU : Hid ((Try.prog.info? 27).map (·.size) = some (u8s ky).length) := by show _ = _; rw [u8s_length, hky]; exact tsizeK
  clear hp hkl hky hkb
  go_enter Try.func4, Try.ntmps4
  go_wp2_with (first | (refine wpList_box_new rfl 33 _ rfl (opV 3 a bo n c ky) rfl ?_; intro w1 b1 s1 l1; have cK : w1.cell? ⟨w.heap.size, 0, none⟩ = some (.int .i64 3) := b1.cell 0) | ((with_reducible show wpList _ _ _ _ _ w1); refine wpList_load_mid rfl 27 _ rfl w.heap.size 3 rfl (u8s ky) _ (op_key b1) Try.underlying27 rfl HU.out ?_) | (go_at_call 13; refine (new_any ky HP.out.2.2.1 HP.out.2.2.2 _).mono ?_; rintro e w2 ⟨g, rfl, hg, h2, l2⟩; have z1 := l1.size; have lt1 := HP.out.1.lt; have pb := (HP.out.1.later l1 (by omega)).later l2 (by omega); have f0 := pb.frozen 0; have hPg : P ≠ g := (by omega); have d0 : w2.cell? ⟨P, 0, none⟩ = some x0 := pb.cell 0; have b2 := b1.later l2 b1.lt; have PB : Hid (Blk w2 P 30 (pcC x0 key x1 x2) ∧ Below w.heap.size w w2 ∧ KHolds w2 g ky [] ∧ P ≠ g ∧ w.heap.size ≤ g ∧ w.heap.size ≠ P ∧ Blk w2 w.heap.size 33 (opV 3 a bo n c ky)) := ⟨pb, below_chain l1 l2 z1, h2, hPg, by omega, by omega, b2⟩; clear pb l2 h2 b2) | (refine wpList_load_mid rfl 27 _ rfl w.heap.size 3 rfl (u8s ky) _ (op_key (PB.out.2.2.2.2.2.2.kept ((Kept.refl (fun b => b = P) w2).setCell (p := ⟨P, 0, none⟩) rfl _) PB.out.2.2.2.2.2.1)) Try.underlying27 rfl HU.out ?_) | (refine wpList_store_part rfl 27 30 _ _ rfl P 1 rfl [.pointer (some ⟨g, 0, none⟩)] (u8s key) [x1, x2] (u8s ky) rfl (PB.out.1.set 0 (.pointer (some ⟨g, 0, none⟩))) rfl (by rw [u8s_length, u8s_length, HP.out.2.1, HP.out.2.2.1]) HU.out (u8s_one _) ?_; intro w3 b3 s3 k3; have f1 := b3.frozen 33; have f2 := b3.frozen 34; have d3 : w3.cell? ⟨P, 0, none⟩ = some (.pointer (some ⟨g, 0, none⟩)) := b3.cell 0; have d1 : w3.cell? ⟨P, 33, none⟩ = some x1 := ((b3.cell 33).trans (pc33 (key := ky) HP.out.2.2.1)); have d2 : w3.cell? ⟨P, 34, none⟩ = some x2 := ((b3.cell 34).trans (pc34 (key := ky) HP.out.2.2.1)); have Q3 : Hid (Blk w3 P 30 (pcC (.pointer (some ⟨g, 0, none⟩)) ky x1 x2) ∧ Kept (fun k => k = P) (w2.setCell ⟨P, 0, none⟩ (.pointer (some ⟨g, 0, none⟩))) w3) := ⟨b3, k3⟩; clear b3 k3))
  go_ret
  have R := (Q3.out.1.set 33 (.slice none 0 0)).set 34 (.bool false)
  rw [pcs33 _ _ _ _ _ HP.out.2.2.1, pcs34 _ _ _ _ _ HP.out.2.2.1] at R
  have K0 := (Kept.refl (fun b => b = P) w2).setCell (p := ⟨P, 0, none⟩) rfl (.pointer (some ⟨g, 0, none⟩))
  have K := ((K0.trans Q3.out.2).setCell (p := ⟨P, 33, none⟩) rfl (.slice none 0 0)).setCell (p := ⟨P, 34, none⟩) rfl (.bool false)
  exact ⟨rfl, ⟨g, ⟨R, HP.out.2.2.1, HP.out.2.2.2, fun m e => by cases e; exact ⟨PB.out.2.2.1.kept K (fun e => PB.out.2.2.2.1 e.symm), all_nil _ _, (fun z hz => by cases hz), by decide, by decide⟩⟩, PB.out.2.2.2.2.1⟩, (Kept.new _ PB.out.2.1).trans K⟩
end Go.Proofs.Ytlaegbabpiepeaa
