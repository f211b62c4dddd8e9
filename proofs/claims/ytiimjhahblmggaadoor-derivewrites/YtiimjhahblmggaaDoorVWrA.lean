/- DeriveWrites: three Macs and what was written into each; a script, seen. -/
import Derived.Test.YtiimjhahblmggaaDoorVMac
import Derived.Test.YtiimjhahblmggaaDoorVRows
import Derived.Test.YtiimjhahblmggaaDoorVApp
import Derived.Test.YtiimjhahblmggaaDoorRLent
import Derived.Test.YtiimjhahblmggaaDoorVSlice
namespace Go.Proofs.YtiimjhahblmggaaDoor
open Go.RowKit
set_option linter.unusedVariables false
set_option linter.unusedSimpArgs false

theorem blk_ne {w : World} {g g' : Nat} {t t' : TypeId} {vs vs' : List Value} (h : Blk w g t vs) (h' : Blk w g' t' vs') (ht : t ≠ t') : g ≠ g' := by
  intro e
  unfold Blk at h h'
  rw [e, h'] at h
  simp at h
  exact ht h.2.symm
theorem own_kept1 {S : Nat → Prop} {w w' : World} {base : Nat} {e : TypeId} {size : Nat} {v : Value} {n : Nat} {xs : List Value} (h : w.ownsRow base e size v n xs) (hk : Kept S w w') (hS : ∀ k, v.ownBlock = some k → ¬ S k) : w'.ownsRow base e size v n xs := by
  refine ⟨h.1, ?_⟩
  rcases h.2 with h0 | ⟨g, cap, cur, rfl, hg, hh, r⟩
  · exact .inl h0
  · exact .inr ⟨g, cap, cur, rfl, hg, by rw [hk.block g (lt_of_block hh) (hS g rfl)]; exact hh, r⟩
theorem Kept.fresh {S : Nat → Prop} {w w1 w2 : World} {g : Nat} (h : Kept S w w1) (k : Kept (fun b => b = g) w1 w2) (hg : w.heap.size ≤ g) : Kept S w w2 := by
  have H := (h.mono (T := fun b => S b ∨ b = g) fun k e => .inl e).trans (k.mono fun k e => .inr e)
  exact ⟨H.os, H.tape, H.output, H.size, fun b hb hs => H.block b hb (by rintro (h1 | h1); exact hs h1; omega)⟩
/-- One of the three: its Mac, what was written into it, and what the statement keeps of it. -/
structure Sl where
  P : Nat
  g : Nat
  g' : Nat
  m : List Int
  t : List Int
  v : Value
abbrev ptrM (s : Sl) : Value := .pointer (some ⟨s.P, 0, none⟩)
structure Three (w : World) (B A X : Nat) (key : Nat → List Int) (f : Nat → Sl) : Prop where
  arr : Blk w A 39 [ptrM (f 0), ptrM (f 1), ptrM (f 2)]
  txt : Blk w X 37 [(f 0).v, (f 1).v, (f 2).v]
  mac : ∀ i, i < 3 → MacAt w (f i).P (f i).g (f i).g' (key i) (f i).m
  own : ∀ i, i < 3 → w.ownsRow B 5 1 (f i).v (f i).t.length ((f i).t.map (Value.int .u8))
  gap : ∀ i j, i < 3 → j < 3 → i ≠ j → (f i).g ≠ (f j).g ∧ (f i).g ≠ (f j).g'
  vap : ∀ i j b, i < 3 → j < 3 → i ≠ j → (f i).v.ownBlock = some b → (f j).v.ownBlock ≠ some b
  lo : ∀ i, i < 3 → B ≤ (f i).P ∧ B ≤ (f i).g ∧ B ≤ (f i).g'
  loA : B ≤ A ∧ B ≤ X
theorem Three.later {w w' : World} {B A X : Nat} {key : Nat → List Int} {f : Nat → Sl} (T : Three w B A X key f) (l : Below w.heap.size w w') : Three w' B A X key f :=
  ⟨T.arr.later l T.arr.lt, T.txt.later l T.txt.lt, fun i hi => (T.mac i hi).now l, fun i hi => ownsRow_below (T.own i hi) l, T.gap, T.vap, T.lo, T.loA⟩
theorem three_at {w : World} {B A X : Nat} {key : Nat → List Int} {f : Nat → Sl} (T : Three w B A X key f) (i : Nat) (hi : i < 3) : w.cell? ⟨A, i, none⟩ = some (ptrM (f i)) ∧ w.cell? ⟨X, i, none⟩ = some (f i).v := by
  rw [T.arr.cell, T.txt.cell]
  obtain rfl | rfl | rfl : i = 0 ∨ i = 1 ∨ i = 2 := by omega
  · exact ⟨rfl, rfl⟩
  · exact ⟨rfl, rfl⟩
  · exact ⟨rfl, rfl⟩
/-- One of the three is another. -/
def upd (f : Nat → Sl) (x : Nat) (s : Sl) : Nat → Sl := fun j => if j = x then s else f j
theorem upd_at (f : Nat → Sl) (x : Nat) (s : Sl) : upd f x s x = s := by simp [upd]
theorem upd_ne (f : Nat → Sl) (x j : Nat) (s : Sl) (h : j ≠ x) : upd f x s j = f j := by simp [upd, h]
/-- Bytes written into one of the Macs. -/
theorem Three.wrote {w w' : World} {B A X : Nat} {key : Nat → List Int} {f : Nat → Sl} (T : Three w B A X key f) (x : Nat) (hx : x < 3) (m' : List Int) (h : MacAt w' (f x).P (f x).g (f x).g' (key x) m') (k : Kept (fun b => b = (f x).g) w w') :
    Three w' B A X key (upd f x { f x with m := m' }) := by
  have hb := (T.mac x hx).kd.inn.hash.blk
  have hS : ∀ b, b = (f x).g → ∃ t vs, Blk w b t vs ∧ t ≠ 5 := fun b e => by subst e; exact ⟨_, _, hb, by decide⟩
  have eP : ∀ j, (upd f x { f x with m := m' } j).P = (f j).P ∧ (upd f x { f x with m := m' } j).v = (f j).v ∧ (upd f x { f x with m := m' } j).g = (f j).g ∧ (upd f x { f x with m := m' } j).g' = (f j).g' ∧ (upd f x { f x with m := m' } j).t = (f j).t := fun j => by
    by_cases e : j = x
    · subst e; rw [upd_at]; exact ⟨rfl, rfl, rfl, rfl, rfl⟩
    · rw [upd_ne _ _ _ _ e]; exact ⟨rfl, rfl, rfl, rfl, rfl⟩
  refine ⟨?_, ?_, fun i hi => ?_, fun i hi => ?_, fun i j hi hj hij => ?_, fun i j b hi hj hij e => ?_, fun i hi => ?_, T.loA⟩
  · have := T.arr.kept k (fun e => blk_ne T.arr hb (by decide) e)
    simpa only [ptrM, (eP 0).1, (eP 1).1, (eP 2).1] using this
  · have := T.txt.kept k (fun e => blk_ne T.txt hb (by decide) e)
    simpa only [(eP 0).2.1, (eP 1).2.1, (eP 2).2.1] using this
  · by_cases e : i = x
    · subst e; rw [upd_at]; exact h
    · rw [upd_ne _ _ _ _ e]
      have hm := T.mac i hi
      exact hm.kept k (fun e' => blk_ne hm.blk hb (by decide) e') (fun e' => (T.gap x i hx hi (fun h => e h.symm)).1 e'.symm) (fun e' => (T.gap x i hx hi (fun h => e h.symm)).2 e'.symm)
  · rw [(eP i).2.1, (eP i).2.2.2.2]
    exact ownsRow_kept (T.own i hi) k hS
  · rw [(eP i).2.2.1, (eP j).2.2.1, (eP j).2.2.2.1]; exact T.gap i j hi hj hij
  · rw [(eP i).2.1] at e; rw [(eP j).2.1]; exact T.vap i j b hi hj hij e
  · rw [(eP i).1, (eP i).2.2.1, (eP i).2.2.2.1]; exact T.lo i hi
theorem txt_set (f : Nat → Sl) (x : Nat) (hx : x < 3) (s : Sl) : [(f 0).v, (f 1).v, (f 2).v].set x s.v = [(upd f x s 0).v, (upd f x s 1).v, (upd f x s 2).v] := by
  obtain rfl | rfl | rfl : x = 0 ∨ x = 1 ∨ x = 2 := by omega
  · rfl
  · rfl
  · rfl
theorem size_set (w : World) (p : Addr) (v : Value) : (w.setCell p v).heap.size = w.heap.size := by simp
/-- What the statement keeps of one of them has grown. -/
theorem Three.grew {w w' : World} {B A X : Nat} {key : Nat → List Int} {f : Nat → Sl} (T : Three w B A X key f) (x : Nat) (hx : x < 3) (t' : List Int) (v' : Value) (ho : w'.ownsRow B 5 1 v' t'.length (t'.map (Value.int .u8))) (hg : w.grownBy w' (f x).v.ownBlock) (hat : v'.ownBlock = (f x).v.ownBlock ∨ v'.ownBlock = some w.heap.size) :
    Three (w'.setCell ⟨X, x, none⟩ v') B A X key (upd f x { f x with t := t', v := v' }) := by
  have k := Kept.ofGrown hg
  have hown := T.own x hx
  have K := (Kept.refl (fun b => b = X) w').setCell (p := ⟨X, x, none⟩) rfl v'
  have X1 := T.txt.kept k (own_ne hown T.txt (by decide))
  have A1 := T.arr.kept k (own_ne hown T.arr (by decide))
  have hSX : ∀ b, b = X → ∃ t vs, Blk w' b t vs ∧ t ≠ 5 := fun b e => by subst e; exact ⟨_, _, X1, by decide⟩
  have eP : ∀ j, (upd f x { f x with t := t', v := v' } j).P = (f j).P ∧ (upd f x { f x with t := t', v := v' } j).g = (f j).g ∧ (upd f x { f x with t := t', v := v' } j).g' = (f j).g' ∧ (upd f x { f x with t := t', v := v' } j).m = (f j).m := fun j => by
    by_cases e : j = x
    · subst e; rw [upd_at]; exact ⟨rfl, rfl, rfl, rfl⟩
    · rw [upd_ne _ _ _ _ e]; exact ⟨rfl, rfl, rfl, rfl⟩
  have lt : ∀ i b, i < 3 → (f i).v.ownBlock = some b → b < w.heap.size := fun i b hi e => ((T.own i hi).lt b e).2
  refine ⟨?_, ?_, fun i hi => ?_, fun i hi => ?_, fun i j hi hj hij => ?_, fun i j b hi hj hij e => ?_, fun i hi => ?_, T.loA⟩
  · have := A1.kept K (fun e => blk_ne A1 X1 (by decide) e)
    simpa only [ptrM, (eP 0).1, (eP 1).1, (eP 2).1] using this
  · have := X1.set x v'
    rwa [txt_set f x hx { f x with t := t', v := v' }] at this
  · rw [(eP i).1, (eP i).2.1, (eP i).2.2.1, (eP i).2.2.2]
    have hm := T.mac i hi
    have h1 := hm.kept k (own_ne hown hm.blk (by decide)) (own_ne hown hm.kd.inn.hash.blk (by decide)) (own_ne hown hm.kd.out.hash.blk (by decide))
    exact h1.kept K (fun e => blk_ne h1.blk X1 (by decide) e) (fun e => blk_ne h1.kd.inn.hash.blk X1 (by decide) e) (fun e => blk_ne h1.kd.out.hash.blk X1 (by decide) e)
  · by_cases e : i = x
    · subst e; rw [upd_at]; exact ownsRow_kept ho K hSX
    · rw [upd_ne _ _ _ _ e]
      exact ownsRow_kept (own_kept1 (T.own i hi) k (fun b hb hs => T.vap i x b hi hx e hb hs)) K hSX
  · rw [(eP i).2.1, (eP j).2.1, (eP j).2.2.1]; exact T.gap i j hi hj hij
  · by_cases e1 : i = x
    · subst e1
      rw [upd_at] at e
      rw [upd_ne _ _ _ _ (Ne.symm hij)]
      intro h
      rcases hat with h1 | h1
      · exact T.vap i j b hi hj hij (h1.symm.trans e) h
      · have := lt j b hj h
        have e2 : w.heap.size = b := Option.some.inj (h1.symm.trans e)
        omega
    · rw [upd_ne _ _ _ _ e1] at e
      by_cases e2 : j = x
      · subst e2
        rw [upd_at]
        intro h
        have h' : v'.ownBlock = some b := h
        rcases hat with h1 | h1
        · exact T.vap i j b hi hj hij e (h1.symm.trans h')
        · have := lt i b hi e
          have e3 : w.heap.size = b := Option.some.inj (h1.symm.trans h')
          omega
      · rw [upd_ne _ _ _ _ e2]
        exact T.vap i j b hi hj hij e
  · rw [(eP i).1, (eP i).2.1, (eP i).2.2.1]; exact T.lo i hi
/-- The first k of the Macs, just made. -/
def arrC (k : Nat) (f : Nat → Sl) : List Value := [if 0 < k then ptrM (f 0) else .pointer none, if 1 < k then ptrM (f 1) else .pointer none, if 2 < k then ptrM (f 2) else .pointer none]
structure Part (w : World) (B A k : Nat) (key : Nat → List Int) (f : Nat → Sl) : Prop where
  arr : Blk w A 39 (arrC k f)
  mac : ∀ i, i < k → MacAt w (f i).P (f i).g (f i).g' (key i) (f i).m ∧ (f i).m = [] ∧ (f i).t = [] ∧ (f i).v = .slice none 0 0
  gap : ∀ i j, i < k → j < k → i ≠ j → (f i).g ≠ (f j).g ∧ (f i).g ≠ (f j).g'
  lo : ∀ i, i < k → B ≤ (f i).P ∧ B ≤ (f i).g ∧ B ≤ (f i).g'
  loA : B ≤ A
theorem arrC_set (k : Nat) (f : Nat → Sl) (s : Sl) (hk : k < 3) : (arrC k f).set k (ptrM s) = arrC (k + 1) (upd f k s) := by
  obtain rfl | rfl | rfl : k = 0 ∨ k = 1 ∨ k = 2 := by omega
  · rfl
  · rfl
  · rfl
theorem arrC_at (k : Nat) (f : Nat → Sl) (hk : k < 3) : (arrC k f)[k]? = some (.pointer none) := by
  obtain rfl | rfl | rfl : k = 0 ∨ k = 1 ∨ k = 2 := by omega
  · rfl
  · rfl
  · rfl
theorem Part.add {w W : World} {B A k : Nat} {key : Nat → List Int} {f : Nat → Sl} (T : Part w B A k key f) (hk : k < 3) (hB : B ≤ w.heap.size) (P g g' : Nat) (hA : Blk W A 39 ((arrC k f).set k (.pointer (some ⟨P, 0, none⟩)))) (hm : MacAt W P g g' (key k) []) (K : Kept (fun b => b = A) w W) (hP : w.heap.size ≤ P) (hg : w.heap.size ≤ g) (hg' : w.heap.size ≤ g') :
    Part W B A (k + 1) key (upd f k ⟨P, g, g', [], [], .slice none 0 0⟩) := by
  have lt : ∀ i, i < k → (f i).P < w.heap.size ∧ (f i).g < w.heap.size ∧ (f i).g' < w.heap.size := fun i hi => ⟨(T.mac i hi).1.blk.lt, (T.mac i hi).1.kd.lts⟩
  refine ⟨?_, fun i hi => ?_, fun i j hi hj hij => ?_, fun i hi => ?_, T.loA⟩
  · rw [← arrC_set k f ⟨P, g, g', [], [], .slice none 0 0⟩ hk]; exact hA
  · by_cases e : i = k
    · subst e; rw [upd_at]; exact ⟨hm, rfl, rfl, rfl⟩
    · rw [upd_ne _ _ _ _ e]
      have h := T.mac i (by omega)
      exact ⟨h.1.kept K (fun e' => blk_ne h.1.blk T.arr (by decide) e') (fun e' => blk_ne h.1.kd.inn.hash.blk T.arr (by decide) e') (fun e' => blk_ne h.1.kd.out.hash.blk T.arr (by decide) e'), h.2⟩
  · by_cases e : i = k
    · subst e
      rw [upd_at, upd_ne _ _ _ _ (Ne.symm hij)]
      have := lt j (by omega)
      show g ≠ _ ∧ g ≠ _
      omega
    · rw [upd_ne _ _ _ _ e]
      have := lt i (by omega)
      by_cases e2 : j = k
      · subst e2
        rw [upd_at]
        show _ ≠ g ∧ _ ≠ g'
        omega
      · rw [upd_ne _ _ _ _ e2]; exact T.gap i j (by omega) (by omega) hij
  · by_cases e : i = k
    · subst e; rw [upd_at]; show B ≤ P ∧ B ≤ g ∧ B ≤ g'; omega
    · rw [upd_ne _ _ _ _ e]; exact T.lo i (by omega)
theorem Part.three {w W : World} {B A : Nat} {key : Nat → List Int} {f : Nat → Sl} (T : Part w B A 3 key f) (X : Nat) (l : Below w.heap.size w W) (hX : Blk W X 37 [.slice none 0 0, .slice none 0 0, .slice none 0 0]) (hB : B ≤ X) : Three W B A X key f :=
  ⟨T.arr.later l T.arr.lt, by rw [(T.mac 0 (by decide)).2.2.2, (T.mac 1 (by decide)).2.2.2, (T.mac 2 (by decide)).2.2.2]; exact hX, fun i hi => (T.mac i hi).1.now l, fun i hi => by rw [(T.mac i hi).2.2.1, (T.mac i hi).2.2.2]; exact World.ownsRow_nil _ _ _ _, T.gap, (fun i j b hi hj hij e => by rw [(T.mac i hi).2.2.2] at e; cases e), T.lo, T.loA, hB⟩
/-- An append, by its run. -/
theorem run_app {w : World} (base : Nat) (v : Value) (n : Nat) (xs : List Value) (hown : w.ownsRow base 5 1 v n xs) (ao : Option Addr) (m c : Nat) (zs : List Int) (hsn : Seen w ao m zs) (hc : ao = none → c = 0) (hb : n + m ≤ 140737488355328) (hbase : base ≤ w.heap.size) :
    ∃ v' w', (Builtin.append_ #[22, 22] 22 #[v, .slice ao m c]).run Tryd.prog w = .ok v' w' ∧ w'.ownsRow base 5 1 v' (n + m) (xs ++ zs.map (Value.int .u8)) ∧ w.grownBy w' v.ownBlock ∧ (v'.ownBlock = v.ownBlock ∨ v'.ownBlock = some w.heap.size) := by
  obtain ⟨i0, hi, hz0, hz1, hz2⟩ := info_parts info_byte
  cases ao with
  | none =>
    obtain ⟨rfl, rfl⟩ := seen_nil hsn
    obtain rfl := hc rfl
    exact ⟨v, w, run_append_owned_none (P := Tryd.prog) (w := w) base 22 22 5 i0 1 Tryd.underlying22 hi v n xs hown, by simpa using hown, ⟨rfl, rfl, rfl, Nat.le_refl _, fun _ _ _ => rfl⟩, .inl rfl⟩
  | some ad =>
    obtain ⟨v', w', hr, h2, h3, _, h5⟩ := run_append_own_at (P := Tryd.prog) w base 22 22 5 i0 (.int .u8 0) 1 1 Tryd.underlying22 hi hz0 hz1 hz2 rfl (by decide) v n xs hown ad m c (zs.map (Value.int .u8)) (by rw [List.length_map, hsn.len, Nat.mul_one]) (seen_news hsn rfl) (one_bytes zs) (by unfold maxLen; omega) (by omega) hbase
    exact ⟨v', w', hr, h2, h3, h5⟩
theorem wp_app {o : Oper} {a : Act} {K : Act → World → Prop} {Q : Exit → Act → World → Prop} {w : World} (s x : Operand) (t ty : TypeId) (ho : o.op = .call { callee := .builtin .append, args := #[s, x], argTypes := #[t, t] }) (hty : o.type = ty)
    (va vb : Value) (hs : a.eval s = va) (hx : a.eval x = vb) (v' : Value) (w' : World) (hr : (Builtin.append_ #[t, t] ty #[va, vb]).run Tryd.prog w = .ok v' w') (h : K (a.put o.dst v') w') : o.wp Tryd.prog a w K Q := by
  subst hty
  unfold Oper.wp execOp
  simp only [ho, resolve, invoke, builtin, Sem.run_bind, Sem.run_pure, Result.andThen_ok, List.map_toArray, List.map_cons, List.map_nil, hs, hx, hr]
  exact h
structure PItem where
  on : Int
  k : Int
  data : List Int
instance : Inhabited PItem := ⟨⟨0, 0, []⟩⟩
abbrev pAt (its : List PItem) (i : Nat) : PItem := its.getD i default
/-- The bytes of the first k steps, together. -/
def dats (its : List PItem) (k : Nat) : List Int := ((its.take k).map (·.data)).flatten
theorem dats_succ (its : List PItem) (k : Nat) (hk : k < its.length) : (dats its (k + 1)).length = (dats its k).length + (pAt its k).data.length := by
  unfold dats
  have e : pAt its k = its[k] := by simp [pAt, List.getD, hk]
  rw [List.take_succ_eq_append_getElem hk, List.map_append, List.flatten_append, List.length_append, e]
  simp
theorem dats_le (its : List PItem) (k : Nat) : (dats its k).length ≤ (dats its its.length).length := by
  unfold dats
  rw [List.take_length]
  conv => rhs; rw [← List.take_append_drop k its]
  rw [List.map_append, List.flatten_append, List.length_append]
  omega
def opV (on k : Int) (bo : Option Addr) (n c : Nat) : List Value := [.int .i64 on, .int .i64 k, .slice bo n c]
/-- A slice at ao of n steps, which are its. -/
structure SeenQ (w : World) (ao : Option Addr) (n : Nat) (its : List PItem) : Prop where
  len : its.length = n
  top : n ≤ 1048576
  all : (dats its n).length ≤ 1048576
  cells : ∀ i, i < n → ∃ b o so cs, ao = some ⟨b, o, none⟩ ∧ b < w.heap.size ∧ w.rangeAt b (o + i * 3) (opV (pAt its i).on (pAt its i).k so (pAt its i).data.length cs) ∧ Seen w so (pAt its i).data.length (pAt its i).data ∧ (pAt its i).data.length ≤ cs ∧ (so = none → cs = 0)
theorem rem_nat (z : Int) (D : Nat) (hD : 0 < D) (hD2 : D ≤ 1048576) : ∃ r : Nat, Value.int .u64 ((IntKind.u64.wrap z).tmod (D : Int)) = Value.int .u64 (r : Int) ∧ r < D ∧ Value.int .i64 (wrap64 (r : Int)) = Value.int .i64 (r : Int) := by
  have h1 : 0 ≤ IntKind.u64.wrap z := by rw [IntKind.wrap_u64]; omega
  have h2 := Int.emod_nonneg (IntKind.u64.wrap z) (show (D : Int) ≠ 0 by omega)
  have h3 := Int.emod_lt_of_pos (IntKind.u64.wrap z) (show (0 : Int) < (D : Int) by omega)
  obtain ⟨x, hx⟩ : ∃ x, IntKind.u64.wrap z % (D : Int) = x := ⟨_, rfl⟩
  rw [hx] at h2 h3
  have e : (IntKind.u64.wrap z).tmod (D : Int) = x := by rw [Int.tmod_eq_emod_of_nonneg h1]; exact hx
  clear hx h1
  have e2 : ((x.toNat : Nat) : Int) = x := by clear e; omega
  refine ⟨x.toNat, by rw [e, e2], by clear e; omega, ?_⟩
  rw [show wrap64 ((x.toNat : Nat) : Int) = ((x.toNat : Nat) : Int) by clear e; unfold wrap64; omega]
theorem sl_lentW (g n c h : Nat) (hh : h ≤ c) (w : World) : (Instr.sliceAt 22 (.slice (some ⟨g, 0, none⟩) n c) none (some (.int .i64 h)) none).run Tryd.prog w = .ok (.slice (some ⟨g, 0, none⟩) h c) w := by
  rw [sl_h _ _ _ _ hh]
  congr 2
  unfold subA
  split <;> rfl
/-- The three keys: a, b, a. -/
structure Ks (w : World) (o : Nat → Option Addr) (n c : Nat → Nat) (key : Nat → List Int) : Prop where
  seen : ∀ i, i < 3 → Seen w (o i) (n i) (key i)
  cap : ∀ i, i < 3 → n i ≤ c i
  nil : ∀ i, i < 3 → o i = none → c i = 0
  top : ∀ i, i < 3 → n i ≤ 1048576
theorem Ks.later {w w' : World} {o : Nat → Option Addr} {n c : Nat → Nat} {key : Nat → List Int} (h : Ks w o n c key) (l : Below w.heap.size w w') : Ks w' o n c key := ⟨fun i hi => (h.seen i hi).later l (Nat.le_refl _), h.cap, h.nil, h.top⟩
def ksC (o : Nat → Option Addr) (n c : Nat → Nat) : List Value := [.slice (o 0) (n 0) (c 0), .slice (o 1) (n 1) (c 1), .slice (o 2) (n 2) (c 2)]
theorem ks_at (o : Nat → Option Addr) (n c : Nat → Nat) (i : Nat) (hi : i < 3) : (ksC o n c)[i]? = some (.slice (o i) (n i) (c i)) := by
  obtain rfl | rfl | rfl : i = 0 ∨ i = 1 ∨ i = 2 := by omega
  · rfl
  · rfl
  · rfl
end Go.Proofs.YtiimjhahblmggaaDoor
