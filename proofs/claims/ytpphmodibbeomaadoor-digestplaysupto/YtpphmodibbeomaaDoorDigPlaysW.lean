/- The walk of DigestPlays. -/
import Derived.Test.YtpphmodibbeomaaDoorDPlay
import Derived.Test.YtpphmodibbeomaaDoorDWorks
namespace Go.Proofs.YtpphmodibbeomaaDoor.digestPlays
open Go.RowKit
set_option linter.unusedVariables false
set_option linter.unusedSimpArgs false

theorem zeroArr : (Tryd.prog.info? 35).map (fun i => (i.zero, i.size)) = some (some (.agg #[.pointer none, .pointer none, .pointer none]), 3) := by kernel_rfl
def arrC (k : Nat) (f : Nat → Slot) : List Value := [if 0 < k then ptrTo (f 0) else .pointer none, if 1 < k then ptrTo (f 1) else .pointer none, if 2 < k then ptrTo (f 2) else .pointer none]
/-- The first k of the three, just made. -/
structure Part (w : World) (B A k : Nat) (f : Nat → Slot) : Prop where
  arr : Blk w A 35 (arrC k f)
  pair : ∀ i, i < k → PairAt w (f i).P (f i).h (f i).so (f i).c (f i).st ∧ (f i).st = some []
  apart : ∀ i j, i < k → j < k → i ≠ j → (f i).P ≠ (f j).P ∧ (f i).h ≠ (f j).h
  from1 : ∀ i, i < k → B ≤ (f i).P ∧ B ≤ (f i).h
  from2 : B ≤ A
theorem arrC_set (k : Nat) (f : Nat → Slot) (s : Slot) (hk : k < 3) : (arrC k f).set k (ptrTo s) = arrC (k + 1) (fun j => if j = k then s else f j) := by
  obtain rfl | rfl | rfl : k = 0 ∨ k = 1 ∨ k = 2 := by omega
  · rfl
  · rfl
  · rfl
theorem arrC_at (k : Nat) (f : Nat → Slot) (hk : k < 3) : (arrC k f)[k]? = some (.pointer none) := by
  obtain rfl | rfl | rfl : k = 0 ∨ k = 1 ∨ k = 2 := by omega
  · rfl
  · rfl
  · rfl
theorem Part.add {w w3 : World} {B A k : Nat} {f : Nat → Slot} (T : Part w B A k f) (hk : k < 3) (hB : B ≤ w.heap.size) (l : Below w.heap.size w w3) (s : Slot) (hs : s.st = some []) (hp : PairAt w3 s.P s.h s.so s.c s.st) (hP : w.heap.size ≤ s.P) (hh : w.heap.size ≤ s.h) :
    Part (w3.setCell ⟨A, k, none⟩ (ptrTo s)) B A (k + 1) (fun j => if j = k then s else f j) := by
  have K := (Kept.refl (fun b => b = A) w3).setCell (p := ⟨A, k, none⟩) rfl (ptrTo s)
  have A3 := T.arr.later l T.arr.lt
  have hS : ∀ b, b = A → ∃ t vs, Blk w3 b t vs ∧ t ≠ 5 := fun b e => by subst e; exact ⟨_, _, A3, by decide⟩
  have keep : ∀ s' : Slot, s'.st = some [] → PairAt w3 s'.P s'.h s'.so s'.c s'.st → PairAt (w3.setCell ⟨A, k, none⟩ (ptrTo s)) s'.P s'.h s'.so s'.c s'.st := fun s' h0 h1 =>
    h1.kept K (fun e => blk_ne h1.blk A3 (by decide) e) (fun h2 e => by obtain ⟨vs, hv⟩ := h1.hblk h2; exact blk_ne hv A3 (by decide) e) hS
  refine ⟨by have := A3.set k (ptrTo s); rwa [arrC_set k f s hk] at this, fun i hi => ?_, fun i j hi hj hij => ?_, fun i hi => ?_, T.from2⟩
  · by_cases e : i = k
    · subst e; simp only [if_true]; exact ⟨keep s hs hp, hs⟩
    · simp only [if_neg e]
      have h1 := T.pair i (by omega)
      exact ⟨keep _ h1.2 (h1.1.grow l), h1.2⟩
  · have lt : ∀ x, x < k → (f x).P < w.heap.size ∧ (f x).h < w.heap.size := fun x hx => ⟨(T.pair x hx).1.blk.lt, ((T.pair x hx).1.held [] (T.pair x hx).2).1.lt⟩
    by_cases e : i = k
    · subst e; simp only [if_true, if_neg (Ne.symm hij)]; have := lt j (by omega); omega
    · by_cases e2 : j = k
      · subst e2; simp only [if_true, if_neg e]; have := lt i (by omega); omega
      · simp only [if_neg e, if_neg e2]; exact T.apart i j (by omega) (by omega) hij
  · by_cases e : i = k
    · subst e; simp only [if_true]; omega
    · simp only [if_neg e]; exact T.from1 i (by omega)
theorem Part.three {w : World} {B A : Nat} {f : Nat → Slot} (T : Part w B A 3 f) : Three w B A 0 f :=
  ⟨T.arr, fun i hi => (T.pair i hi).1, fun i j hi hj hij => (T.apart i j hi hj hij).1, fun i j hi hj hij _ _ => (T.apart i j hi hj hij).2, fun i hi m hm => by
    rw [(T.pair i hi).2] at hm; cases hm; exact Nat.le_refl _, fun i hi => ⟨(T.from1 i hi).1, fun _ => (T.from1 i hi).2⟩, T.from2⟩
theorem zeroOp : (Tryd.prog.info? 41).map (fun i => (i.zero, i.size)) = some (some (.agg ([.int .i64 0, .int .i64 0, .int .i64 0, .slice none 0 0] : List Value).toArray), 4) := by kernel_rfl
theorem sizeOp : (Tryd.prog.info? 41).map (·.size) = some 4 := by kernel_rfl
theorem opV_one (k a b : Int) (bo : Option Addr) (n c : Nat) : ∀ v ∈ opV k a b bo n c, v.oneCell' = true := by
  intro v hv
  simp only [opV, List.mem_cons, List.not_mem_nil, or_false] at hv
  rcases hv with rfl | rfl | rfl | rfl <;> rfl
theorem three_grow {w w' : World} {B A N : Nat} {f : Nat → Slot} (T : Three w B A N f) (l : Below w.heap.size w w') : Three w' B A N f :=
  ⟨T.arr.later l T.arr.lt, fun i hi => (T.pair i hi).grow l, T.apart, T.hapart, T.cap, T.from1, T.from2⟩
theorem three_at {w : World} {B A N : Nat} {f : Nat → Slot} (T : Three w B A N f) (i : Nat) (hi : i < 3) : w.cell? ⟨A, i, none⟩ = some (ptrTo (f i)) := by
  rw [T.arr.cell]
  obtain rfl | rfl | rfl : i = 0 ∨ i = 1 ∨ i = 2 := by omega
  · rfl
  · rfl
  · rfl
theorem stepF_len (k : Int) (st : Option (List Int)) (zs : List Int) (N : Nat) (h : ∀ m, st = some m → m.length ≤ N) : ∀ m, stepF k st zs = some m → m.length ≤ N + zs.length := by
  intro m hm
  unfold stepF at hm
  split at hm
  · cases st with
    | none => cases hm
    | some x => cases hm; rw [List.length_append]; have := h x rfl; omega
  · split at hm
    · cases st with
      | none => cases hm
      | some x => cases hm; simp
    · split at hm
      · cases hm; simp
      · split at hm
        · cases hm
        · have := h m hm; omega
theorem blk_alloc (w : World) (t : TypeId) (vs : List Value) : Blk (w.alloc (.cells vs.toArray t)) w.heap.size t vs := by
  show (w.heap.push (.cells vs.toArray t))[w.heap.size]? = some (.cells vs.toArray t (0, 0))
  exact Array.getElem?_push_size
theorem kept_alloc {S : Nat → Prop} {a w : World} (h : Kept S a w) (o : Obj) : Kept S a (w.alloc o) := h.trans (Kept.new _ ((Below.refl _ _).alloc (Nat.le_refl _) _))
theorem size_set (w : World) (p : Addr) (v : Value) : (w.setCell p v).heap.size = w.heap.size := by simp
/-- Another pair in one of the three places. -/
theorem three_put {w W : World} {B A N : Nat} {f : Nat → Slot} (T : Three w B A N f) (k : Nat) (hk : k < 3) (hB : B ≤ w.heap.size) (K : Kept (fun b => b = A) w W) (s : Slot) (hA : Blk W A 35 ([ptrTo (f 0), ptrTo (f 1), ptrTo (f 2)].set k (ptrTo s))) (hp : PairAt W s.P s.h s.so s.c s.st) (hP : w.heap.size ≤ s.P) (hh : s.st ≠ none → (∀ x, x < 3 → (f x).st ≠ none → s.h ≠ (f x).h) ∧ B ≤ s.h) (hN : ∀ m, s.st = some m → m.length ≤ N) :
    Three W B A N (fun j => if j = k then s else f j) := by
  have hS : ∀ b, b = A → ∃ t vs, Blk w b t vs ∧ t ≠ 5 := fun b e => by subst e; exact ⟨_, _, T.arr, by decide⟩
  have keep : ∀ x, x < 3 → PairAt W (f x).P (f x).h (f x).so (f x).c (f x).st := fun x hx =>
    (T.pair x hx).kept K (fun e => blk_ne (T.pair x hx).blk T.arr (by decide) e) (fun h2 e => by obtain ⟨vs, hv⟩ := (T.pair x hx).hblk h2; exact blk_ne hv T.arr (by decide) e) hS
  have ltP : ∀ x, x < 3 → (f x).P < w.heap.size := fun x hx => (T.pair x hx).blk.lt
  refine ⟨?_, fun i hi => ?_, fun i j hi hj hij => ?_, fun i j hi hj hij => ?_, fun i hi => ?_, fun i hi => ?_, T.from2⟩
  · obtain rfl | rfl | rfl : k = 0 ∨ k = 1 ∨ k = 2 := by omega
    · exact hA
    · exact hA
    · exact hA
  · by_cases e : i = k
    · subst e; simp only [if_true]; exact hp
    · simp only [if_neg e]; exact keep i hi
  · by_cases e : i = k
    · subst e; simp only [if_true, if_neg (Ne.symm hij)]; have := ltP j hj; omega
    · by_cases e2 : j = k
      · subst e2; simp only [if_true, if_neg e]; have := ltP i hi; omega
      · simp only [if_neg e, if_neg e2]; exact T.apart i j hi hj hij
  · by_cases e : i = k
    · subst e; simp only [if_true, if_neg (Ne.symm hij)]; intro h1 h2; exact (hh h1).1 j hj h2
    · by_cases e2 : j = k
      · subst e2; simp only [if_true, if_neg e]; intro h1 h2; exact fun e => (hh h2).1 i hi h1 e.symm
      · simp only [if_neg e, if_neg e2]; exact T.hapart i j hi hj hij
  · by_cases e : i = k
    · subst e; simpa using hN
    · simp only [if_neg e]; exact T.cap i hi
  · by_cases e : i = k
    · subst e; simp only [if_true]; exact ⟨by omega, fun h => (hh h).2⟩
    · simp only [if_neg e]; exact T.from1 i hi
theorem three_more {w : World} {B A N N' : Nat} {f : Nat → Slot} (T : Three w B A N f) (h : N ≤ N') : Three w B A N' f :=
  ⟨T.arr, T.pair, T.apart, T.hapart, fun i hi m hm => Nat.le_trans (T.cap i hi m hm) h, T.from1, T.from2⟩
/-- A look at one of the three: nothing that it holds changes. -/
theorem look {w : World} {B A N : Nat} {f : Nat → Slot} (T : Three w B A N f) (hK : KTab w) (h0 : 0 < B) (hB : B ≤ w.heap.size) (hN : N ≤ 1048576) (j : Nat) (hj : j < 3) (k : Int) (hk : k = 2 ∨ k = 3) :
    Calls Tryd.prog 17 #[ptrTo (f j), .agg #[.int .i64 k, .int .i64 0, .int .i64 0, .slice none 0 0]] w fun e w' => e = .returned (.bool true) ∧ (∃ f', Three w' B A N f') ∧ Below B w w' := by
  have e0 : stepF k (f j).st [] = (f j).st := by rcases hk with rfl | rfl <;> rfl
  have L := stepped_any k 0 0 none 0 [] (f j).P (f j).h (f j).so (f j).c (f j).st w (T.pair j hj) (Seen.empty _ _) (Nat.le_refl _) (by decide) hK (by have := (T.from1 j hj).1; omega) (fun h => by have := (T.from1 j hj).2 h; omega) (fun b' o' h0 e' hst => by cases h0) (fun m hm => by have := T.cap j hj m hm; show m.length + 0 ≤ _; omega)
  refine L.mono ?_
  rintro e w5 ⟨rfl, L5⟩
  rw [e0] at L5
  obtain ⟨s, _, _, T5⟩ := T.left hB j hj (f j).st N (Nat.le_refl _) (T.cap j hj) L5
  refine ⟨rfl, ⟨_, T5⟩, L5.kept.below hB (fun x hs => ?_)⟩
  have h1 := T.from1 j hj
  rcases hs with h2 | ⟨h2, h3⟩
  · omega
  · have := h1.2 h2; omega
set_option maxRecDepth 20000 in
set_option maxHeartbeats 4000000 in
theorem walk (ao : Option Addr) (n c : Nat) (its : List PItem) (w : World) (hx : SeenQ w ao n its) (hK : KTab w) :
    Calls Tryd.prog 5 #[.slice ao n c] w fun e w' => e = .returned (.bool true) ∧ Below w.heap.size w w' := by
  have HX : Hid (SeenQ w ao n its ∧ KTab w) := ⟨hx, hK⟩
  have q0 := hK.lt
  have hn := hx.top
  clear hx hK
  go_enter Tryd.func5, Tryd.ntmps5
  go_wp2_with (refine wpList_alloc_new rfl 35 rfl 3 [.pointer none, .pointer none, .pointer none] zeroArr ?_; intro w1 b1 s1 l1)
  go_loopw [4] (fun i wr => ∃ (k : Nat) (f : Nat → Slot), k ≤ 3 ∧ i = .int .i64 k ∧ Part wr w.heap.size w.heap.size k f ∧ Below w.heap.size w wr) (fun i _ => 3 - (intOf i).toNat)
  case atStart => exact ⟨0, fun _ => ⟨0, 0, none, 0, none⟩, by omega, rfl, ⟨b1, fun i hi => by omega, fun i j hi => by omega, fun i hi => by omega, Nat.le_refl _⟩, l1⟩
  case round =>
    obtain ⟨k, f, hk, rfl, hT, hbel⟩ := hrel
    by_cases hlt : k < 3
    · have i1 : (0 : Int) ≤ (k : Int) := by omega
      have i2 : (k : Int) < (3 : Int) := by omega
      have Y0 : Hid (Part wr w.heap.size w.heap.size k f ∧ Below w.heap.size w wr) := ⟨hT, hbel⟩
      have qr := hbel.size
      clear hT hbel
      go_wp2_with (first | (go_at_call 14; refine (new_holds _).mono ?_; rintro e w2 ⟨g, rfl, hg, h2, l2⟩) | (refine wpList_box_new rfl 39 _ rfl [.pointer (some ⟨g, 0, none⟩), .slice none 0 0, .bool false] rfl ?_; intro w3 b3 s3 l3; have l13 := below_chain l2 l3 l2.size; have a3 : w3.cell? ⟨w.heap.size, k, none⟩ = some (.pointer none) := ((Y0.out.1.arr.later l13 Y0.out.1.arr.lt).cell k).trans (arrC_at k f hlt); have f3 : w3.frozen? ⟨w.heap.size, k, none⟩ = false := (Y0.out.1.arr.later l13 Y0.out.1.arr.lt).frozen k; have c4 : (w3.setCell ⟨w.heap.size, k, none⟩ (.pointer (some ⟨w2.heap.size, 0, none⟩))).cell? ⟨w2.heap.size, 0, none⟩ = some (.pointer (some ⟨g, 0, none⟩)) := (b3.other (p := ⟨w.heap.size, k, none⟩) (by have := Y0.out.1.arr.lt; have := l2.size; show w2.heap.size ≠ w.heap.size; omega) _).cell 0))
      refine ⟨⟨k + 1, _, by omega, by go_num, Y0.out.1.add hlt qr l13 ⟨w2.heap.size, g, none, 0, some []⟩ rfl ⟨b3, fun m e => by cases e; exact ⟨h2.later l3 h2.lt, all_nil _ _, (fun z hz => by cases hz), Nat.le_refl _, Nat.zero_le _⟩⟩ l2.size hg, below_kept (below_chain Y0.out.2 l13 qr) ((Kept.refl _ _).setCell (S := fun b => b = w.heap.size) rfl _) (by have := l13.size; omega) (fun j hj => by omega)⟩, by simp [intOf]; omega⟩
    · obtain rfl : k = 3 := by omega
      have e3 : ((3 : Nat) : Int) = 3 := rfl
      rw [e3]
      clear e3
      have Y0 : Hid (Three wr w.heap.size w.heap.size 0 f ∧ Below w.heap.size w wr) := ⟨hT.three, hbel⟩
      clear hT hbel
      go_wp2
      go_loopw [5] (fun i wr => ∃ (k : Nat) (f : Nat → Slot), k ≤ n ∧ i = .int .i64 k ∧ Three wr w.heap.size w.heap.size (dats its k).length f ∧ Below w.heap.size w wr) (fun i _ => n - (intOf i).toNat)
      case atStart => exact ⟨0, f, Nat.zero_le _, rfl, Y0.out.1, Y0.out.2⟩
      case round =>
        clear Y0 f
        obtain ⟨k, f, hk, rfl, hT, hbel⟩ := hrel
        by_cases hlt : k < n
        · obtain ⟨b, o, so, cs, rfl, hb, hR0, hs0, hc⟩ := HX.out.1.cells k hlt
          have hwf := HX.out.1.wf k hlt
          have hd := dats_succ its k (by rw [HX.out.1.len]; exact hlt)
          have hd2 : (dats its (k + 1)).length ≤ 1048576 := by have := dats_le its (k + 1); have := HX.out.1.all; rw [← HX.out.1.len] at this; omega
          obtain ⟨it, hit⟩ : ∃ it, pAt its k = it := ⟨_, rfl⟩
          rw [hit] at hR0 hs0 hc hwf hd
          clear hit
          obtain ⟨ki, ai, bi, zs⟩ := it
          simp only at hR0 hs0 hc hwf hd
          have i1 : (0 : Int) ≤ (k : Int) := by omega
          have i2 : (k : Int) < (n : Int) := by omega
          have hR : wr.rangeAt b (o + k * 4) (opV ki ai bi so zs.length cs) := fun j v hv => (World.cell?_of_block (w := w) (a := ⟨b, o + k * 4 + j, none⟩) (hbel.block b hb)).trans (hR0 j v hv)
          have qr := hbel.size
          obtain ⟨i, hi⟩ : ∃ i, inThree ai = i := ⟨_, rfl⟩
          have hi3 : i < 3 := by rw [← hi]; exact inThree_lt _
          have j1 : (0 : Int) ≤ (i : Int) := by omega
          have j2 : (i : Int) < (3 : Int) := by omega
          have Y1 : Hid (Three wr w.heap.size w.heap.size (dats its k).length f ∧ Below w.heap.size w wr ∧ wr.rangeAt b (o + k * 4) (opV ki ai bi so zs.length cs) ∧ Seen w so zs.length zs ∧ zs.length ≤ cs ∧ Int64 ai ∧ Int64 bi ∧ inThree ai = i) := ⟨hT, hbel, hR, hs0, hc, hwf.1, hwf.2, hi⟩
          have HD : Hid ((dats its (k + 1)).length = (dats its k).length + zs.length ∧ (dats its (k + 1)).length ≤ 1048576) := ⟨hd, hd2⟩
          clear hT hbel hR0 hR hs0 hc hwf hd hd2 hi
          by_cases h4 : ki = 4
          · subst h4
            cases hst : (f i).st with
            | none =>
              go_wp2_with (first | (refine wpList_load_mid rfl 41 _ rfl b (o + k * 4) rfl (opV 4 ai bi so zs.length cs) _ Y1.out.2.2.1 Tryd.underlying41 rfl sizeOp ?_) | (refine wpList_alloc_new rfl 41 rfl 4 _ zeroOp ?_; intro w2 b2 s2 l2) | (refine wpList_store_blk rfl 41 41 _ _ rfl _ rfl _ (opV 4 ai bi so zs.length cs) rfl b2 rfl sizeOp (opV_one _ _ _ _ _ _) ?_; intro w3 b3 s3 k3; have cK : w3.cell? ⟨wr.heap.size, 0, none⟩ = some (.int .i64 4) := b3.cell 0; have cW : w3.cell? ⟨wr.heap.size, 1, none⟩ = some (.int .i64 ai) := b3.cell 1; have L3 : Hid (Below wr.heap.size wr w3) := below_kept l2 k3 (by omega) (fun j hj => by omega); have T3 : Hid (Three w3 w.heap.size w.heap.size (dats its k).length f) := three_grow Y1.out.1 L3.out; have cA := three_at T3.out i hi3; have pb := (T3.out.pair i hi3).blk; rw [hst] at pb; have d0 := pb.cell 0; have d1 := pb.cell 1; have d2 := pb.cell 2; simp only [pairC, List.getElem?_cons_zero, List.getElem?_cons_succ] at d0 d1 d2; have cT : w3.cell? ⟨wr.heap.size, 2, none⟩ = some (.int .i64 bi) := b3.cell 2) | (go_at_call 15; refine (within_any ai Y1.out.2.2.2.2.2.1 _).mono ?_; rintro e w4 ⟨rfl, rfl⟩; rw [Y1.out.2.2.2.2.2.2.2]) | (go_at_call 16; refine (copy_nil _).mono ?_; rintro e w4 ⟨rfl, rfl⟩))
              obtain ⟨t, ht⟩ : ∃ t, inThree bi = t := ⟨_, rfl⟩
              have ht3 : t < 3 := by rw [← ht]; exact inThree_lt _
              have t1 : (0 : Int) ≤ (t : Int) := by omega
              have t2 : (t : Int) < (3 : Int) := by omega
              have HT : Hid (inThree bi = t) := ht
              clear ht
              have T4 := T3
              have B4 := b3
              have P4 := pb
              clear s2 s3
              have A4 := T4.out.arr
              have qA := A4.lt
              have cAt := three_at T4.out t ht3
              have fAt : w3.frozen? ⟨w.heap.size, t, none⟩ = false := A4.frozen t
              have FIN : Hid (∃ f', Three (((w3.setCell ⟨w.heap.size, t, none⟩ (.pointer (some ⟨w3.heap.size, 0, none⟩))).alloc (.cells ([.pointer none, .slice none 0 0, .bool true] : List Value).toArray 39)).drew) w.heap.size w.heap.size (dats its (k + 1)).length f' ∧ Below w.heap.size w (((w3.setCell ⟨w.heap.size, t, none⟩ (.pointer (some ⟨w3.heap.size, 0, none⟩))).alloc (.cells ([.pointer none, .slice none 0 0, .bool true] : List Value).toArray 39)).drew)) := by
                have KK := (kept_alloc ((Kept.refl (fun b => b = w.heap.size) w3).setCell (p := ⟨w.heap.size, t, none⟩) rfl (.pointer (some ⟨w3.heap.size, 0, none⟩))) (.cells ([.pointer none, .slice none 0 0, .bool true] : List Value).toArray 39)).drew
                have hAs := A4.set t (.pointer (some ⟨w3.heap.size, 0, none⟩))
                have hA := (hAs.later ((Below.refl _ _).alloc (Nat.le_refl _) (.cells ([.pointer none, .slice none 0 0, .bool true] : List Value).toArray 39)) hAs.lt).drew
                have blkP := blk_alloc (w3.setCell ⟨w.heap.size, t, none⟩ (.pointer (some ⟨w3.heap.size, 0, none⟩))) 39 [.pointer none, .slice none 0 0, .bool true]
                rw [size_set] at blkP
                refine ⟨_, three_more (three_put T4.out t ht3 (by omega) KK ⟨w3.heap.size, 0, none, 0, none⟩ hA ⟨blkP.drew, fun m' e => ?_⟩ (Nat.le_refl _) (fun h => ?_) (fun m' e => ?_)) (by have := HD.out.1; omega), below_kept (below_chain Y1.out.2.1 L3.out qr) KK (by omega) (fun j hj => by omega)⟩
                · cases e
                · exact absurd rfl h
                · cases e
              have HS : Hid (∀ W, Kept (fun b => b = w.heap.size) w3 W → W.cell? ⟨wr.heap.size, 2, none⟩ = some (.int .i64 bi) ∧ W.cell? ⟨(f i).P, 1, none⟩ = some (.slice none 0 0) ∧ W.cell? ⟨(f i).P, 2, none⟩ = some (.bool true)) := fun W hW => ⟨(B4.kept hW (by have := Y1.out.1.arr.lt; omega)).cell 2, (P4.kept hW (fun e => blk_ne P4 A4 (by decide) e)).cell 1, (P4.kept hW (fun e => blk_ne P4 A4 (by decide) e)).cell 2⟩
              have HS2 : Hid (∀ (v : Value) (oo : Obj), ((w3.setCell ⟨w.heap.size, t, none⟩ v).alloc oo).drew.cell? ⟨wr.heap.size, 2, none⟩ = some (.int .i64 bi) ∧ ((w3.setCell ⟨w.heap.size, t, none⟩ v).alloc oo).drew.cell? ⟨(f i).P, 1, none⟩ = some (.slice none 0 0) ∧ ((w3.setCell ⟨w.heap.size, t, none⟩ v).alloc oo).drew.cell? ⟨(f i).P, 2, none⟩ = some (.bool true)) := fun v oo => HS.out _ (kept_alloc ((Kept.refl (fun b => b = w.heap.size) w3).setCell (p := ⟨w.heap.size, t, none⟩) rfl v) oo).drew
              go_region_held3 (fun W => W.cell? ⟨wr.heap.size, 2, none⟩ = some (.int .i64 bi) ∧ W.cell? ⟨(f i).P, 1, none⟩ = some (.slice none 0 0) ∧ W.cell? ⟨(f i).P, 2, none⟩ = some (.bool true)) (first | exact HS.out _ (Kept.refl _ _).drew | exact HS.out _ (Kept.new _ ((below_dn (Below.refl w3.heap.size w3) 1).alloc (Nat.le_refl _) _)) | exact HS.out _ ((Kept.new _ ((below_dn (Below.refl w3.heap.size w3) 1).alloc (Nat.le_refl _) _)).setCell rfl _) | exact HS2.out _ _) (first | (go_at_call 15; refine (within_any bi Y1.out.2.2.2.2.2.2.1 _).mono ?_; rintro e w9 ⟨rfl, rfl⟩; rw [HT.out]))
              all_goals
                go_wp2
                obtain ⟨f', hf1, hf2⟩ := FIN.out
                exact ⟨⟨k + 1, f', by omega, by go_num, hf1, hf2⟩, by simp [intOf]; omega⟩
            | some m =>
              go_wp2_with (first | (refine wpList_load_mid rfl 41 _ rfl b (o + k * 4) rfl (opV 4 ai bi so zs.length cs) _ Y1.out.2.2.1 Tryd.underlying41 rfl sizeOp ?_) | (refine wpList_alloc_new rfl 41 rfl 4 _ zeroOp ?_; intro w2 b2 s2 l2) | (refine wpList_store_blk rfl 41 41 _ _ rfl _ rfl _ (opV 4 ai bi so zs.length cs) rfl b2 rfl sizeOp (opV_one _ _ _ _ _ _) ?_; intro w3 b3 s3 k3; have cK : w3.cell? ⟨wr.heap.size, 0, none⟩ = some (.int .i64 4) := b3.cell 0; have cW : w3.cell? ⟨wr.heap.size, 1, none⟩ = some (.int .i64 ai) := b3.cell 1; have L3 : Hid (Below wr.heap.size wr w3) := below_kept l2 k3 (by omega) (fun j hj => by omega); have T3 : Hid (Three w3 w.heap.size w.heap.size (dats its k).length f) := three_grow Y1.out.1 L3.out; have cA := three_at T3.out i hi3; have pb := (T3.out.pair i hi3).blk; rw [hst] at pb; have d0 := pb.cell 0; have d1 := pb.cell 1; have d2 := pb.cell 2; simp only [pairC, List.getElem?_cons_zero, List.getElem?_cons_succ] at d0 d1 d2; have cT : w3.cell? ⟨wr.heap.size, 2, none⟩ = some (.int .i64 bi) := b3.cell 2) | (go_at_call 15; refine (within_any ai Y1.out.2.2.2.2.2.1 _).mono ?_; rintro e w4 ⟨rfl, rfl⟩; rw [Y1.out.2.2.2.2.2.2.2]) | (go_at_call 16; refine (copy_any (f i).h _ _ _ w3 ((T3.out.pair i hi3).held m hst).1.hash).mono ?_; rintro e w4 ⟨g4, rfl, hg4, h4, l4⟩; have d2' : w4.cell? ⟨(f i).P, 2, none⟩ = some (.bool false) := (pb.later l4 pb.lt).cell 2))
              obtain ⟨t, ht⟩ : ∃ t, inThree bi = t := ⟨_, rfl⟩
              have ht3 : t < 3 := by rw [← ht]; exact inThree_lt _
              have t1 : (0 : Int) ≤ (t : Int) := by omega
              have t2 : (t : Int) < (3 : Int) := by omega
              have HT : Hid (inThree bi = t) := ht
              clear ht
              have T4 : Hid (Three w4 w.heap.size w.heap.size (dats its k).length f) := three_grow T3.out l4
              have B4 := b3.later l4 b3.lt
              have P4 := pb.later l4 pb.lt
              have A4 := T4.out.arr
              have qA := A4.lt
              have cAt := three_at T4.out t ht3
              have fAt : w4.frozen? ⟨w.heap.size, t, none⟩ = false := A4.frozen t
              have FIN : Hid (∃ f', Three (((w4.setCell ⟨w.heap.size, t, none⟩ (.pointer (some ⟨w4.heap.size, 0, none⟩))).alloc (.cells ([.pointer (some ⟨g4, 0, none⟩), .slice (f i).so m.length (f i).c, .bool false] : List Value).toArray 39)).drew) w.heap.size w.heap.size (dats its (k + 1)).length f' ∧ Below w.heap.size w (((w4.setCell ⟨w.heap.size, t, none⟩ (.pointer (some ⟨w4.heap.size, 0, none⟩))).alloc (.cells ([.pointer (some ⟨g4, 0, none⟩), .slice (f i).so m.length (f i).c, .bool false] : List Value).toArray 39)).drew)) := by
                have KK := (kept_alloc ((Kept.refl (fun b => b = w.heap.size) w4).setCell (p := ⟨w.heap.size, t, none⟩) rfl (.pointer (some ⟨w4.heap.size, 0, none⟩))) (.cells ([.pointer (some ⟨g4, 0, none⟩), .slice (f i).so m.length (f i).c, .bool false] : List Value).toArray 39)).drew
                have hAs := A4.set t (.pointer (some ⟨w4.heap.size, 0, none⟩))
                have hA := (hAs.later ((Below.refl _ _).alloc (Nat.le_refl _) (.cells ([.pointer (some ⟨g4, 0, none⟩), .slice (f i).so m.length (f i).c, .bool false] : List Value).toArray 39)) hAs.lt).drew
                have blkP := blk_alloc (w4.setCell ⟨w.heap.size, t, none⟩ (.pointer (some ⟨w4.heap.size, 0, none⟩))) 39 [.pointer (some ⟨g4, 0, none⟩), .slice (f i).so m.length (f i).c, .bool false]
                rw [size_set] at blkP
                refine ⟨_, three_more (three_put T4.out t ht3 (by omega) KK ⟨w4.heap.size, g4, (f i).so, (f i).c, some m⟩ hA ⟨blkP.drew, fun m' e => ?_⟩ (Nat.le_refl _) (fun h => ?_) (fun m' e => ?_)) (by have := HD.out.1; omega), below_kept (below_chain (below_chain Y1.out.2.1 L3.out qr) l4 (by have := L3.out.size; omega)) KK (by omega) (fun j hj => by omega)⟩
                · cases e
                  have H4 : Holds w4 g4 m := ⟨h4⟩
                  have R4 := (((T4.out.pair i hi3).held m hst)).2
                  exact ⟨H4.kept KK (fun e => blk_ne H4.hash.blk A4 (by decide) e), R4.1.kept KK (fun b e => by subst e; exact ⟨_, _, A4, by decide⟩), R4.2⟩
                · refine ⟨fun x hx hs => ?_, by show w.heap.size ≤ g4; have := L3.out.size; omega⟩
                  obtain ⟨vs, hv⟩ := (T3.out.pair x hx).hblk hs
                  have := hv.lt
                  show g4 ≠ (f x).h
                  omega
                · cases e
                  exact T4.out.cap i hi3 m hst
              have HS : Hid (∀ W, Kept (fun b => b = w.heap.size) w4 W → W.cell? ⟨wr.heap.size, 2, none⟩ = some (.int .i64 bi) ∧ W.cell? ⟨(f i).P, 1, none⟩ = some (.slice (f i).so m.length (f i).c) ∧ W.cell? ⟨(f i).P, 2, none⟩ = some (.bool false)) := fun W hW => ⟨(B4.kept hW (by have := Y1.out.1.arr.lt; omega)).cell 2, (P4.kept hW (fun e => blk_ne P4 A4 (by decide) e)).cell 1, (P4.kept hW (fun e => blk_ne P4 A4 (by decide) e)).cell 2⟩
              have HS2 : Hid (∀ (v : Value) (oo : Obj), ((w4.setCell ⟨w.heap.size, t, none⟩ v).alloc oo).drew.cell? ⟨wr.heap.size, 2, none⟩ = some (.int .i64 bi) ∧ ((w4.setCell ⟨w.heap.size, t, none⟩ v).alloc oo).drew.cell? ⟨(f i).P, 1, none⟩ = some (.slice (f i).so m.length (f i).c) ∧ ((w4.setCell ⟨w.heap.size, t, none⟩ v).alloc oo).drew.cell? ⟨(f i).P, 2, none⟩ = some (.bool false)) := fun v oo => HS.out _ (kept_alloc ((Kept.refl (fun b => b = w.heap.size) w4).setCell (p := ⟨w.heap.size, t, none⟩) rfl v) oo).drew
              go_region_held3 (fun W => W.cell? ⟨wr.heap.size, 2, none⟩ = some (.int .i64 bi) ∧ W.cell? ⟨(f i).P, 1, none⟩ = some (.slice (f i).so m.length (f i).c) ∧ W.cell? ⟨(f i).P, 2, none⟩ = some (.bool false)) (first | exact HS.out _ (Kept.refl _ _).drew | exact HS.out _ (Kept.new _ ((below_dn (Below.refl w4.heap.size w4) 1).alloc (Nat.le_refl _) _)) | exact HS.out _ ((Kept.new _ ((below_dn (Below.refl w4.heap.size w4) 1).alloc (Nat.le_refl _) _)).setCell rfl _) | exact HS2.out _ _) (first | (go_at_call 15; refine (within_any bi Y1.out.2.2.2.2.2.2.1 _).mono ?_; rintro e w9 ⟨rfl, rfl⟩; rw [HT.out]))
              all_goals
                go_wp2
                obtain ⟨f', hf1, hf2⟩ := FIN.out
                exact ⟨⟨k + 1, f', by omega, by go_num, hf1, hf2⟩, by simp [intOf]; omega⟩
          · have h4' : (ki == 4) = false := by simpa using h4
            go_wp2_with (first | (refine wpList_load_mid rfl 41 _ rfl b (o + k * 4) rfl (opV ki ai bi so zs.length cs) _ Y1.out.2.2.1 Tryd.underlying41 rfl sizeOp ?_) | (refine wpList_alloc_new rfl 41 rfl 4 _ zeroOp ?_; intro w2 b2 s2 l2) | (refine wpList_store_blk rfl 41 41 _ _ rfl _ rfl _ (opV ki ai bi so zs.length cs) rfl b2 rfl sizeOp (opV_one _ _ _ _ _ _) ?_; intro w3 b3 s3 k3; have cK : w3.cell? ⟨wr.heap.size, 0, none⟩ = some (.int .i64 ki) := b3.cell 0; have cW : w3.cell? ⟨wr.heap.size, 1, none⟩ = some (.int .i64 ai) := b3.cell 1; have L3 : Hid (Below wr.heap.size wr w3) := below_kept l2 k3 (by omega) (fun j hj => by omega); have T3 : Hid (Three w3 w.heap.size w.heap.size (dats its k).length f) := three_grow Y1.out.1 L3.out; have cA := three_at T3.out i hi3) | (go_at_call 15; refine (within_any ai Y1.out.2.2.2.2.2.1 _).mono ?_; rintro e w4 ⟨rfl, rfl⟩; rw [Y1.out.2.2.2.2.2.2.2]) | (refine wpList_load_blk rfl 41 _ rfl _ rfl (opV ki ai bi so zs.length cs) _ b3 Tryd.underlying41 rfl sizeOp ?_) | (go_at_call 17; refine (stepped_any ki ai bi so cs zs (f i).P (f i).h (f i).so (f i).c (f i).st w3 (T3.out.pair i hi3) ((Y1.out.2.2.2.1.later Y1.out.2.1 (Nat.le_refl _)).later L3.out (Nat.le_refl _)) Y1.out.2.2.2.2.1 (by have := HD.out; omega) (HX.out.2.below (below_chain Y1.out.2.1 L3.out qr) HX.out.2.lt) (by have := (T3.out.from1 i hi3).1; omega) (fun h => by have := (T3.out.from1 i hi3).2 h; omega) (fun b' o' h0 e' hst => by have := Y1.out.2.2.2.1.old (Nat.le_refl _) b' o' h0 e'; have := (T3.out.from1 i hi3).2 hst; omega) (fun m hm => by have := T3.out.cap i hi3 m hm; have := HD.out; omega)).mono ?_; rintro e w5 ⟨rfl, L5⟩))
            have hN : ∀ m, (f i).st = some m → m.length ≤ (dats its k).length := T3.out.cap i hi3
            obtain ⟨s, _, _, T5⟩ := T3.out.left (by have := L3.out.size; omega) i hi3 (stepF ki (f i).st zs) (dats its (k + 1)).length (by have := HD.out.1; omega) (by rw [HD.out.1]; exact stepF_len ki _ zs _ hN) L5
            refine ⟨⟨k + 1, _, by omega, by go_num, T5, below_kept (below_chain Y1.out.2.1 L3.out qr) L5.kept (by have := L3.out.size; omega) (fun j hj hs => ?_)⟩, by simp [intOf]; omega⟩
            have := T3.out.from1 i hi3
            rcases hs with h1 | ⟨h1, h2⟩
            · omega
            · have := this.2 h1; omega
        · obtain rfl : k = n := by omega
          have Y1 : Hid (Three wr w.heap.size w.heap.size (dats its k).length f ∧ Below w.heap.size w wr) := ⟨hT, hbel⟩
          clear hT hbel
          have HN : Hid ((dats its k).length ≤ 1048576) := HX.out.1.all
          go_wp2
          go_loopw [9] (fun i wr => ∃ (j : Nat) (f : Nat → Slot), j ≤ 3 ∧ i = .int .i64 j ∧ Three wr w.heap.size w.heap.size (dats its k).length f ∧ Below w.heap.size w wr) (fun i _ => 3 - (intOf i).toNat)
          case atStart => exact ⟨0, f, Nat.zero_le _, rfl, Y1.out.1, Y1.out.2⟩
          case round =>
            clear Y1 f
            obtain ⟨j, f, hj, rfl, hT, hbel⟩ := hrel
            by_cases hl3 : j < 3
            · have Y1 : Hid (Three wr w.heap.size w.heap.size (dats its k).length f ∧ Below w.heap.size w wr) := ⟨hT, hbel⟩
              have qr := hbel.size
              have j1 : (0 : Int) ≤ (j : Int) := by omega
              have j2 : (j : Int) < (3 : Int) := by omega
              have cA := three_at hT j hl3
              clear hT hbel
              go_wp2_with fail
              refine (look Y1.out.1 (HX.out.2.below Y1.out.2 HX.out.2.lt) q0 qr HN.out j hl3 2 (.inl rfl)).mono ?_
              rintro e w5 ⟨rfl, ⟨f5, T5⟩, B5⟩
              have Y5 : Hid (Three w5 w.heap.size w.heap.size (dats its k).length f5 ∧ Below w.heap.size w w5) := ⟨T5, below_chain Y1.out.2 B5 (Nat.le_refl _)⟩
              have q5 := Y5.out.2.size
              have cB := three_at T5 j hl3
              clear T5 B5
              go_wp2_with fail
              refine (look Y5.out.1 (HX.out.2.below Y5.out.2 HX.out.2.lt) q0 q5 HN.out j hl3 3 (.inr rfl)).mono ?_
              rintro e w6 ⟨rfl, ⟨f6, T6⟩, B6⟩
              go_wp2
              exact ⟨⟨j + 1, f6, by omega, by go_num, T6, below_chain Y5.out.2 B6 (Nat.le_refl _)⟩, by simp [intOf]; omega⟩
            · obtain rfl : j = 3 := by omega
              have Y1 : Hid (Below w.heap.size w wr) := hbel
              clear hT hbel
              go_wp2_with (go_at_call 7; refine (works_any _ (HX.out.2.below Y1.out HX.out.2.lt)).mono ?_; rintro e w7 ⟨rfl, l7⟩)
              go_ret
              exact ⟨rfl, below_chain Y1.out l7 Y1.out.size⟩
end Go.Proofs.YtpphmodibbeomaaDoor.digestPlays
