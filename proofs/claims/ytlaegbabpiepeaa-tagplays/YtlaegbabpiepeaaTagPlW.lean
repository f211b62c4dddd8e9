/- The walk of TagPlays. -/
import Derived.Test.YtlaegbabpiepeaaTPlD
import Derived.Test.YtlaegbabpiepeaaTWorks
import Derived.Test.YtlaegbabpiepeaaRInvP
namespace Go.Proofs.Ytlaegbabpiepeaa.tagPlays
open Go.RowKit
set_option linter.unusedVariables false
set_option linter.unusedSimpArgs false

/-- A number from 0 to 2. -/
def inThree (i : Int) : Nat := (i % 3).toNat
theorem inThree_lt (i : Int) : inThree i < 3 := by unfold inThree; omega
theorem tmod3 (i : Int) : (0 ≤ i ∧ i.tmod 3 = i % 3) ∨ (i < 0 ∧ i.tmod 3 = -((-i) % 3)) := by
  rcases Int.lt_or_le i 0 with h | h
  · right
    refine ⟨h, ?_⟩
    have := Int.neg_tmod (-i) 3
    rw [Int.neg_neg] at this
    rw [this, Int.tmod_eq_emod_of_nonneg (by omega)]
  · exact .inl ⟨h, Int.tmod_eq_emod_of_nonneg h⟩
theorem within3 (i : Int) (hi : -9223372036854775808 ≤ i ∧ i ≤ 9223372036854775807) (w : World) : Calls Try.prog 5 #[.int .i64 i, .int .i64 3] w fun e w' => e = .returned (.int .i64 (inThree i)) ∧ w = w' := by
  have e0 : ((inThree i : Nat) : Int) = i % 3 := by unfold inThree; omega
  rw [e0]
  by_cases h : i.tmod 3 < 0
  · have e1 : i.tmod 3 + 3 = i % 3 := by have := tmod3 i; omega
    have e2 : -3 < i.tmod 3 := by have := tmod3 i; omega
    obtain ⟨y, hy⟩ : ∃ y, i.tmod 3 = y := ⟨_, rfl⟩
    rw [hy] at h e1 e2
    have HE : Hid (y + 3 = i % 3) := e1
    clear e1 e0
    go_enter Try.func5, Try.ntmps5
    go_wp2
    go_ret
    exact ⟨by rw [← HE.out]; rfl, rfl⟩
  · have e1 : i.tmod 3 = i % 3 := by have := tmod3 i; omega
    obtain ⟨y, hy⟩ : ∃ y, i.tmod 3 = y := ⟨_, rfl⟩
    rw [hy] at h e1
    have HE : Hid (y = i % 3) := e1
    clear e1 e0
    go_enter Try.func5, Try.ntmps5
    go_wp2
    go_ret
    exact ⟨by rw [← HE.out]; rfl, rfl⟩
theorem zeroArr : (Try.prog.info? 24).map (fun i => (i.zero, i.size)) = some (some (.agg #[.pointer none, .pointer none, .pointer none]), 3) := by kernel_rfl
theorem size_set (w : World) (p : Addr) (v : Value) : (w.setCell p v).heap.size = w.heap.size := by simp
def arrC (k : Nat) (f : Nat → Slot) : List Value := [if 0 < k then ptrTo (f 0) else .pointer none, if 1 < k then ptrTo (f 1) else .pointer none, if 2 < k then ptrTo (f 2) else .pointer none]
/-- The first k of the three, just made. -/
structure Part (w : World) (B A k : Nat) (f : Nat → Slot) : Prop where
  arr : Blk w A 24 (arrC k f)
  pair : ∀ i, i < k → PairAt w (f i).P (f i).h (f i).key (f i).so (f i).c (f i).st ∧ (f i).st = some []
  apart : ∀ i j, i < k → j < k → i ≠ j → (f i).P ≠ (f j).P ∧ (f i).h ≠ (f j).h
  from1 : ∀ i, i < k → B ≤ (f i).P ∧ B ≤ (f i).h
  from2 : B ≤ A
theorem arrC_set (k : Nat) (f : Nat → Slot) (s : Slot) (hk : k < 3) : (arrC k f).set k (ptrTo s) = arrC (k + 1) (fun j => if j = k then s else f j) := by
  obtain rfl | rfl | rfl : k = 0 ∨ k = 1 ∨ k = 2 := by omega
  · rfl
  · rfl
  · rfl
theorem arrC_at (k : Nat) (f : Nat → Slot) (hk : k < 3) : (arrC k f)[k]? = some (.pointer none) := by
  obtain rfl | rfl | rfl : k = 0 ∨ k = 1 ∨ k = 2 := by omega
  · rfl
  · rfl
  · rfl
theorem Part.add {w w3 W : World} {B A k : Nat} {f : Nat → Slot} (T : Part w B A k f) (hk : k < 3) (hB : B ≤ w.heap.size) (l : Below w.heap.size w w3) (s : Slot) (hs : s.st = some []) (t : TypeId) (vs : List Value) (hb : Blk w3 s.P t vs) (ht : t ≠ 5) (hta : t ≠ 24) (KW : Kept (fun b => b = s.P) (w3.setCell ⟨A, k, none⟩ (ptrTo s)) W) (hp : PairAt W s.P s.h s.key s.so s.c s.st) (hP : w.heap.size ≤ s.P) (hh : w.heap.size ≤ s.h) :
    Part W B A (k + 1) (fun j => if j = k then s else f j) := by
  have K := (Kept.refl (fun b => b = A) w3).setCell (p := ⟨A, k, none⟩) rfl (ptrTo s)
  have A3 := T.arr.later l T.arr.lt
  have hAP : s.P ≠ A := blk_ne hb A3 hta
  have hb2 : Blk (w3.setCell ⟨A, k, none⟩ (ptrTo s)) s.P t vs := hb.kept K hAP
  have hS : ∀ b, b = A → ∃ t vs, Blk w3 b t vs ∧ t ≠ 5 := fun b e => by subst e; exact ⟨_, _, A3, by decide⟩
  have hS2 : ∀ b, b = s.P → ∃ t vs, Blk (w3.setCell ⟨A, k, none⟩ (ptrTo s)) b t vs ∧ t ≠ 5 := fun b e => by subst e; exact ⟨_, _, hb2, ht⟩
  have lt : ∀ x, x < k → (f x).P < w.heap.size ∧ (f x).h < w.heap.size := fun x hx => ⟨(T.pair x hx).1.blk.lt, ((T.pair x hx).1.held [] (T.pair x hx).2).1.lt⟩
  have keep : ∀ x, x < k → PairAt W (f x).P (f x).h (f x).key (f x).so (f x).c (f x).st := fun x hx => by
    have h1 := (T.pair x hx).1.grow l
    have h2 := h1.kept K (fun e => blk_ne h1.blk A3 (by decide) e) (fun h2 e => by obtain ⟨vs, hv⟩ := h1.hblk h2; exact blk_ne hv A3 (by decide) e) hS
    have := lt x hx
    exact h2.kept KW (fun e => by omega) (fun _ e => by omega) hS2
  refine ⟨by have := (A3.set k (ptrTo s)).kept KW (fun e => hAP e.symm); rwa [arrC_set k f s hk] at this, fun i hi => ?_, fun i j hi hj hij => ?_, fun i hi => ?_, T.from2⟩
  · by_cases e : i = k
    · subst e; simp only [if_true]; exact ⟨hp, hs⟩
    · simp only [if_neg e]
      exact ⟨keep i (by omega), (T.pair i (by omega)).2⟩
  · by_cases e : i = k
    · subst e; simp only [if_true, if_neg (Ne.symm hij)]; have := lt j (by omega); omega
    · by_cases e2 : j = k
      · subst e2; simp only [if_true, if_neg e]; have := lt i (by omega); omega
      · simp only [if_neg e, if_neg e2]; exact T.apart i j (by omega) (by omega) hij
  · by_cases e : i = k
    · subst e; simp only [if_true]; omega
    · simp only [if_neg e]; exact T.from1 i (by omega)
theorem Part.three {w : World} {B A : Nat} {f : Nat → Slot} (T : Part w B A 3 f) : Three w B A 0 f :=
  ⟨T.arr, fun i hi => (T.pair i hi).1, fun i j hi hj hij => (T.apart i j hi hj hij).1, fun i j hi hj hij _ _ => (T.apart i j hi hj hij).2, fun i hi m hm => by
    rw [(T.pair i hi).2] at hm; cases hm; exact Nat.le_refl _, fun i hi => ⟨(T.from1 i hi).1, fun _ => (T.from1 i hi).2⟩, T.from2⟩
theorem sizeOp : (Try.prog.info? 33).map (·.size) = some 35 := by kernel_rfl
theorem buildPair (w : World) : (Instr.build 30 #[]).run Try.prog w = .ok (.agg (pcC (.pointer none) (zs0 32) (.slice none 0 0) (.bool false)).toArray) w := by kernel_rfl
theorem buildKey (x : Int) (w : World) : (Instr.build 27 #[(0, .int .u8 x), (1, .int .u8 7)]).run Try.prog w = .ok (.agg (u8s (x :: 7 :: zs0 30)).toArray) w := by kernel_rfl
theorem buildOp3 (x : Int) (w : World) : (Instr.build 33 #[(0, .int .i64 3), (3, .agg (u8s (x :: 7 :: zs0 30)).toArray)]).run Try.prog w = .ok (.agg (opV 3 0 none 0 0 (x :: 7 :: zs0 30)).toArray) w := by kernel_rfl
theorem buildOp2 (w : World) : (Instr.build 33 #[(0, .int .i64 2)]).run Try.prog w = .ok (.agg (opV 2 0 none 0 0 (zs0 32)).toArray) w := by kernel_rfl
theorem key_ok (x : Int) (hx : 0 ≤ x ∧ x < 256) : (x :: 7 :: zs0 30).length = 32 ∧ Bytes (x :: 7 :: zs0 30) := ⟨rfl, fun z hz => by
  rcases List.mem_cons.1 hz with rfl | hz
  · exact hx
  · rcases List.mem_cons.1 hz with rfl | hz
    · decide
    · obtain ⟨_, rfl⟩ := List.mem_replicate.1 hz; decide⟩
theorem key_zero : (zs0 32).length = 32 ∧ Bytes (zs0 32) := ⟨rfl, fun z hz => by obtain ⟨_, rfl⟩ := List.mem_replicate.1 hz; decide⟩
theorem three_at {w : World} {B A N : Nat} {f : Nat → Slot} (T : Three w B A N f) (i : Nat) (hi : i < 3) : w.cell? ⟨A, i, none⟩ = some (ptrTo (f i)) := by
  rw [T.arr.cell]
  obtain rfl | rfl | rfl : i = 0 ∨ i = 1 ∨ i = 2 := by omega
  · rfl
  · rfl
  · rfl
theorem stepF_len (k : Int) (st : Option (List Int)) (zs : List Int) (N : Nat) (h : ∀ m, st = some m → m.length ≤ N) : ∀ m, stepF k st zs = some m → m.length ≤ N + zs.length := by
  intro m hm
  unfold stepF at hm
  split at hm
  · cases st with
    | none => cases hm
    | some x => cases hm; rw [List.length_append]; have := h x rfl; omega
  · split at hm
    · cases hm; simp
    · split at hm
      · cases hm
      · have := h m hm; omega
theorem three_grow {w w' : World} {B A N : Nat} {f : Nat → Slot} (T : Three w B A N f) (l : Below w.heap.size w w') : Three w' B A N f :=
  ⟨T.arr.later l T.arr.lt, fun i hi => (T.pair i hi).grow l, T.apart, T.hapart, T.cap, T.from1, T.from2⟩
/-- A look at one of the three: nothing that it holds changes. -/
theorem look {w : World} {B A N : Nat} {f : Nat → Slot} (T : Three w B A N f) (hB : B ≤ w.heap.size) (hN : N ≤ 1048576) (j : Nat) (hj : j < 3) :
    Calls Try.prog 4 #[ptrTo (f j), .agg (opV 2 0 none 0 0 (zs0 32)).toArray] w fun e w' => e = .returned (.bool true) ∧ (∃ f', Three w' B A N f') ∧ Below B w w' := by
  have e0 : stepF 2 (f j).st [] = (f j).st := rfl
  have L := stepped_any 2 0 none 0 [] (zs0 32) (f j).P (f j).h (f j).key (f j).so (f j).c (f j).st w (T.pair j hj) (Seen.empty _ _) (Nat.le_refl _) (by decide) key_zero.1 key_zero.2 (fun b' o' h0 e' hst => by cases h0) (fun m hm => by have := T.cap j hj m hm; show m.length + 0 ≤ _; omega)
  refine L.mono ?_
  rintro e w5 ⟨rfl, L5⟩
  rw [e0] at L5
  obtain ⟨s, _, _, T5⟩ := T.left hB j hj (f j).st N (Nat.le_refl _) (T.cap j hj) L5
  refine ⟨rfl, ⟨_, T5⟩, L5.kept.below hB (fun x hs => ?_)⟩
  have h1 := T.from1 j hj
  rcases hs with h2 | ⟨h2, h3⟩
  · omega
  · have := h1.2 h2; omega
set_option maxRecDepth 20000 in
set_option maxHeartbeats 4000000 in
theorem walk (ao : Option Addr) (n c : Nat) (its : List PItem) (w : World) (hx : SeenQ w ao n its) :
    Calls Try.prog 3 #[.slice ao n c] w fun e w' => e = .returned (.bool true) ∧ Below w.heap.size w w' := by
  have HX : Hid (SeenQ w ao n its) := hx
  have hn := hx.top
  clear hx
  go_enter Try.func3, Try.ntmps3
  go_wp2_with (refine wpList_alloc_new rfl 24 rfl 3 [.pointer none, .pointer none, .pointer none] zeroArr ?_; intro w1 b1 s1 l1)
  go_loopw [4] (fun i wr => ∃ (k : Nat) (f : Nat → Slot), k ≤ 3 ∧ i = .int .i64 k ∧ Part wr w.heap.size w.heap.size k f ∧ Below w.heap.size w wr) (fun i _ => 3 - (intOf i).toNat)
  case atStart => exact ⟨0, fun _ => ⟨0, 0, [], none, 0, none⟩, by omega, rfl, ⟨b1, fun i hi => by omega, fun i j hi => by omega, fun i hi => by omega, Nat.le_refl _⟩, l1⟩
  case round =>
    obtain ⟨k, f, hk, rfl, hT, hbel⟩ := hrel
    by_cases hlt : k < 3
    · have i1 : (0 : Int) ≤ (k : Int) := by omega
      have i2 : (k : Int) < (3 : Int) := by omega
      have Y0 : Hid (Part wr w.heap.size w.heap.size k f ∧ Below w.heap.size w wr) := ⟨hT, hbel⟩
      have qr := hbel.size
      have qA := hT.arr.lt
      obtain ⟨x, hx⟩ : ∃ x, IntKind.u8.wrap ((k : Int) + 1) = x := ⟨_, rfl⟩
      have HXB : Hid (0 ≤ x ∧ x < 256) := by rw [IntKind.wrap_u8] at hx; show _ ∧ _; omega
      clear hT hbel
      go_wp2_with (first | (refine wpList_build rfl 30 _ rfl #[] (by simp) _ (buildPair _) ?_) | (refine wpList_box_new rfl 30 _ rfl (pcC (.pointer none) (zs0 32) (.slice none 0 0) (.bool false)) rfl ?_; intro w3 b3 s3 l3; have a3 : w3.cell? ⟨w.heap.size, k, none⟩ = some (.pointer none) := ((Y0.out.1.arr.later l3 Y0.out.1.arr.lt).cell k).trans (arrC_at k f hlt); have f3 : w3.frozen? ⟨w.heap.size, k, none⟩ = false := (Y0.out.1.arr.later l3 Y0.out.1.arr.lt).frozen k) | ((try rw [hx]); refine wpList_build rfl 27 _ rfl #[(0, .int .u8 x), (1, .int .u8 7)] (by rfl) _ (buildKey x _) ?_) | (refine wpList_build rfl 33 _ rfl #[(0, .int .i64 3), (3, .agg (u8s (x :: 7 :: zs0 30)).toArray)] (by rfl) _ (buildOp3 x _) ?_) | (go_at_call 4; refine (stepped_3 0 none 0 0 (x :: 7 :: zs0 30) wr.heap.size (zs0 32) (.pointer none) (.slice none 0 0) (.bool false) _ (b3.kept ((Kept.refl (fun b => b = w.heap.size) w3).setCell (p := ⟨w.heap.size, k, none⟩) rfl _) (by omega)) key_zero.1 (key_ok x HXB.out).1 (key_ok x HXB.out).2).mono ?_; rintro e w5 ⟨rfl, ⟨g, hg, hlg⟩, k5⟩))
      refine ⟨⟨k + 1, _, by omega, by go_num, Y0.out.1.add hlt qr l3 ⟨wr.heap.size, g, x :: 7 :: zs0 30, none, 0, some []⟩ rfl _ _ b3 (by decide) (by decide) k5 hg (Nat.le_refl _) (by rw [size_set] at hlg; have := l3.size; show wr.heap.size ≤ g; omega), below_kept (below_kept (below_chain Y0.out.2 l3 qr) ((Kept.refl _ _).setCell (S := fun b => b = w.heap.size) rfl _) (by have := l3.size; omega) (fun j hj => by omega)) k5 (by rw [size_set]; have := l3.size; omega) (fun j hj => by omega)⟩, by simp [intOf]; omega⟩
    · obtain rfl : k = 3 := by omega
      have e3 : ((3 : Nat) : Int) = 3 := rfl
      rw [e3]
      clear e3
      have Y0 : Hid (Three wr w.heap.size w.heap.size 0 f ∧ Below w.heap.size w wr) := ⟨hT.three, hbel⟩
      clear hT hbel
      go_wp2
      go_loopw [5] (fun i wr => ∃ (k : Nat) (f : Nat → Slot), k ≤ n ∧ i = .int .i64 k ∧ Three wr w.heap.size w.heap.size (dats its k).length f ∧ Below w.heap.size w wr) (fun i _ => n - (intOf i).toNat)
      case atStart => exact ⟨0, f, Nat.zero_le _, rfl, Y0.out.1, Y0.out.2⟩
      case round =>
        clear Y0 f
        obtain ⟨k, f, hk, rfl, hT, hbel⟩ := hrel
        by_cases hlt : k < n
        · obtain ⟨b, o, so, cs, rfl, hb, hR0, hs0, hc⟩ := HX.out.cells k hlt
          have hwf := HX.out.wf k hlt
          have hd := dats_succ its k (by rw [HX.out.len]; exact hlt)
          have hd2 : (dats its (k + 1)).length ≤ 1048576 := by have := dats_le its (k + 1); have := HX.out.all; rw [← HX.out.len] at this; omega
          obtain ⟨it, hit⟩ : ∃ it, pAt its k = it := ⟨_, rfl⟩
          rw [hit] at hR0 hs0 hc hwf hd
          clear hit
          obtain ⟨ki, ai, zs, ky⟩ := it
          simp only at hR0 hs0 hc hwf hd
          have i1 : (0 : Int) ≤ (k : Int) := by omega
          have i2 : (k : Int) < (n : Int) := by omega
          have hR : ∀ W, Below wr.heap.size wr W → W.rangeAt b (o + k * 35) (opV ki ai so zs.length cs ky) := fun W hW j v hv => (World.cell?_of_block (w := w) (a := ⟨b, o + k * 35 + j, none⟩) ((hW.block b (Nat.lt_of_lt_of_le hb hbel.size)).trans (hbel.block b hb))).trans (hR0 j v hv)
          have qr := hbel.size
          obtain ⟨i, hi⟩ : ∃ i, inThree ai = i := ⟨_, rfl⟩
          have hi3 : i < 3 := by rw [← hi]; exact inThree_lt _
          have j1 : (0 : Int) ≤ (i : Int) := by omega
          have j2 : (i : Int) < (3 : Int) := by omega
          have Y1 : Hid (Three wr w.heap.size w.heap.size (dats its k).length f ∧ Below w.heap.size w wr ∧ True ∧ Seen w so zs.length zs ∧ zs.length ≤ cs ∧ Int64 ai ∧ inThree ai = i) := ⟨hT, hbel, trivial, hs0, hc, hwf.1, hi⟩
          have HR : Hid (∀ W, Below wr.heap.size wr W → W.rangeAt b (o + k * 35) (opV ki ai so zs.length cs ky)) := hR
          have HKY : Hid (ky.length = 32 ∧ Bytes ky) := hwf.2
          have HU : Hid ((Try.prog.info? 33).map (·.size) = some (opV ki ai so zs.length cs ky).length) := by show _ = _; rw [sizeOp]; simp [opV, u8s_length, hwf.2.1]
          have HD : Hid ((dats its (k + 1)).length = (dats its k).length + zs.length ∧ (dats its (k + 1)).length ≤ 1048576) := ⟨hd, hd2⟩
          clear hT hbel hR0 hR hs0 hc hwf hd hd2 hi
          go_wp2
          refine region_invP 12 ((.val (.slice (some ⟨b, o, none⟩) n c)) :: (.val (.int .i64 (k : Int))) :: (.val (.pointer (some ⟨b, o + k * 35, none⟩))) :: (.val (.pointer (some ⟨b, o + k * 35 + 1, none⟩))) :: (.val (.int .i64 ai)) :: (.val (.int .i64 (i : Int))) :: (.val (.pointer (some ⟨w.heap.size, i, none⟩))) :: (.val (ptrTo (f i))) :: (.val (.slice (some ⟨b, o, none⟩) n c)) :: (.val (.int .i64 (k : Int))) :: (.val (.pointer (some ⟨b, o + k * 35, none⟩))) :: (.val (.agg (opV ki ai so zs.length cs ky).toArray)) :: []) (by kernel_rfl) (by kernel_rfl) (by kernel_rfl) [] ⟨.inl rfl, .inl rfl, .inl rfl, .inl rfl, .inl rfl, .inl rfl, .inl rfl, .inl rfl, .inl rfl, .inl rfl, .inl rfl, .inl rfl, trivial⟩ (by kernel_rfl) ?_ ?_
          · refine Steps'.cons ?_ (Steps'.cons ?_ (Steps'.cons ?_ (Steps'.cons ?_ (Steps'.cons ?_ (Steps'.cons ?_ (Steps'.cons ?_ (Steps'.cons ?_ (Steps'.cons ?_ (Steps'.cons ?_ (Steps'.cons ?_ (Steps'.cons ?_ (Steps'.one _ _ _ _ _ _ _))))))))))))
            · intro ax wx hb hs hd
              have h0 : ax.tmps.getD 0 undef = (.slice (some ⟨b, o, none⟩) n c) := hs 0 (by kernel_rfl)
              refine Does.value (.slice (some ⟨b, o, none⟩) n c) ?_ rfl
              clear hs hd
              go_simp
            · intro ax wx hb hs hd
              have h5 : ax.tmps.getD 5 undef = (.int .i64 (k : Int)) := hs 5 (by kernel_rfl)
              refine Does.value (.int .i64 (k : Int)) ?_ rfl
              clear hs hd
              go_simp
            · intro ax wx hb hs hd
              have h31 : ax.tmps.getD 31 undef = (.slice (some ⟨b, o, none⟩) n c) := hd 0 31 rfl (by kernel_rfl) (by decide)
              have h32 : ax.tmps.getD 32 undef = (.int .i64 (k : Int)) := hd 1 32 rfl (by kernel_rfl) (by decide)
              refine Does.value (.pointer (some ⟨b, o + k * 35, none⟩)) ?_ rfl
              clear hs hd
              go_simp
            · intro ax wx hb hs hd
              have h33 : ax.tmps.getD 33 undef = (.pointer (some ⟨b, o + k * 35, none⟩)) := hd 2 33 rfl (by kernel_rfl) (by decide)
              refine Does.value (.pointer (some ⟨b, o + k * 35 + 1, none⟩)) ?_ rfl
              clear hs hd
              go_simp
            · intro ax wx hb hs hd
              have h34 : ax.tmps.getD 34 undef = (.pointer (some ⟨b, o + k * 35 + 1, none⟩)) := hd 3 34 rfl (by kernel_rfl) (by decide)
              have hc1 : wx.cell? ⟨b, o + k * 35 + 1, none⟩ = some (.int .i64 ai) := (HR.out wx hb) 1 _ rfl
              refine Does.value (.int .i64 ai) ?_ rfl
              clear hs hd
              go_simp
            · intro ax wx hb hs hd
              have h35 : ax.tmps.getD 35 undef = (.int .i64 ai) := hd 4 35 rfl (by kernel_rfl) (by decide)
              refine Does.call 5 #[.int .i64 ai, .int .i64 3] (by clear hs hd; go_simp) ?_
              refine (within3 ai Y1.out.2.2.2.2.2.1 wx).mono ?_
              rintro e w4 ⟨rfl, rfl⟩
              rw [Y1.out.2.2.2.2.2.2]
              exact ⟨_, rfl, rfl, Below.refl _ _⟩
            · intro ax wx hb hs hd
              have h3 : ax.tmps.getD 3 undef = (.pointer (some ⟨w.heap.size, 0, none⟩)) := hs 3 (by kernel_rfl)
              have h36 : ax.tmps.getD 36 undef = (.int .i64 (i : Int)) := hd 5 36 rfl (by kernel_rfl) (by decide)
              refine Does.value (.pointer (some ⟨w.heap.size, i, none⟩)) ?_ rfl
              clear hs hd
              go_simp
            · intro ax wx hb hs hd
              have h37 : ax.tmps.getD 37 undef = (.pointer (some ⟨w.heap.size, i, none⟩)) := hd 6 37 rfl (by kernel_rfl) (by decide)
              have hc2 := three_at (three_grow Y1.out.1 hb) i hi3
              obtain ⟨pp, hpp⟩ : ∃ pp, ptrTo (f i) = pp := ⟨_, rfl⟩
              rw [hpp] at hc2 ⊢
              clear hpp
              refine Does.value pp ?_ rfl
              clear hs hd
              go_simp
            · intro ax wx hb hs hd
              have h0 : ax.tmps.getD 0 undef = (.slice (some ⟨b, o, none⟩) n c) := hs 0 (by kernel_rfl)
              refine Does.value (.slice (some ⟨b, o, none⟩) n c) ?_ rfl
              clear hs hd
              go_simp
            · intro ax wx hb hs hd
              have h5 : ax.tmps.getD 5 undef = (.int .i64 (k : Int)) := hs 5 (by kernel_rfl)
              refine Does.value (.int .i64 (k : Int)) ?_ rfl
              clear hs hd
              go_simp
            · intro ax wx hb hs hd
              have h39 : ax.tmps.getD 39 undef = (.slice (some ⟨b, o, none⟩) n c) := hd 8 39 rfl (by kernel_rfl) (by decide)
              have h40 : ax.tmps.getD 40 undef = (.int .i64 (k : Int)) := hd 9 40 rfl (by kernel_rfl) (by decide)
              refine Does.value (.pointer (some ⟨b, o + k * 35, none⟩)) ?_ rfl
              clear hs hd
              go_simp
            · intro ax wx hb hs hd
              have h41 : ax.tmps.getD 41 undef = (.pointer (some ⟨b, o + k * 35, none⟩)) := hd 10 41 rfl (by kernel_rfl) (by decide)
              exact Does.load 33 (.tmp 41) rfl b (o + k * 35) h41 (opV ki ai so zs.length cs ky) _ (HR.out wx hb) Try.underlying33 rfl HU.out
          · intro wx hb
            refine @EndsP.val _ _ _ _ _ _ _ _ (.slice (some ⟨b, o, none⟩) n c) rfl ?_
            refine @EndsP.val _ _ _ _ _ _ _ _ (.int .i64 (k : Int)) rfl ?_
            refine @EndsP.val _ _ _ _ _ _ _ _ (.pointer (some ⟨b, o + k * 35, none⟩)) rfl ?_
            refine @EndsP.val _ _ _ _ _ _ _ _ (.pointer (some ⟨b, o + k * 35 + 1, none⟩)) rfl ?_
            refine @EndsP.val _ _ _ _ _ _ _ _ (.int .i64 ai) rfl ?_
            refine @EndsP.val _ _ _ _ _ _ _ _ (.int .i64 (i : Int)) rfl ?_
            refine @EndsP.val _ _ _ _ _ _ _ _ (.pointer (some ⟨w.heap.size, i, none⟩)) rfl ?_
            refine @EndsP.val _ _ _ _ _ _ _ _ (ptrTo (f i)) rfl ?_
            refine @EndsP.val _ _ _ _ _ _ _ _ (.slice (some ⟨b, o, none⟩) n c) rfl ?_
            refine @EndsP.val _ _ _ _ _ _ _ _ (.int .i64 (k : Int)) rfl ?_
            refine @EndsP.val _ _ _ _ _ _ _ _ (.pointer (some ⟨b, o + k * 35, none⟩)) rfl ?_
            refine @EndsP.val _ _ _ _ _ _ _ _ (.agg (opV ki ai so zs.length cs ky).toArray) rfl ?_
            intro hD nf hn
            obtain ⟨mf, rfl⟩ : ∃ mf, nf = mf + 2 := ⟨nf - 2, by have h3 : 2 ≤ nf := hn; omega⟩
            clear hD hn
            simp only [Act.put, List.setIfInBounds_toArray, List.set_cons_zero, List.set_cons_succ]
            have W3 : Hid (Three wx w.heap.size w.heap.size (dats its k).length f ∧ Below wr.heap.size wr wx) := ⟨three_grow Y1.out.1 hb, hb⟩
            clear hb
            refine wpAny_ready (rs := [12]) (by kernel_rfl) (by simp) (AllReady.cons rfl (fun K hK => ?_) AllReady.nil)
            go_simp
            go_wp2_with (go_at_call 4; refine (stepped_any ki ai so cs zs ky (f i).P (f i).h (f i).key (f i).so (f i).c (f i).st wx (W3.out.1.pair i hi3) ((Y1.out.2.2.2.1.later Y1.out.2.1 (Nat.le_refl _)).later W3.out.2 (Nat.le_refl _)) Y1.out.2.2.2.2.1 (by have := HD.out; omega) HKY.out.1 HKY.out.2 (fun b' o' h0 e' hst => by have := Y1.out.2.2.2.1.old (Nat.le_refl _) b' o' h0 e'; have := (W3.out.1.from1 i hi3).2 hst; omega) (fun m hm => by have := W3.out.1.cap i hi3 m hm; have := HD.out; omega)).mono ?_; rintro e w5 ⟨rfl, L5⟩)
            refine take_op 13 (some 44) (.bool false) rfl rfl (by kernel_rfl) (by kernel_rfl) (by kernel_rfl) (fun _ _ _ h => h) (by rfl) (fun _ => by rfl) ?_
            simp only [Act.put, List.setIfInBounds_toArray, List.set_cons_zero, List.set_cons_succ]
            refine wpAny_done (by kernel_rfl) (NoPanic.normal ?_) _
            go_wp2
            have hN : ∀ m, (f i).st = some m → m.length ≤ (dats its k).length := W3.out.1.cap i hi3
            obtain ⟨s, _, _, T5⟩ := W3.out.1.left (by have := W3.out.2.size; omega) i hi3 (stepF ki (f i).st zs) (dats its (k + 1)).length (by have := HD.out.1; omega) (by rw [HD.out.1]; exact stepF_len ki _ zs _ hN) L5
            refine ⟨⟨k + 1, _, by omega, by go_num, T5, below_kept (below_chain Y1.out.2.1 W3.out.2 qr) L5.kept (by have := W3.out.2.size; omega) (fun j hj hs => ?_)⟩, by simp [intOf]; omega⟩
            have := W3.out.1.from1 i hi3
            rcases hs with h1 | ⟨h1, h2⟩
            · omega
            · have := this.2 h1; omega
        · obtain rfl : k = n := by omega
          have Y1 : Hid (Three wr w.heap.size w.heap.size (dats its k).length f ∧ Below w.heap.size w wr) := ⟨hT, hbel⟩
          clear hT hbel
          have HN : Hid ((dats its k).length ≤ 1048576) := HX.out.all
          go_wp2
          go_loopw [6] (fun i wr => ∃ (j : Nat) (f : Nat → Slot), j ≤ 3 ∧ i = .int .i64 j ∧ Three wr w.heap.size w.heap.size (dats its k).length f ∧ Below w.heap.size w wr) (fun i _ => 3 - (intOf i).toNat)
          case atStart => exact ⟨0, f, Nat.zero_le _, rfl, Y1.out.1, Y1.out.2⟩
          case round =>
            clear Y1 f
            obtain ⟨j, f, hj, rfl, hT, hbel⟩ := hrel
            by_cases hl3 : j < 3
            · have Y1 : Hid (Three wr w.heap.size w.heap.size (dats its k).length f ∧ Below w.heap.size w wr) := ⟨hT, hbel⟩
              have qr := hbel.size
              have j1 : (0 : Int) ≤ (j : Int) := by omega
              have j2 : (j : Int) < (3 : Int) := by omega
              have cA := three_at hT j hl3
              clear hT hbel
              go_wp2_with (first | (refine wpList_build rfl 33 _ rfl #[(0, .int .i64 2)] (by rfl) _ (buildOp2 _) ?_) | (go_at_call 4; refine (look Y1.out.1 qr HN.out j hl3).mono ?_; rintro e w5 ⟨rfl, ⟨f5, T5⟩, B5⟩))
              exact ⟨⟨j + 1, f5, by omega, by go_num, T5, below_chain Y1.out.2 B5 (Nat.le_refl _)⟩, by simp [intOf]; omega⟩
            · obtain rfl : j = 3 := by omega
              have Y1 : Hid (Below w.heap.size w wr) := hbel
              clear hT hbel
              go_wp2_with (go_at_call 6; refine (works_any _).mono ?_; rintro e w7 ⟨rfl, l7⟩)
              go_ret
              exact ⟨rfl, below_chain Y1.out l7 Y1.out.size⟩
end Go.Proofs.Ytlaegbabpiepeaa.tagPlays
