/- The walk of StreamPlays. -/
import Derived.Test.YtpjnimmclncdoaaSPlC
import Derived.Test.YtpjnimmclncdoaaRInvGT
import Derived.Test.YtpjnimmclncdoaaFLast
namespace Go.Proofs.Ytpjnimmclncdoaa
open Go.RowKit
set_option linter.unusedVariables false
set_option linter.unusedSimpArgs false

structure Itm where
  d : Int
  n : Int
  data : List Int
instance : Inhabited Itm := ⟨⟨0, 0, []⟩⟩
abbrev imAt (its : List Itm) (i : Nat) : Itm := its.getD i default
/-- A slice at ao of n steps, which are its. -/
structure SeenT (w : World) (ao : Option Addr) (n : Nat) (its : List Itm) : Prop where
  top : n ≤ 140737488355328
  cells : ∀ i, i < n → ∃ b o so cs, ao = some ⟨b, o, none⟩ ∧ b < w.heap.size ∧ w.cell? ⟨b, o + i * 3, none⟩ = some (.int .i64 (imAt its i).d) ∧ w.cell? ⟨b, o + i * 3 + 1, none⟩ = some (.int .i64 (imAt its i).n) ∧
    w.cell? ⟨b, o + i * 3 + 2, none⟩ = some (.slice so (imAt its i).data.length cs) ∧ Seen w so (imAt its i).data.length (imAt its i).data ∧ (so = none → cs = 0)
  wf : ∀ i, i < n → (-9223372036854775808 ≤ (imAt its i).n ∧ (imAt its i).n < 9223372036854775808) ∧ (imAt its i).data.length ≤ 140737488351232
theorem SeenT.later {w w' : World} {ao : Option Addr} {n : Nat} {its : List Itm} (h : SeenT w ao n its) (hb : Below w.heap.size w w') : SeenT w' ao n its :=
  ⟨h.top, fun i hi => by
    obtain ⟨b, o, so, cs, e, hlt, h0, h1, h2, hs, hc⟩ := h.cells i hi
    exact ⟨b, o, so, cs, e, Nat.lt_of_lt_of_le hlt hb.size, (hb.cell (p := ⟨b, o + i * 3, none⟩) hlt).trans h0, (hb.cell (p := ⟨b, o + i * 3 + 1, none⟩) hlt).trans h1, (hb.cell (p := ⟨b, o + i * 3 + 2, none⟩) hlt).trans h2, hs.later hb (Nat.le_refl _), hc⟩, h.wf⟩
structure Tw where
  K1 : List Int
  N1 : List Int
  c1 : Nat
  K2 : List Int
  N2 : List Int
  c2 : Nat
  s1 : Option Addr
  m1 : Nat
  j1 : Nat
  i1 : List Itm
  s2 : Option Addr
  m2 : Nat
  j2 : Nat
  i2 : List Itm
def twC (x : Tw) : List Value := u8s x.K1 ++ (u8s x.N1 ++ ([Value.int .u32 x.c1] ++ (u8s x.K2 ++ (u8s x.N2 ++ [Value.int .u32 x.c2, .slice x.s1 x.m1 x.j1, .slice x.s2 x.m2 x.j2]))))
structure TwIn (w : World) (x : Tw) : Prop where
  k1 : x.K1.length = 32
  n1 : x.N1.length = 12
  k2 : x.K2.length = 32
  n2 : x.N2.length = 12
  kb1 : Bytes x.K1
  nb1 : Bytes x.N1
  kb2 : Bytes x.K2
  nb2 : Bytes x.N2
  t1 : x.c1 < 4294967296
  t2 : x.c2 < 4294967296
  s1 : SeenT w x.s1 x.m1 x.i1
  s2 : SeenT w x.s2 x.m2 x.i2
theorem get_app {A B : List Value} {n : Nat} (hn : A.length = n) (j : Nat) : (A ++ B)[n + j]? = B[j]? := by
  rw [List.getElem?_append_right (by omega)]; congr 1; omega
/-- What is read of what came in. -/
structure TS (G : Nat) (x : Tw) (W : World) : Prop where
  a : W.rangeAt G 0 (u8s x.K1)
  b : W.rangeAt G 32 (u8s x.N1)
  c : W.cell? ⟨G, 44, none⟩ = some (.int .u32 x.c1)
  d : W.rangeAt G 45 (u8s x.K2)
  e : W.rangeAt G 77 (u8s x.N2)
  f : W.cell? ⟨G, 89, none⟩ = some (.int .u32 x.c2)
  g : W.cell? ⟨G, 90, none⟩ = some (.slice x.s1 x.m1 x.j1)
  h : W.cell? ⟨G, 91, none⟩ = some (.slice x.s2 x.m2 x.j2)
theorem ts_of {G : Nat} {x : Tw} {W : World} (hb : Blk W G 31 (twC x)) (h1 : x.K1.length = 32) (h2 : x.N1.length = 12) (h3 : x.K2.length = 32) (h4 : x.N2.length = 12) : TS G x W := by
  have l1 : (u8s x.K1).length = 32 := by rw [u8s_length, h1]
  have l2 : (u8s x.N1).length = 12 := by rw [u8s_length, h2]
  have l3 : (u8s x.K2).length = 32 := by rw [u8s_length, h3]
  have l4 : (u8s x.N2).length = 12 := by rw [u8s_length, h4]
  have l0 : [Value.int .u32 (x.c1 : Int)].length = 1 := rfl
  refine ⟨?_, ?_, ?_, ?_, ?_, ?_, ?_, ?_⟩
  · have := Blk.range (xs := []) (ys := u8s x.K1) hb
    simpa using this
  · have := Blk.range (xs := u8s x.K1) (ys := u8s x.N1) hb
    rwa [l1] at this
  · rw [hb.cell, twC, show (44 : Nat) = 32 + 12 from rfl, get_app l1, show (12 : Nat) = 12 + 0 from rfl, get_app l2]; rfl
  · have hb' : Blk W G 31 ((u8s x.K1 ++ (u8s x.N1 ++ [Value.int .u32 x.c1])) ++ (u8s x.K2 ++ (u8s x.N2 ++ [Value.int .u32 x.c2, .slice x.s1 x.m1 x.j1, .slice x.s2 x.m2 x.j2]))) := by
      simpa only [twC, List.append_assoc] using hb
    have := Blk.range hb'
    rwa [show (u8s x.K1 ++ (u8s x.N1 ++ [Value.int .u32 (x.c1 : Int)])).length = 45 by rw [List.length_append, List.length_append, l1, l2]; rfl] at this
  · have hb' : Blk W G 31 ((u8s x.K1 ++ (u8s x.N1 ++ ([Value.int .u32 x.c1] ++ u8s x.K2))) ++ (u8s x.N2 ++ [Value.int .u32 x.c2, .slice x.s1 x.m1 x.j1, .slice x.s2 x.m2 x.j2])) := by
      simpa only [twC, List.append_assoc] using hb
    have := Blk.range hb'
    rwa [show (u8s x.K1 ++ (u8s x.N1 ++ ([Value.int .u32 (x.c1 : Int)] ++ u8s x.K2))).length = 77 by rw [List.length_append, List.length_append, List.length_append, l1, l2, l3]; rfl] at this
  · rw [hb.cell, twC, show (89 : Nat) = 32 + 57 from rfl, get_app l1, show (57 : Nat) = 12 + 45 from rfl, get_app l2, show (45 : Nat) = 1 + 44 from rfl, get_app l0, show (44 : Nat) = 32 + 12 from rfl, get_app l3, show (12 : Nat) = 12 + 0 from rfl, get_app l4]; rfl
  · rw [hb.cell, twC, show (90 : Nat) = 32 + 58 from rfl, get_app l1, show (58 : Nat) = 12 + 46 from rfl, get_app l2, show (46 : Nat) = 1 + 45 from rfl, get_app l0, show (45 : Nat) = 32 + 13 from rfl, get_app l3, show (13 : Nat) = 12 + 1 from rfl, get_app l4]; rfl
  · rw [hb.cell, twC, show (91 : Nat) = 32 + 59 from rfl, get_app l1, show (59 : Nat) = 12 + 47 from rfl, get_app l2, show (47 : Nat) = 1 + 46 from rfl, get_app l0, show (46 : Nat) = 32 + 14 from rfl, get_app l3, show (14 : Nat) = 12 + 2 from rfl, get_app l4]; rfl
/-- What stands: both pairs, and what came in. -/
structure Fp (w W : World) (g t q u : Nat) (x : Tw) (Pa Pb : Nat) : Prop where
  one : Pr W g q x.K1 x.N1 Pa
  two : Pr W t u x.K2 x.N2 Pb
  bel : Below w.heap.size w W
  blk : Blk W w.heap.size 31 (twC x)
theorem Fp.later {w W W' : World} {g t q u : Nat} {x : Tw} {Pa Pb : Nat} (h : Fp w W g t q u x Pa Pb) (l : Below W.heap.size W W') : Fp w W' g t q u x Pa Pb := ⟨h.one.later l, h.two.later l, below_chain h.bel l h.bel.size, h.blk.later l h.blk.lt⟩
set_option maxRecDepth 20000 in
set_option maxHeartbeats 4000000 in
theorem streamPlays.walk (x : Tw) (w : World) (h : TwIn w x) : Calls Try.prog 3 #[.agg (twC x).toArray] w fun e w' => e = .returned (.bool true) ∧ Below w.heap.size w w' := by
  have HI : Hid (TwIn w x) := h
  have M1 := h.s1.top
  have M2 := h.s2.top
  clear h
  have UK : Hid ((Try.prog.info? 23).map (·.size) = some (u8s x.K1).length ∧ (Try.prog.info? 25).map (·.size) = some (u8s x.N1).length ∧ (Try.prog.info? 23).map (·.size) = some (u8s x.K2).length ∧ (Try.prog.info? 25).map (·.size) = some (u8s x.N2).length) := by
    have h := HI.out
    exact ⟨by rw [u8s_length, h.k1]; exact sizeKey, by rw [u8s_length, h.n1]; exact sizeNonce, by rw [u8s_length, h.k2]; exact sizeKey, by rw [u8s_length, h.n2]; exact sizeNonce⟩
  have HT : Hid (∀ W, Blk W w.heap.size 31 (twC x) → TS w.heap.size x W) := fun W hb => ts_of hb HI.out.k1 HI.out.n1 HI.out.k2 HI.out.n2
  go_enter Try.func3, Try.ntmps3
  go_wp2_with (first | (refine wpList_box_new rfl 31 _ rfl (twC x) rfl ?_; intro w1 b1 s1 l1))
  have H1 : Hid (Blk w1 w.heap.size 31 (twC x) ∧ Below w.heap.size w w1 ∧ w1.heap.size = w.heap.size + 1) := ⟨b1, l1, s1⟩
  clear b1 s1 l1
  refine wp_region_noPanic (till_region 21 (TS w.heap.size x) (by kernel_rfl) ?_)
  obtain ⟨w2a, hw2⟩ : ∃ q, ({ heap := w1.heap, tape := w1.tape, drawn := w1.drawn + 1, os := w1.os, output := w1.output } : World) = q := ⟨_, rfl⟩
  have L2a : Hid (Below w1.heap.size w1 w2a) := by rw [← hw2]; exact ⟨rfl, rfl, rfl, Nat.le_refl _, fun _ _ => rfl⟩
  rw [hw2]
  clear hw2
  have B2a : Hid (Blk w2a w.heap.size 31 (twC x)) := H1.out.1.later L2a.out H1.out.1.lt
  have hS := HT.out _ B2a.out
  refine tTake 0 (some 8) (.pointer (some ⟨w.heap.size, 0, none⟩)) rfl rfl (by kernel_rfl) (by kernel_rfl) (by kernel_rfl) (by decide) (fun _ _ _ h => h) (by rfl) (fun W' => by go_simp) hS ?_
  simp only [Act.put, List.setIfInBounds_toArray, List.set_cons_zero, List.set_cons_succ]
  refine tTake 1 (some 9) (.pointer (some ⟨w.heap.size, 0, none⟩)) rfl rfl (by kernel_rfl) (by kernel_rfl) (by kernel_rfl) (by decide) (fun _ _ _ h => h) (by rfl) (fun W' => by go_simp) hS ?_
  simp only [Act.put, List.setIfInBounds_toArray, List.set_cons_zero, List.set_cons_succ]
  refine tLoadMid 2 (some 10) (u8s x.K1) rfl rfl (by kernel_rfl) (by kernel_rfl) (by kernel_rfl) (by decide) (by kernel_rfl) (by kernel_rfl) (fun _ _ _ h => h) (by rfl) 23 (.tmp 9) rfl w.heap.size 0 rfl _ (fun _ h => h.a) Try.underlying23 rfl UK.out.1 hS ?_
  simp only [Act.put, List.setIfInBounds_toArray, List.set_cons_zero, List.set_cons_succ]
  refine tTake 3 (some 11) (.pointer (some ⟨w.heap.size, 0, none⟩)) rfl rfl (by kernel_rfl) (by kernel_rfl) (by kernel_rfl) (by decide) (fun _ _ _ h => h) (by rfl) (fun W' => by go_simp) hS ?_
  simp only [Act.put, List.setIfInBounds_toArray, List.set_cons_zero, List.set_cons_succ]
  refine tTake 4 (some 12) (.pointer (some ⟨w.heap.size, 32, none⟩)) rfl rfl (by kernel_rfl) (by kernel_rfl) (by kernel_rfl) (by decide) (fun _ _ _ h => h) (by rfl) (fun W' => by go_simp) hS ?_
  simp only [Act.put, List.setIfInBounds_toArray, List.set_cons_zero, List.set_cons_succ]
  refine tLoadMid 5 (some 13) (u8s x.N1) rfl rfl (by kernel_rfl) (by kernel_rfl) (by kernel_rfl) (by decide) (by kernel_rfl) (by kernel_rfl) (fun _ _ _ h => h) (by rfl) 25 (.tmp 12) rfl w.heap.size 32 rfl _ (fun _ h => h.b) Try.underlying25 rfl UK.out.2.1 hS ?_
  simp only [Act.put, List.setIfInBounds_toArray, List.set_cons_zero, List.set_cons_succ]
  refine tTake 6 (some 14) (.pointer (some ⟨w.heap.size, 0, none⟩)) rfl rfl (by kernel_rfl) (by kernel_rfl) (by kernel_rfl) (by decide) (fun _ _ _ h => h) (by rfl) (fun W' => by go_simp) hS ?_
  simp only [Act.put, List.setIfInBounds_toArray, List.set_cons_zero, List.set_cons_succ]
  refine tTake 7 (some 15) (.pointer (some ⟨w.heap.size, 44, none⟩)) rfl rfl (by kernel_rfl) (by kernel_rfl) (by kernel_rfl) (by decide) (fun _ _ _ h => h) (by rfl) (fun W' => by go_simp) hS ?_
  simp only [Act.put, List.setIfInBounds_toArray, List.set_cons_zero, List.set_cons_succ]
  refine tLoad 8 (some 16) (.int .u32 (x.c1 : Int)) rfl rfl (by kernel_rfl) (by kernel_rfl) (by kernel_rfl) (by decide) (by kernel_rfl) (by kernel_rfl) (fun _ _ _ h => h) (by rfl) (fun W' hS' => by have s1 := hS'.c; go_simp) hS ?_
  simp only [Act.put, List.setIfInBounds_toArray, List.set_cons_zero, List.set_cons_succ]
  refine tTake 10 (some 18) (.pointer (some ⟨w.heap.size, 45, none⟩)) rfl rfl (by kernel_rfl) (by kernel_rfl) (by kernel_rfl) (by decide) (fun _ _ _ h => h) (by rfl) (fun W' => by go_simp) hS ?_
  simp only [Act.put, List.setIfInBounds_toArray, List.set_cons_zero, List.set_cons_succ]
  refine tTake 11 (some 19) (.pointer (some ⟨w.heap.size, 45, none⟩)) rfl rfl (by kernel_rfl) (by kernel_rfl) (by kernel_rfl) (by decide) (fun _ _ _ h => h) (by rfl) (fun W' => by go_simp) hS ?_
  simp only [Act.put, List.setIfInBounds_toArray, List.set_cons_zero, List.set_cons_succ]
  refine tLoadMid 12 (some 20) (u8s x.K2) rfl rfl (by kernel_rfl) (by kernel_rfl) (by kernel_rfl) (by decide) (by kernel_rfl) (by kernel_rfl) (fun _ _ _ h => h) (by rfl) 23 (.tmp 19) rfl w.heap.size 45 rfl _ (fun _ h => h.d) Try.underlying23 rfl UK.out.2.2.1 hS ?_
  simp only [Act.put, List.setIfInBounds_toArray, List.set_cons_zero, List.set_cons_succ]
  refine tTake 13 (some 21) (.pointer (some ⟨w.heap.size, 45, none⟩)) rfl rfl (by kernel_rfl) (by kernel_rfl) (by kernel_rfl) (by decide) (fun _ _ _ h => h) (by rfl) (fun W' => by go_simp) hS ?_
  simp only [Act.put, List.setIfInBounds_toArray, List.set_cons_zero, List.set_cons_succ]
  refine tTake 14 (some 22) (.pointer (some ⟨w.heap.size, 77, none⟩)) rfl rfl (by kernel_rfl) (by kernel_rfl) (by kernel_rfl) (by decide) (fun _ _ _ h => h) (by rfl) (fun W' => by go_simp) hS ?_
  simp only [Act.put, List.setIfInBounds_toArray, List.set_cons_zero, List.set_cons_succ]
  refine tLoadMid 15 (some 23) (u8s x.N2) rfl rfl (by kernel_rfl) (by kernel_rfl) (by kernel_rfl) (by decide) (by kernel_rfl) (by kernel_rfl) (fun _ _ _ h => h) (by rfl) 25 (.tmp 22) rfl w.heap.size 77 rfl _ (fun _ h => h.e) Try.underlying25 rfl UK.out.2.2.2 hS ?_
  simp only [Act.put, List.setIfInBounds_toArray, List.set_cons_zero, List.set_cons_succ]
  refine tTake 16 (some 24) (.pointer (some ⟨w.heap.size, 45, none⟩)) rfl rfl (by kernel_rfl) (by kernel_rfl) (by kernel_rfl) (by decide) (fun _ _ _ h => h) (by rfl) (fun W' => by go_simp) hS ?_
  simp only [Act.put, List.setIfInBounds_toArray, List.set_cons_zero, List.set_cons_succ]
  refine tTake 17 (some 25) (.pointer (some ⟨w.heap.size, 89, none⟩)) rfl rfl (by kernel_rfl) (by kernel_rfl) (by kernel_rfl) (by decide) (fun _ _ _ h => h) (by rfl) (fun W' => by go_simp) hS ?_
  simp only [Act.put, List.setIfInBounds_toArray, List.set_cons_zero, List.set_cons_succ]
  refine tLoad 18 (some 26) (.int .u32 (x.c2 : Int)) rfl rfl (by kernel_rfl) (by kernel_rfl) (by kernel_rfl) (by decide) (by kernel_rfl) (by kernel_rfl) (fun _ _ _ h => h) (by rfl) (fun W' hS' => by have s1 := hS'.f; go_simp) hS ?_
  simp only [Act.put, List.setIfInBounds_toArray, List.set_cons_zero, List.set_cons_succ]
  clear hS
  refine till_ready 9 (by kernel_rfl) rfl (fun K hK => ?_)
  go_simp
  go_wp2_with (go_at_call 4; refine (new_any x.K1 x.c1 x.N1 HI.out.k1 HI.out.n1 HI.out.kb1 HI.out.nb1 HI.out.t1 w2a).mono ?_; rintro e4 w2b ⟨g, rfl, hg2, st2, l2⟩)
  have V2b : Hid (Blk w2b w.heap.size 31 (twC x) ∧ Below w2a.heap.size w2a w2b ∧ w2a.heap.size ≤ g ∧ g < w2b.heap.size) := ⟨B2a.out.later l2 B2a.out.lt, l2, hg2, st2.lt⟩
  have S2b : Hid (StAt w2b g x.K1 x.N1 (64 * x.c1)) := st2
  clear hg2 st2 l2
  refine ⟨HT.out _ V2b.out.1, ?_⟩
  refine till_ready 19 (by kernel_rfl) rfl (fun K hK => ?_)
  go_simp
  go_wp2_with (go_at_call 4; refine (new_any x.K2 x.c2 x.N2 HI.out.k2 HI.out.n2 HI.out.kb2 HI.out.nb2 HI.out.t2 w2b).mono ?_; rintro e5 w2c ⟨t, rfl, hg2, st2, l2⟩)
  have V2c : Hid (Blk w2c w.heap.size 31 (twC x) ∧ Below w2b.heap.size w2b w2c ∧ w2b.heap.size ≤ t ∧ t < w2c.heap.size) := ⟨V2b.out.1.later l2 V2b.out.1.lt, l2, hg2, st2.lt⟩
  have S2c : Hid (StAt w2c t x.K2 x.N2 (64 * x.c2)) := st2
  clear hg2 st2 l2
  refine ⟨HT.out _ V2c.out.1, ?_⟩
  refine till_ready 20 (by kernel_rfl) rfl (fun K hK => ?_)
  rw [if_pos (by rfl)]
  refine last_assign (.tmp 17) rfl (some 3) rfl (.pointer (some ⟨g, 0, none⟩)) rfl ?_
  refine hK _ _ ⟨HT.out _ V2c.out.1, ?_⟩
  simp only [Act.put, List.setIfInBounds_toArray, List.set_cons_zero, List.set_cons_succ]
  refine till_at (by kernel_rfl) ?_
  refine wpAny_ready (rs := [21]) (by kernel_rfl) (by simp) (AllReady.cons rfl (fun K hK => ?_) AllReady.nil)
  rw [if_pos (by rfl)]
  refine last_assign (.tmp 27) rfl (some 4) rfl (.pointer (some ⟨t, 0, none⟩)) rfl ?_
  refine hK _ _ ?_
  simp only [Act.put, List.setIfInBounds_toArray, List.set_cons_zero, List.set_cons_succ]
  refine wpAny_done (by kernel_rfl) (NoPanic.normal ?_) _
  try go_wp2_with fail
  refine wp_region_noPanic (till_region 21 (TS w.heap.size x) (by kernel_rfl) ?_)
  obtain ⟨w3a, hw3⟩ : ∃ q, ({ heap := w2c.heap, tape := w2c.tape, drawn := w2c.drawn + 1, os := w2c.os, output := w2c.output } : World) = q := ⟨_, rfl⟩
  have L3a : Hid (Below w2c.heap.size w2c w3a) := by rw [← hw3]; exact ⟨rfl, rfl, rfl, Nat.le_refl _, fun _ _ => rfl⟩
  rw [hw3]
  clear hw3
  have B3a : Hid (Blk w3a w.heap.size 31 (twC x)) := V2c.out.1.later L3a.out V2c.out.1.lt
  have hS := HT.out _ B3a.out
  refine tTake 0 (some 28) (.pointer (some ⟨w.heap.size, 0, none⟩)) rfl rfl (by kernel_rfl) (by kernel_rfl) (by kernel_rfl) (by decide) (fun _ _ _ h => h) (by rfl) (fun W' => by go_simp) hS ?_
  simp only [Act.put, List.setIfInBounds_toArray, List.set_cons_zero, List.set_cons_succ]
  refine tTake 1 (some 29) (.pointer (some ⟨w.heap.size, 0, none⟩)) rfl rfl (by kernel_rfl) (by kernel_rfl) (by kernel_rfl) (by decide) (fun _ _ _ h => h) (by rfl) (fun W' => by go_simp) hS ?_
  simp only [Act.put, List.setIfInBounds_toArray, List.set_cons_zero, List.set_cons_succ]
  refine tLoadMid 2 (some 30) (u8s x.K1) rfl rfl (by kernel_rfl) (by kernel_rfl) (by kernel_rfl) (by decide) (by kernel_rfl) (by kernel_rfl) (fun _ _ _ h => h) (by rfl) 23 (.tmp 29) rfl w.heap.size 0 rfl _ (fun _ h => h.a) Try.underlying23 rfl UK.out.1 hS ?_
  simp only [Act.put, List.setIfInBounds_toArray, List.set_cons_zero, List.set_cons_succ]
  refine tTake 3 (some 31) (.pointer (some ⟨w.heap.size, 0, none⟩)) rfl rfl (by kernel_rfl) (by kernel_rfl) (by kernel_rfl) (by decide) (fun _ _ _ h => h) (by rfl) (fun W' => by go_simp) hS ?_
  simp only [Act.put, List.setIfInBounds_toArray, List.set_cons_zero, List.set_cons_succ]
  refine tTake 4 (some 32) (.pointer (some ⟨w.heap.size, 32, none⟩)) rfl rfl (by kernel_rfl) (by kernel_rfl) (by kernel_rfl) (by decide) (fun _ _ _ h => h) (by rfl) (fun W' => by go_simp) hS ?_
  simp only [Act.put, List.setIfInBounds_toArray, List.set_cons_zero, List.set_cons_succ]
  refine tLoadMid 5 (some 33) (u8s x.N1) rfl rfl (by kernel_rfl) (by kernel_rfl) (by kernel_rfl) (by decide) (by kernel_rfl) (by kernel_rfl) (fun _ _ _ h => h) (by rfl) 25 (.tmp 32) rfl w.heap.size 32 rfl _ (fun _ h => h.b) Try.underlying25 rfl UK.out.2.1 hS ?_
  simp only [Act.put, List.setIfInBounds_toArray, List.set_cons_zero, List.set_cons_succ]
  refine tTake 6 (some 34) (.pointer (some ⟨w.heap.size, 0, none⟩)) rfl rfl (by kernel_rfl) (by kernel_rfl) (by kernel_rfl) (by decide) (fun _ _ _ h => h) (by rfl) (fun W' => by go_simp) hS ?_
  simp only [Act.put, List.setIfInBounds_toArray, List.set_cons_zero, List.set_cons_succ]
  refine tTake 7 (some 35) (.pointer (some ⟨w.heap.size, 44, none⟩)) rfl rfl (by kernel_rfl) (by kernel_rfl) (by kernel_rfl) (by decide) (fun _ _ _ h => h) (by rfl) (fun W' => by go_simp) hS ?_
  simp only [Act.put, List.setIfInBounds_toArray, List.set_cons_zero, List.set_cons_succ]
  refine tLoad 8 (some 36) (.int .u32 (x.c1 : Int)) rfl rfl (by kernel_rfl) (by kernel_rfl) (by kernel_rfl) (by decide) (by kernel_rfl) (by kernel_rfl) (fun _ _ _ h => h) (by rfl) (fun W' hS' => by have s1 := hS'.c; go_simp) hS ?_
  simp only [Act.put, List.setIfInBounds_toArray, List.set_cons_zero, List.set_cons_succ]
  refine tTake 10 (some 38) (.pointer (some ⟨w.heap.size, 45, none⟩)) rfl rfl (by kernel_rfl) (by kernel_rfl) (by kernel_rfl) (by decide) (fun _ _ _ h => h) (by rfl) (fun W' => by go_simp) hS ?_
  simp only [Act.put, List.setIfInBounds_toArray, List.set_cons_zero, List.set_cons_succ]
  refine tTake 11 (some 39) (.pointer (some ⟨w.heap.size, 45, none⟩)) rfl rfl (by kernel_rfl) (by kernel_rfl) (by kernel_rfl) (by decide) (fun _ _ _ h => h) (by rfl) (fun W' => by go_simp) hS ?_
  simp only [Act.put, List.setIfInBounds_toArray, List.set_cons_zero, List.set_cons_succ]
  refine tLoadMid 12 (some 40) (u8s x.K2) rfl rfl (by kernel_rfl) (by kernel_rfl) (by kernel_rfl) (by decide) (by kernel_rfl) (by kernel_rfl) (fun _ _ _ h => h) (by rfl) 23 (.tmp 39) rfl w.heap.size 45 rfl _ (fun _ h => h.d) Try.underlying23 rfl UK.out.2.2.1 hS ?_
  simp only [Act.put, List.setIfInBounds_toArray, List.set_cons_zero, List.set_cons_succ]
  refine tTake 13 (some 41) (.pointer (some ⟨w.heap.size, 45, none⟩)) rfl rfl (by kernel_rfl) (by kernel_rfl) (by kernel_rfl) (by decide) (fun _ _ _ h => h) (by rfl) (fun W' => by go_simp) hS ?_
  simp only [Act.put, List.setIfInBounds_toArray, List.set_cons_zero, List.set_cons_succ]
  refine tTake 14 (some 42) (.pointer (some ⟨w.heap.size, 77, none⟩)) rfl rfl (by kernel_rfl) (by kernel_rfl) (by kernel_rfl) (by decide) (fun _ _ _ h => h) (by rfl) (fun W' => by go_simp) hS ?_
  simp only [Act.put, List.setIfInBounds_toArray, List.set_cons_zero, List.set_cons_succ]
  refine tLoadMid 15 (some 43) (u8s x.N2) rfl rfl (by kernel_rfl) (by kernel_rfl) (by kernel_rfl) (by decide) (by kernel_rfl) (by kernel_rfl) (fun _ _ _ h => h) (by rfl) 25 (.tmp 42) rfl w.heap.size 77 rfl _ (fun _ h => h.e) Try.underlying25 rfl UK.out.2.2.2 hS ?_
  simp only [Act.put, List.setIfInBounds_toArray, List.set_cons_zero, List.set_cons_succ]
  refine tTake 16 (some 44) (.pointer (some ⟨w.heap.size, 45, none⟩)) rfl rfl (by kernel_rfl) (by kernel_rfl) (by kernel_rfl) (by decide) (fun _ _ _ h => h) (by rfl) (fun W' => by go_simp) hS ?_
  simp only [Act.put, List.setIfInBounds_toArray, List.set_cons_zero, List.set_cons_succ]
  refine tTake 17 (some 45) (.pointer (some ⟨w.heap.size, 89, none⟩)) rfl rfl (by kernel_rfl) (by kernel_rfl) (by kernel_rfl) (by decide) (fun _ _ _ h => h) (by rfl) (fun W' => by go_simp) hS ?_
  simp only [Act.put, List.setIfInBounds_toArray, List.set_cons_zero, List.set_cons_succ]
  refine tLoad 18 (some 46) (.int .u32 (x.c2 : Int)) rfl rfl (by kernel_rfl) (by kernel_rfl) (by kernel_rfl) (by decide) (by kernel_rfl) (by kernel_rfl) (fun _ _ _ h => h) (by rfl) (fun W' hS' => by have s1 := hS'.f; go_simp) hS ?_
  simp only [Act.put, List.setIfInBounds_toArray, List.set_cons_zero, List.set_cons_succ]
  clear hS
  refine till_ready 9 (by kernel_rfl) rfl (fun K hK => ?_)
  go_simp
  go_wp2_with (go_at_call 5; refine (rsnew_any x.K1 x.c1 x.N1 HI.out.k1 HI.out.n1 HI.out.kb1 HI.out.nb1 HI.out.t1 w3a).mono ?_; rintro e4 w3b ⟨q, rfl, hg3, st3, l3⟩)
  have V3b : Hid (Blk w3b w.heap.size 31 (twC x) ∧ Below w3a.heap.size w3a w3b ∧ w3a.heap.size ≤ q ∧ q < w3b.heap.size) := ⟨B3a.out.later l3 B3a.out.lt, l3, hg3, st3.lt⟩
  have S3b : Hid (RtAt w3b q x.K1 x.N1 (64 * x.c1)) := st3
  clear hg3 st3 l3
  refine ⟨HT.out _ V3b.out.1, ?_⟩
  refine till_ready 19 (by kernel_rfl) rfl (fun K hK => ?_)
  go_simp
  go_wp2_with (go_at_call 5; refine (rsnew_any x.K2 x.c2 x.N2 HI.out.k2 HI.out.n2 HI.out.kb2 HI.out.nb2 HI.out.t2 w3b).mono ?_; rintro e5 w3c ⟨u, rfl, hg3, st3, l3⟩)
  have V3c : Hid (Blk w3c w.heap.size 31 (twC x) ∧ Below w3b.heap.size w3b w3c ∧ w3b.heap.size ≤ u ∧ u < w3c.heap.size) := ⟨V3b.out.1.later l3 V3b.out.1.lt, l3, hg3, st3.lt⟩
  have S3c : Hid (RtAt w3c u x.K2 x.N2 (64 * x.c2)) := st3
  clear hg3 st3 l3
  refine ⟨HT.out _ V3c.out.1, ?_⟩
  refine till_ready 20 (by kernel_rfl) rfl (fun K hK => ?_)
  rw [if_pos (by rfl)]
  refine last_assign (.tmp 37) rfl (some 5) rfl (.pointer (some ⟨q, 0, none⟩)) rfl ?_
  refine hK _ _ ⟨HT.out _ V3c.out.1, ?_⟩
  simp only [Act.put, List.setIfInBounds_toArray, List.set_cons_zero, List.set_cons_succ]
  refine till_at (by kernel_rfl) ?_
  refine wpAny_ready (rs := [21]) (by kernel_rfl) (by simp) (AllReady.cons rfl (fun K hK => ?_) AllReady.nil)
  rw [if_pos (by rfl)]
  refine last_assign (.tmp 47) rfl (some 6) rfl (.pointer (some ⟨u, 0, none⟩)) rfl ?_
  refine hK _ _ ?_
  simp only [Act.put, List.setIfInBounds_toArray, List.set_cons_zero, List.set_cons_succ]
  refine wpAny_done (by kernel_rfl) (NoPanic.normal ?_) _
  try go_wp2_with fail
  have H4 : Hid (Fp w w3c g t q u x (64 * x.c1) (64 * x.c2)) := by
    have z := V2c.out.2.2
    have z2 := V2b.out.2.2
    have z3 := V3b.out.2.2
    have z4 := V3c.out.2.2
    have y0 := L2a.out.size
    have y1 := L3a.out.size
    have y2 := V2c.out.2.1.size
    have y3 := V2b.out.2.1.size
    have y4 := V3b.out.2.1.size
    have la := below_chain L3a.out V3b.out.2.1 L3a.out.size
    have lb := below_chain la V3c.out.2.1 la.size
    have lc := below_chain V2c.out.2.1 lb V2c.out.2.1.size
    have ld := below_chain (below_chain L2a.out V2b.out.2.1 L2a.out.size) lc (below_chain L2a.out V2b.out.2.1 L2a.out.size).size
    exact ⟨⟨S2b.out.later lc S2b.out.lt, S3b.out.later V3c.out.2.1 S3b.out.lt, by omega⟩, ⟨S2c.out.later lb S2c.out.lt, S3c.out, by omega⟩, below_chain H1.out.2.1 ld H1.out.2.1.size, V3c.out.1⟩
  have NE : Hid (g ≠ t ∧ g ≠ u ∧ q ≠ t ∧ q ≠ u ∧ w.heap.size < g ∧ w.heap.size < t ∧ w.heap.size < q ∧ w.heap.size < u) := by
    have z := V2c.out.2.2
    have z2 := V2b.out.2.2
    have z3 := V3b.out.2.2
    have z4 := V3c.out.2.2
    have y0 := L2a.out.size
    have y1 := L3a.out.size
    have y5 := H1.out.2.2
    exact ⟨by omega, by omega, by omega, by omega, by omega, by omega, by omega, by omega⟩
  clear V2b V2c V3b V3c S2b S2c S3b S3c L2a L3a B2a B3a
  obtain ⟨P1, hP1⟩ : ∃ P, 64 * x.c1 = P := ⟨_, rfl⟩
  obtain ⟨P2, hP2⟩ : ∃ P, 64 * x.c2 = P := ⟨_, rfl⟩
  rw [hP1, hP2] at H4
  clear hP1 hP2
  refine region_invGT [.val (.pointer (some ⟨g, 0, none⟩)), .val (.bool false), .val (.bool false), .val (.pointer (some ⟨t, 0, none⟩)), .val (.bool false), .val (.bool false), .val (.bool false), .val (.pointer (some ⟨g, 0, none⟩)), .val (.int .u64 (P1 : Int)), .val (.pointer (some ⟨q, 0, none⟩)), .val (.pointer (some ⟨q, 0, none⟩)), .val (.pointer (some ⟨q, 44, none⟩)), .val (.int .u64 (P1 : Int)), .val (.bool false), .val (.bool false), .val (.bool false), .val (.pointer (some ⟨t, 0, none⟩)), .val (.int .u64 (P2 : Int)), .val (.pointer (some ⟨u, 0, none⟩)), .val (.pointer (some ⟨u, 0, none⟩)), .val (.pointer (some ⟨u, 44, none⟩)), .val (.int .u64 (P2 : Int)), .val (.bool false)] (by kernel_rfl) (by kernel_rfl) (by repeat (first | exact trivial | (refine ⟨by first | trivial | rfl, ?_⟩))) (by kernel_rfl) ?_ ?_
  · refine Steps'.cons ?_ (Steps'.cons ?_ (Steps'.cons ?_ (Steps'.cons ?_ (Steps'.cons ?_ (Steps'.cons ?_ (Steps'.cons ?_ (Steps'.cons ?_ (Steps'.cons ?_ (Steps'.cons ?_ (Steps'.cons ?_ (Steps'.cons ?_ (Steps'.cons ?_ (Steps'.cons ?_ (Steps'.cons ?_ (Steps'.cons ?_ (Steps'.cons ?_ (Steps'.cons ?_ (Steps'.cons ?_ (Steps'.cons ?_ (Steps'.cons ?_ (Steps'.cons ?_ (Steps'.cons ?_ (Steps'.one _ _ _ _ _ _ _)))))))))))))))))))))))
    · intro ax wx hb hs hd
      have h3 : ax.tmps.getD 3 undef = (.pointer (some ⟨g, 0, none⟩)) := hs 3 (by kernel_rfl)
      refine Does.value (.pointer (some ⟨g, 0, none⟩)) ?_ rfl
      clear hs hd
      go_simp
    · intro ax wx hb hs hd
      have h48 : ax.tmps.getD 48 undef = (.pointer (some ⟨g, 0, none⟩)) := hd 0 48 rfl (by kernel_rfl) (by decide)
      refine Does.value (.bool false) ?_ rfl
      clear hs hd
      go_simp
    · intro ax wx hb hs hd
      have h49 : ax.tmps.getD 49 undef = (.bool false) := hd 1 49 rfl (by kernel_rfl) (by decide)
      refine Does.value (.bool false) ?_ rfl
      clear hs hd
      go_simp
    · intro ax wx hb hs hd
      have h4 : ax.tmps.getD 4 undef = (.pointer (some ⟨t, 0, none⟩)) := hs 4 (by kernel_rfl)
      refine Does.value (.pointer (some ⟨t, 0, none⟩)) ?_ rfl
      clear hs hd
      go_simp
    · intro ax wx hb hs hd
      have h51 : ax.tmps.getD 51 undef = (.pointer (some ⟨t, 0, none⟩)) := hd 3 51 rfl (by kernel_rfl) (by decide)
      refine Does.value (.bool false) ?_ rfl
      clear hs hd
      go_simp
    · intro ax wx hb hs hd
      have h50 : ax.tmps.getD 50 undef = (.bool false) := hd 2 50 rfl (by kernel_rfl) (by decide)
      have h52 : ax.tmps.getD 52 undef = (.bool false) := hd 4 52 rfl (by kernel_rfl) (by decide)
      refine Does.value (.bool false) ?_ rfl
      clear hs hd
      go_simp
    · intro ax wx hb hs hd
      have h53 : ax.tmps.getD 53 undef = (.bool false) := hd 5 53 rfl (by kernel_rfl) (by decide)
      refine Does.value (.bool false) ?_ rfl
      clear hs hd
      go_simp
    · intro ax wx hb hs hd
      have h3 : ax.tmps.getD 3 undef = (.pointer (some ⟨g, 0, none⟩)) := hs 3 (by kernel_rfl)
      refine Does.value (.pointer (some ⟨g, 0, none⟩)) ?_ rfl
      clear hs hd
      go_simp
    · intro ax wx hb hs hd
      have h55 : ax.tmps.getD 55 undef = (.pointer (some ⟨g, 0, none⟩)) := hd 7 55 rfl (by kernel_rfl) (by decide)
      refine Does.call 6 #[(.pointer (some ⟨g, 0, none⟩))] (by clear hs hd; go_simp) ?_
      refine (at_any _ x.K1 x.N1 P1 wx (H4.out.later hb).one.one).mono ?_
      rintro e2 w2 ⟨rfl, rfl⟩
      exact ⟨_, rfl, rfl, Below.refl _ _⟩
    · intro ax wx hb hs hd
      have h5 : ax.tmps.getD 5 undef = (.pointer (some ⟨q, 0, none⟩)) := hs 5 (by kernel_rfl)
      refine Does.value (.pointer (some ⟨q, 0, none⟩)) ?_ rfl
      clear hs hd
      go_simp
    · intro ax wx hb hs hd
      have h57 : ax.tmps.getD 57 undef = (.pointer (some ⟨q, 0, none⟩)) := hd 9 57 rfl (by kernel_rfl) (by decide)
      refine Does.value (.pointer (some ⟨q, 0, none⟩)) ?_ rfl
      clear hs hd
      go_simp
    · intro ax wx hb hs hd
      have h58 : ax.tmps.getD 58 undef = (.pointer (some ⟨q, 0, none⟩)) := hd 10 58 rfl (by kernel_rfl) (by decide)
      refine Does.value (.pointer (some ⟨q, 44, none⟩)) ?_ rfl
      clear hs hd
      go_simp
    · intro ax wx hb hs hd
      have h59 : ax.tmps.getD 59 undef = (.pointer (some ⟨q, 44, none⟩)) := hd 11 59 rfl (by kernel_rfl) (by decide)
      have cx := (H4.out.later hb).one.two.place
      refine Does.value (.int .u64 (P1 : Int)) ?_ rfl
      clear hs hd
      go_simp
    · intro ax wx hb hs hd
      have h56 : ax.tmps.getD 56 undef = (.int .u64 (P1 : Int)) := hd 8 56 rfl (by kernel_rfl) (by decide)
      have h60 : ax.tmps.getD 60 undef = (.int .u64 (P1 : Int)) := hd 12 60 rfl (by kernel_rfl) (by decide)
      refine Does.value (.bool false) ?_ rfl
      clear hs hd
      go_simp
    · intro ax wx hb hs hd
      have h54 : ax.tmps.getD 54 undef = (.bool false) := hd 6 54 rfl (by kernel_rfl) (by decide)
      have h61 : ax.tmps.getD 61 undef = (.bool false) := hd 13 61 rfl (by kernel_rfl) (by decide)
      refine Does.value (.bool false) ?_ rfl
      clear hs hd
      go_simp
    · intro ax wx hb hs hd
      have h62 : ax.tmps.getD 62 undef = (.bool false) := hd 14 62 rfl (by kernel_rfl) (by decide)
      refine Does.value (.bool false) ?_ rfl
      clear hs hd
      go_simp
    · intro ax wx hb hs hd
      have h4 : ax.tmps.getD 4 undef = (.pointer (some ⟨t, 0, none⟩)) := hs 4 (by kernel_rfl)
      refine Does.value (.pointer (some ⟨t, 0, none⟩)) ?_ rfl
      clear hs hd
      go_simp
    · intro ax wx hb hs hd
      have h64 : ax.tmps.getD 64 undef = (.pointer (some ⟨t, 0, none⟩)) := hd 16 64 rfl (by kernel_rfl) (by decide)
      refine Does.call 6 #[(.pointer (some ⟨t, 0, none⟩))] (by clear hs hd; go_simp) ?_
      refine (at_any _ x.K2 x.N2 P2 wx (H4.out.later hb).two.one).mono ?_
      rintro e2 w2 ⟨rfl, rfl⟩
      exact ⟨_, rfl, rfl, Below.refl _ _⟩
    · intro ax wx hb hs hd
      have h6 : ax.tmps.getD 6 undef = (.pointer (some ⟨u, 0, none⟩)) := hs 6 (by kernel_rfl)
      refine Does.value (.pointer (some ⟨u, 0, none⟩)) ?_ rfl
      clear hs hd
      go_simp
    · intro ax wx hb hs hd
      have h66 : ax.tmps.getD 66 undef = (.pointer (some ⟨u, 0, none⟩)) := hd 18 66 rfl (by kernel_rfl) (by decide)
      refine Does.value (.pointer (some ⟨u, 0, none⟩)) ?_ rfl
      clear hs hd
      go_simp
    · intro ax wx hb hs hd
      have h67 : ax.tmps.getD 67 undef = (.pointer (some ⟨u, 0, none⟩)) := hd 19 67 rfl (by kernel_rfl) (by decide)
      refine Does.value (.pointer (some ⟨u, 44, none⟩)) ?_ rfl
      clear hs hd
      go_simp
    · intro ax wx hb hs hd
      have h68 : ax.tmps.getD 68 undef = (.pointer (some ⟨u, 44, none⟩)) := hd 20 68 rfl (by kernel_rfl) (by decide)
      have cx := (H4.out.later hb).two.two.place
      refine Does.value (.int .u64 (P2 : Int)) ?_ rfl
      clear hs hd
      go_simp
    · intro ax wx hb hs hd
      have h65 : ax.tmps.getD 65 undef = (.int .u64 (P2 : Int)) := hd 17 65 rfl (by kernel_rfl) (by decide)
      have h69 : ax.tmps.getD 69 undef = (.int .u64 (P2 : Int)) := hd 21 69 rfl (by kernel_rfl) (by decide)
      refine Does.value (.bool false) ?_ rfl
      clear hs hd
      go_simp
  · intro wx hb
    refine @Ends.val _ _ _ _ _ _ _ _ _ (.pointer (some ⟨g, 0, none⟩)) rfl ?_
    refine @Ends.val _ _ _ _ _ _ _ _ _ (.bool false) rfl ?_
    refine @Ends.val _ _ _ _ _ _ _ _ _ (.bool false) rfl ?_
    refine @Ends.val _ _ _ _ _ _ _ _ _ (.pointer (some ⟨t, 0, none⟩)) rfl ?_
    refine @Ends.val _ _ _ _ _ _ _ _ _ (.bool false) rfl ?_
    refine @Ends.val _ _ _ _ _ _ _ _ _ (.bool false) rfl ?_
    refine @Ends.val _ _ _ _ _ _ _ _ _ (.bool false) rfl ?_
    refine @Ends.val _ _ _ _ _ _ _ _ _ (.pointer (some ⟨g, 0, none⟩)) rfl ?_
    refine @Ends.val _ _ _ _ _ _ _ _ _ (.int .u64 (P1 : Int)) rfl ?_
    refine @Ends.val _ _ _ _ _ _ _ _ _ (.pointer (some ⟨q, 0, none⟩)) rfl ?_
    refine @Ends.val _ _ _ _ _ _ _ _ _ (.pointer (some ⟨q, 0, none⟩)) rfl ?_
    refine @Ends.val _ _ _ _ _ _ _ _ _ (.pointer (some ⟨q, 44, none⟩)) rfl ?_
    refine @Ends.val _ _ _ _ _ _ _ _ _ (.int .u64 (P1 : Int)) rfl ?_
    refine @Ends.val _ _ _ _ _ _ _ _ _ (.bool false) rfl ?_
    refine @Ends.val _ _ _ _ _ _ _ _ _ (.bool false) rfl ?_
    refine @Ends.val _ _ _ _ _ _ _ _ _ (.bool false) rfl ?_
    refine @Ends.val _ _ _ _ _ _ _ _ _ (.pointer (some ⟨t, 0, none⟩)) rfl ?_
    refine @Ends.val _ _ _ _ _ _ _ _ _ (.int .u64 (P2 : Int)) rfl ?_
    refine @Ends.val _ _ _ _ _ _ _ _ _ (.pointer (some ⟨u, 0, none⟩)) rfl ?_
    refine @Ends.val _ _ _ _ _ _ _ _ _ (.pointer (some ⟨u, 0, none⟩)) rfl ?_
    refine @Ends.val _ _ _ _ _ _ _ _ _ (.pointer (some ⟨u, 44, none⟩)) rfl ?_
    refine @Ends.val _ _ _ _ _ _ _ _ _ (.int .u64 (P2 : Int)) rfl ?_
    refine @Ends.val _ _ _ _ _ _ _ _ _ (.bool false) rfl ?_
    refine @Ends.one _ _ _ _ _ _ _ ?_
    simp only [Act.put, List.setIfInBounds_toArray, List.set_cons_zero, List.set_cons_succ]
    refine last_value (some 71) rfl (.bool false) (by go_simp) ?_
    have H5 : Hid (Fp w wx g t q u x P1 P2) := H4.out.later hb
    clear hb
    simp only [Act.put, List.setIfInBounds_toArray, List.set_cons_zero, List.set_cons_succ]
    go_wp2_with fail
    go_loopw [7] (fun i wr => ∃ (k Pa Pb : Nat), (k ≤ x.m1 ∨ k ≤ x.m2) ∧ i = .int .i64 k ∧ Fp w wr g t q u x Pa Pb) (fun i _ => (x.m1 + x.m2) - (intOf i).toNat)
    case atStart => exact ⟨0, P1, P2, .inl (Nat.zero_le _), rfl, H5.out⟩
    case round =>
      obtain ⟨k2, Pa, Pb, hk, rfl, hfo⟩ := hrel
      have HF : Hid (Fp w wr g t q u x Pa Pb) := hfo
      clear hfo H4 H5
      have j0 : (0 : Int) ≤ (k2 : Int) := by omega
      have cA := (HT.out _ HF.out.blk).g
      have cB := (HT.out _ HF.out.blk).h
      by_cases h1 : k2 < x.m1
      · have u1 : (k2 : Int) < (x.m1 : Int) := by omega
        obtain ⟨so1, cs1, b1, o1, e1, x0, x1, x2, hz1, hc1, OL1⟩ : ∃ so cs b o, x.s1 = some ⟨b, o, none⟩ ∧ wr.cell? ⟨b, o + k2 * 3, none⟩ = some (.int .i64 (imAt x.i1 k2).d) ∧ wr.cell? ⟨b, o + k2 * 3 + 1, none⟩ = some (.int .i64 (imAt x.i1 k2).n) ∧ wr.cell? ⟨b, o + k2 * 3 + 2, none⟩ = some (.slice so (imAt x.i1 k2).data.length cs) ∧ Hid (Seen wr so (imAt x.i1 k2).data.length (imAt x.i1 k2).data) ∧ Hid (so = none → cs = 0) ∧ Hid (∀ b o, 0 < (imAt x.i1 k2).data.length → so = some ⟨b, o, none⟩ → b ≠ g ∧ b ≠ q) := by
          obtain ⟨b, o, so, cs, e, hb, y0, y1, y2, y3, y4⟩ := HI.out.s1.cells k2 h1
          have l := HF.out.bel
          exact ⟨so, cs, b, o, e, (l.cell (p := ⟨b, o + k2 * 3, none⟩) hb).trans y0, (l.cell (p := ⟨b, o + k2 * 3 + 1, none⟩) hb).trans y1, (l.cell (p := ⟨b, o + k2 * 3 + 2, none⟩) hb).trans y2, y3.later l (Nat.le_refl _), y4, fun b o hn e => by have := y3.old (Nat.le_refl _) b o hn e; have := NE.out; omega⟩
        have wf1 := HI.out.s1.wf k2 h1
        have E1 : Hid (x.s1 = some ⟨b1, o1, none⟩) := e1
        rw [e1] at cA
        clear e1
        go_wp2_with fail
        refine (step_any g q x.K1 x.N1 Pa (imAt x.i1 k2).d (imAt x.i1 k2).n so1 _ cs1 _ wr HF.out.one wf1.1 hz1.out (by have := wf1.2; omega) hc1.out OL1.out).mono ?_
        rintro e w12 ⟨rfl, Pa', tw, kk⟩
        have H12 : Hid (Fp w w12 g t q u x Pa' Pb) := ⟨tw, HF.out.two.kept kk (by have := NE.out; omega) (by have := NE.out; omega), below_kept HF.out.bel kk HF.out.bel.size (fun j hj e => by have := NE.out; omega), HF.out.blk.kept kk (by have := NE.out; omega)⟩
        clear tw kk x0 x1 x2 cA cB
        have cA := (HT.out _ H12.out.blk).g
        have cB := (HT.out _ H12.out.blk).h
        by_cases h2 : k2 < x.m2
        · have u2 : (k2 : Int) < (x.m2 : Int) := by omega
          obtain ⟨so2, cs2, b2, o2, e2, x0, x1, x2, hz2, hc2, OL2⟩ : ∃ so cs b o, x.s2 = some ⟨b, o, none⟩ ∧ w12.cell? ⟨b, o + k2 * 3, none⟩ = some (.int .i64 (imAt x.i2 k2).d) ∧ w12.cell? ⟨b, o + k2 * 3 + 1, none⟩ = some (.int .i64 (imAt x.i2 k2).n) ∧ w12.cell? ⟨b, o + k2 * 3 + 2, none⟩ = some (.slice so (imAt x.i2 k2).data.length cs) ∧ Hid (Seen w12 so (imAt x.i2 k2).data.length (imAt x.i2 k2).data) ∧ Hid (so = none → cs = 0) ∧ Hid (∀ b o, 0 < (imAt x.i2 k2).data.length → so = some ⟨b, o, none⟩ → b ≠ t ∧ b ≠ u) := by
            obtain ⟨b, o, so, cs, e, hb, y0, y1, y2, y3, y4⟩ := HI.out.s2.cells k2 h2
            have l := H12.out.bel
            exact ⟨so, cs, b, o, e, (l.cell (p := ⟨b, o + k2 * 3, none⟩) hb).trans y0, (l.cell (p := ⟨b, o + k2 * 3 + 1, none⟩) hb).trans y1, (l.cell (p := ⟨b, o + k2 * 3 + 2, none⟩) hb).trans y2, y3.later l (Nat.le_refl _), y4, fun b o hn e => by have := y3.old (Nat.le_refl _) b o hn e; have := NE.out; omega⟩
          have wf2 := HI.out.s2.wf k2 h2
          have E2 : Hid (x.s2 = some ⟨b2, o2, none⟩) := e2
          rw [e2] at cB
          clear e2
          go_wp2_with fail
          refine (step_any t u x.K2 x.N2 Pb (imAt x.i2 k2).d (imAt x.i2 k2).n so2 _ cs2 _ w12 H12.out.two wf2.1 hz2.out (by have := wf2.2; omega) hc2.out OL2.out).mono ?_
          rintro e w13 ⟨rfl, Pb', tw, kk⟩
          have H13 : Hid (Fp w w13 g t q u x Pa' Pb') := ⟨H12.out.one.kept kk (by have := NE.out; omega) (by have := NE.out; omega), tw, below_kept H12.out.bel kk H12.out.bel.size (fun j hj e => by have := NE.out; omega), H12.out.blk.kept kk (by have := NE.out; omega)⟩
          clear tw kk x0 x1 x2 cA cB
          have cA := (HT.out _ H13.out.blk).g
          have cB := (HT.out _ H13.out.blk).h
          go_wp2_with fail
          exact ⟨⟨k2 + 1, Pa', Pb', by omega, by go_num, H13.out⟩, by simp [intOf]; omega⟩
        · have u2 : ¬ (k2 : Int) < (x.m2 : Int) := by omega
          go_wp2_with fail
          exact ⟨⟨k2 + 1, Pa', Pb, by omega, by go_num, H12.out⟩, by simp [intOf]; omega⟩
      · have u1 : ¬ (k2 : Int) < (x.m1 : Int) := by omega
        by_cases h2 : k2 < x.m2
        · have u2 : (k2 : Int) < (x.m2 : Int) := by omega
          obtain ⟨so2, cs2, b2, o2, e2, x0, x1, x2, hz2, hc2, OL2⟩ : ∃ so cs b o, x.s2 = some ⟨b, o, none⟩ ∧ wr.cell? ⟨b, o + k2 * 3, none⟩ = some (.int .i64 (imAt x.i2 k2).d) ∧ wr.cell? ⟨b, o + k2 * 3 + 1, none⟩ = some (.int .i64 (imAt x.i2 k2).n) ∧ wr.cell? ⟨b, o + k2 * 3 + 2, none⟩ = some (.slice so (imAt x.i2 k2).data.length cs) ∧ Hid (Seen wr so (imAt x.i2 k2).data.length (imAt x.i2 k2).data) ∧ Hid (so = none → cs = 0) ∧ Hid (∀ b o, 0 < (imAt x.i2 k2).data.length → so = some ⟨b, o, none⟩ → b ≠ t ∧ b ≠ u) := by
            obtain ⟨b, o, so, cs, e, hb, y0, y1, y2, y3, y4⟩ := HI.out.s2.cells k2 h2
            have l := HF.out.bel
            exact ⟨so, cs, b, o, e, (l.cell (p := ⟨b, o + k2 * 3, none⟩) hb).trans y0, (l.cell (p := ⟨b, o + k2 * 3 + 1, none⟩) hb).trans y1, (l.cell (p := ⟨b, o + k2 * 3 + 2, none⟩) hb).trans y2, y3.later l (Nat.le_refl _), y4, fun b o hn e => by have := y3.old (Nat.le_refl _) b o hn e; have := NE.out; omega⟩
          have wf2 := HI.out.s2.wf k2 h2
          have E2 : Hid (x.s2 = some ⟨b2, o2, none⟩) := e2
          rw [e2] at cB
          clear e2
          go_wp2_with fail
          refine (step_any t u x.K2 x.N2 Pb (imAt x.i2 k2).d (imAt x.i2 k2).n so2 _ cs2 _ wr HF.out.two wf2.1 hz2.out (by have := wf2.2; omega) hc2.out OL2.out).mono ?_
          rintro e w13 ⟨rfl, Pb', tw, kk⟩
          have H13 : Hid (Fp w w13 g t q u x Pa Pb') := ⟨HF.out.one.kept kk (by have := NE.out; omega) (by have := NE.out; omega), tw, below_kept HF.out.bel kk HF.out.bel.size (fun j hj e => by have := NE.out; omega), HF.out.blk.kept kk (by have := NE.out; omega)⟩
          clear tw kk x0 x1 x2 cA cB
          have cA := (HT.out _ H13.out.blk).g
          have cB := (HT.out _ H13.out.blk).h
          go_wp2_with fail
          exact ⟨⟨k2 + 1, Pa, Pb', by omega, by go_num, H13.out⟩, by simp [intOf]; omega⟩
        · have u2 : ¬ (k2 : Int) < (x.m2 : Int) := by omega
          obtain ⟨w14, hw14⟩ : ∃ W, wr = W := ⟨_, rfl⟩
          rw [hw14] at HF ⊢
          clear hw14 cA cB
          have cA := (HT.out _ HF.out.blk).g
          have cB := (HT.out _ HF.out.blk).h
          go_wp2_with fail
          clear cA cB
          refine region_invGT [.val (.pointer (some ⟨g, 0, none⟩)), .val (.int .u64 (Pa : Int)), .val (.pointer (some ⟨q, 0, none⟩)), .val (.pointer (some ⟨q, 0, none⟩)), .val (.pointer (some ⟨q, 44, none⟩)), .val (.int .u64 (Pa : Int)), .val (.bool true), .val (.bool true), .val (.pointer (some ⟨t, 0, none⟩)), .val (.int .u64 (Pb : Int)), .val (.pointer (some ⟨u, 0, none⟩)), .val (.pointer (some ⟨u, 0, none⟩)), .val (.pointer (some ⟨u, 44, none⟩)), .val (.int .u64 (Pb : Int)), .val (.bool true), .val (.bool true)] (by kernel_rfl) (by kernel_rfl) (by repeat (first | exact trivial | (refine ⟨by first | trivial | rfl, ?_⟩))) (by kernel_rfl) ?_ ?_
          · refine Steps'.cons ?_ (Steps'.cons ?_ (Steps'.cons ?_ (Steps'.cons ?_ (Steps'.cons ?_ (Steps'.cons ?_ (Steps'.cons ?_ (Steps'.cons ?_ (Steps'.cons ?_ (Steps'.cons ?_ (Steps'.cons ?_ (Steps'.cons ?_ (Steps'.cons ?_ (Steps'.cons ?_ (Steps'.cons ?_ (Steps'.cons ?_ (Steps'.one _ _ _ _ _ _ _))))))))))))))))
            · intro ax wx hb hs hd
              have h3 : ax.tmps.getD 3 undef = (.pointer (some ⟨g, 0, none⟩)) := hs 3 (by kernel_rfl)
              refine Does.value (.pointer (some ⟨g, 0, none⟩)) ?_ rfl
              clear hs hd
              go_simp
            · intro ax wx hb hs hd
              have h120 : ax.tmps.getD 120 undef = (.pointer (some ⟨g, 0, none⟩)) := hd 0 120 rfl (by kernel_rfl) (by decide)
              refine Does.call 6 #[(.pointer (some ⟨g, 0, none⟩))] (by clear hs hd; go_simp) ?_
              refine (at_any _ x.K1 x.N1 Pa wx (HF.out.later hb).one.one).mono ?_
              rintro e2 w2 ⟨rfl, rfl⟩
              exact ⟨_, rfl, rfl, Below.refl _ _⟩
            · intro ax wx hb hs hd
              have h5 : ax.tmps.getD 5 undef = (.pointer (some ⟨q, 0, none⟩)) := hs 5 (by kernel_rfl)
              refine Does.value (.pointer (some ⟨q, 0, none⟩)) ?_ rfl
              clear hs hd
              go_simp
            · intro ax wx hb hs hd
              have h122 : ax.tmps.getD 122 undef = (.pointer (some ⟨q, 0, none⟩)) := hd 2 122 rfl (by kernel_rfl) (by decide)
              refine Does.value (.pointer (some ⟨q, 0, none⟩)) ?_ rfl
              clear hs hd
              go_simp
            · intro ax wx hb hs hd
              have h123 : ax.tmps.getD 123 undef = (.pointer (some ⟨q, 0, none⟩)) := hd 3 123 rfl (by kernel_rfl) (by decide)
              refine Does.value (.pointer (some ⟨q, 44, none⟩)) ?_ rfl
              clear hs hd
              go_simp
            · intro ax wx hb hs hd
              have h124 : ax.tmps.getD 124 undef = (.pointer (some ⟨q, 44, none⟩)) := hd 4 124 rfl (by kernel_rfl) (by decide)
              have cx := (HF.out.later hb).one.two.place
              refine Does.value (.int .u64 (Pa : Int)) ?_ rfl
              clear hs hd
              go_simp
            · intro ax wx hb hs hd
              have h121 : ax.tmps.getD 121 undef = (.int .u64 (Pa : Int)) := hd 1 121 rfl (by kernel_rfl) (by decide)
              have h125 : ax.tmps.getD 125 undef = (.int .u64 (Pa : Int)) := hd 5 125 rfl (by kernel_rfl) (by decide)
              refine Does.value (.bool true) ?_ rfl
              clear hs hd
              go_simp
            · intro ax wx hb hs hd
              have h126 : ax.tmps.getD 126 undef = (.bool true) := hd 6 126 rfl (by kernel_rfl) (by decide)
              refine Does.value (.bool true) ?_ rfl
              clear hs hd
              go_simp
            · intro ax wx hb hs hd
              have h4 : ax.tmps.getD 4 undef = (.pointer (some ⟨t, 0, none⟩)) := hs 4 (by kernel_rfl)
              refine Does.value (.pointer (some ⟨t, 0, none⟩)) ?_ rfl
              clear hs hd
              go_simp
            · intro ax wx hb hs hd
              have h128 : ax.tmps.getD 128 undef = (.pointer (some ⟨t, 0, none⟩)) := hd 8 128 rfl (by kernel_rfl) (by decide)
              refine Does.call 6 #[(.pointer (some ⟨t, 0, none⟩))] (by clear hs hd; go_simp) ?_
              refine (at_any _ x.K2 x.N2 Pb wx (HF.out.later hb).two.one).mono ?_
              rintro e2 w2 ⟨rfl, rfl⟩
              exact ⟨_, rfl, rfl, Below.refl _ _⟩
            · intro ax wx hb hs hd
              have h6 : ax.tmps.getD 6 undef = (.pointer (some ⟨u, 0, none⟩)) := hs 6 (by kernel_rfl)
              refine Does.value (.pointer (some ⟨u, 0, none⟩)) ?_ rfl
              clear hs hd
              go_simp
            · intro ax wx hb hs hd
              have h130 : ax.tmps.getD 130 undef = (.pointer (some ⟨u, 0, none⟩)) := hd 10 130 rfl (by kernel_rfl) (by decide)
              refine Does.value (.pointer (some ⟨u, 0, none⟩)) ?_ rfl
              clear hs hd
              go_simp
            · intro ax wx hb hs hd
              have h131 : ax.tmps.getD 131 undef = (.pointer (some ⟨u, 0, none⟩)) := hd 11 131 rfl (by kernel_rfl) (by decide)
              refine Does.value (.pointer (some ⟨u, 44, none⟩)) ?_ rfl
              clear hs hd
              go_simp
            · intro ax wx hb hs hd
              have h132 : ax.tmps.getD 132 undef = (.pointer (some ⟨u, 44, none⟩)) := hd 12 132 rfl (by kernel_rfl) (by decide)
              have cx := (HF.out.later hb).two.two.place
              refine Does.value (.int .u64 (Pb : Int)) ?_ rfl
              clear hs hd
              go_simp
            · intro ax wx hb hs hd
              have h129 : ax.tmps.getD 129 undef = (.int .u64 (Pb : Int)) := hd 9 129 rfl (by kernel_rfl) (by decide)
              have h133 : ax.tmps.getD 133 undef = (.int .u64 (Pb : Int)) := hd 13 133 rfl (by kernel_rfl) (by decide)
              refine Does.value (.bool true) ?_ rfl
              clear hs hd
              go_simp
            · intro ax wx hb hs hd
              have h127 : ax.tmps.getD 127 undef = (.bool true) := hd 7 127 rfl (by kernel_rfl) (by decide)
              have h134 : ax.tmps.getD 134 undef = (.bool true) := hd 14 134 rfl (by kernel_rfl) (by decide)
              refine Does.value (.bool true) ?_ rfl
              clear hs hd
              go_simp
          · intro wx hb
            refine @Ends.val _ _ _ _ _ _ _ _ _ (.pointer (some ⟨g, 0, none⟩)) rfl ?_
            refine @Ends.val _ _ _ _ _ _ _ _ _ (.int .u64 (Pa : Int)) rfl ?_
            refine @Ends.val _ _ _ _ _ _ _ _ _ (.pointer (some ⟨q, 0, none⟩)) rfl ?_
            refine @Ends.val _ _ _ _ _ _ _ _ _ (.pointer (some ⟨q, 0, none⟩)) rfl ?_
            refine @Ends.val _ _ _ _ _ _ _ _ _ (.pointer (some ⟨q, 44, none⟩)) rfl ?_
            refine @Ends.val _ _ _ _ _ _ _ _ _ (.int .u64 (Pa : Int)) rfl ?_
            refine @Ends.val _ _ _ _ _ _ _ _ _ (.bool true) rfl ?_
            refine @Ends.val _ _ _ _ _ _ _ _ _ (.bool true) rfl ?_
            refine @Ends.val _ _ _ _ _ _ _ _ _ (.pointer (some ⟨t, 0, none⟩)) rfl ?_
            refine @Ends.val _ _ _ _ _ _ _ _ _ (.int .u64 (Pb : Int)) rfl ?_
            refine @Ends.val _ _ _ _ _ _ _ _ _ (.pointer (some ⟨u, 0, none⟩)) rfl ?_
            refine @Ends.val _ _ _ _ _ _ _ _ _ (.pointer (some ⟨u, 0, none⟩)) rfl ?_
            refine @Ends.val _ _ _ _ _ _ _ _ _ (.pointer (some ⟨u, 44, none⟩)) rfl ?_
            refine @Ends.val _ _ _ _ _ _ _ _ _ (.int .u64 (Pb : Int)) rfl ?_
            refine @Ends.val _ _ _ _ _ _ _ _ _ (.bool true) rfl ?_
            refine @Ends.val _ _ _ _ _ _ _ _ _ (.bool true) rfl ?_
            refine @Ends.one _ _ _ _ _ _ _ ?_
            simp only [Act.put, List.setIfInBounds_toArray, List.set_cons_zero, List.set_cons_succ]
            have H6 : Hid (Fp w wx g t q u x Pa Pb) := HF.out.later hb
            clear hb
            refine last_assign (.tmp 135) rfl (some 2) rfl (.bool true) rfl ?_
            simp only [Act.put, List.setIfInBounds_toArray, List.set_cons_zero, List.set_cons_succ]
            go_wp2_with fail
            go_ret
            exact ⟨rfl, H6.out.bel⟩
end Go.Proofs.Ytpjnimmclncdoaa
