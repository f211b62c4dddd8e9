/- Layer network: shifted; both Shifts in one contract. -/
import Derived.Test.YtlkpgbilepehmaaRShi
import Derived.Test.YtlkpgbilepehmaaNShiftI
namespace Go.Proofs.Ytlkpgbilepehmaa
open Go.RowKit Go.Shelf
set_option linter.unusedVariables false
set_option linter.unusedSimpArgs false
attribute [local go_sem] Oper.semAt_some

theorem info_boolS : (Try.prog.info? 4).map (fun i => (i.zero, i.size, i.bytes)) = some (some (.bool false), 1, 1) := by kernel_rfl
def boR (live : Nat → Bool) (k : Nat) : List Value := (List.range k).map fun i => Value.bool (live i)
theorem boR_succ (live : Nat → Bool) (k : Nat) : boR live (k + 1) = boR live k ++ [.bool (live k)] := by simp [boR, List.range_succ]
theorem boR_seen {w : World} {base n : Nat} {ao : Option Addr} {c : Nat} {live : Nat → Bool} (h : w.ownsRow base 4 1 (.slice ao n c) n (boR live n)) : SeenB w ao n live := fun h0 => by
  rcases h.2 with ⟨_, h1⟩ | ⟨g, cap, cur, e, hg, hh, _⟩
  · omega
  · have ho := h
    rw [e] at ho
    simp only [Value.slice.injEq] at e
    refine ⟨g, 0, e.1, lt_of_block hh, fun i hi => ?_⟩
    rw [Nat.zero_add, ho.cellAt i (by omega)]
    simp [boR, hi]
theorem rshift_big (ao : Option Addr) (n c : Nat) (hn : 65536 < n) (w : World) : Calls Try.prog 45 #[.slice ao n c] w fun e w' => e = .returned (.slice none 0 0) ∧ w = w' := by
  have h1 : (65536 : Int) < (n : Int) := by omega
  go_enter Try.func45, Try.ntmps45
  go_wp2_with (fail)
  go_ret
  exact ⟨rfl, rfl⟩
def kN (n : Nat) : Nat := if n ≤ 65536 then n else 0
def sN (n : Nat) (zs : List Int) : List Int := if n ≤ 65536 then izP zs n (foldP (evn zs) (hopsL n)) else []
def aN (n : Nat) (zs : List Int) : List Int := if n ≤ 65536 then zs else []
theorem sN_length (n : Nat) (zs : List Int) : (sN n zs).length = kN n := by unfold sN kN; split <;> simp [izP_length]
theorem kN_le (n : Nat) : kN n ≤ 65536 := by unfold kN; split <;> omega
/-- The document's places, as a row of k numbers. -/
theorem rshift_all (ao : Option Addr) (n c : Nat) (live : Nat → Bool) (w : World) (hs : SeenB w ao n live) :
    Calls Try.prog 45 #[.slice ao n c] w fun e w' => ∃ v, e = .returned v ∧ w'.ownsRow w.heap.size 3 1 v (kN n) ((if n ≤ 65536 then ixP n (foldP live (hopsL n)) else []).map (Value.int .i64)) ∧ Below w.heap.size w w' := by
  by_cases hn : n ≤ 65536
  · rw [if_pos hn, show kN n = n from if_pos hn]
    exact rshift_yes ao n c live w hs hn
  · rw [if_neg hn, show kN n = 0 from if_neg hn]
    refine (rshift_big ao n c (by omega) w).mono ?_
    rintro e w' ⟨rfl, rfl⟩
    exact ⟨_, rfl, World.ownsRow_nil _ _ _ _, Below.refl _ _⟩
theorem foldP_lt (live : Nat → Bool) (n q : Nat) (hq : q < n) : foldP live (hopsL n) q < n := foldP_in live n _ (fun x hx => by
  obtain ⟨e, j, _, h, rfl⟩ := hop_form n x hx
  have : 0 < 2 ^ e := Nat.pow_pos (by decide)
  exact ⟨2 ^ e + j, j, rfl, h, by omega⟩) q hq
theorem izP_snoc (k t : Nat) (zs : List Int) (P : Nat → Nat) (ht : t < k) : ((izP zs k P).take (t + 1)).map (Value.int .i64) = ((izP zs k P).take t).map (Value.int .i64) ++ [.int .i64 (zs.getD (P t) 0)] := by
  have hl : t < (izP zs k P).length := by rw [izP_length]; exact ht
  rw [List.take_add_one, List.getElem?_eq_getElem hl, List.map_append]
  congr 1
  simp [izP]
theorem sN_snoc (k t : Nat) (zs : List Int) (P : Nat → Nat) (hP : foldP (evn zs) (hopsL k) = P) (hk : k ≤ 65536) (ht : t < k) : ((sN k zs).take (t + 1)).map (Value.int .i64) = ((sN k zs).take t).map (Value.int .i64) ++ [.int .i64 (zs.getD (P t) 0)] := by
  have e : sN k zs = izP zs k P := by unfold sN; rw [if_pos hk, hP]
  rw [e]
  exact izP_snoc k t zs P ht
set_option maxRecDepth 20000 in
set_option maxHeartbeats 2000000 in
theorem shifted_any (ao : Option Addr) (n c : Nat) (zs : List Int) (w : World) (hs : SeenZ w ao n zs) (hn : n ≤ 17592186043904) :
    Calls Try.prog 28 #[.slice ao n c] w fun e w' => ∃ v, e = .returned v ∧ w'.ownsRow w.heap.size 3 1 v (kN n) ((sN n zs).map (Value.int .i64)) ∧ Below w.heap.size w w' := by
  obtain ⟨b0, hb, hb0, hb1, hb2⟩ := info_parts info_boolS
  obtain ⟨i0, hi, hz0, hz1, hz2⟩ := info_parts info_int
  have HS : Hid (SeenZ w ao n zs) := hs
  clear hs
  go_enter Try.func28, Try.ntmps28
  go_wp2_with (fail)
  go_loopw [3, 4] (fun o v wr => ∃ k : Nat, v = .int .i64 (k : Int) ∧ k ≤ n ∧ wr.ownsRow w.heap.size 4 1 o k (boR (evn zs) k) ∧ Below w.heap.size w wr) (fun _ v _ => n - (intOf v).toNat)
  case atStart => exact ⟨0, rfl, by omega, World.ownsRow_nil _ _ _ _, Below.refl _ _⟩
  case round =>
    obtain ⟨k, rfl, hk, hO, hB1⟩ := hrel
    by_cases hlt : k < n
    · obtain ⟨b, o, rfl, hlb, hc⟩ := (HS.out.later hB1 (Nat.le_refl _)).cells (by omega)
      have c1 := hc k hlt
      obtain ⟨z, hz⟩ : ∃ z, zs.getD k 0 = z := ⟨_, rfl⟩
      rw [hz] at c1
      have HX : Hid (boR (evn zs) (k + 1) = boR (evn zs) k ++ [.bool (z.tmod 2 == 0)]) := by show _ = _; rw [boR_succ, evn, hz]
      have HO : Hid (wr.ownsRow w.heap.size 4 1 u3 k (boR (evn zs) k)) := hO
      have HB : Hid (Below w.heap.size w wr) := hB1
      have hszr := hB1.size
      have i1 : (0 : Int) ≤ (k : Int) := by omega
      have i2 : (k : Int) < (n : Int) := by omega
      clear hO hB1 hz hc hlb
      go_wp2_with (at_builtin; refine wpList_append_own _ rfl _ _ 42 rfl w.heap.size 4 b0 _ 1 1 Try.underlying42 hb hb0 hb1 hb2 rfl (by decide) _ _ _ rfl (HO.out.alloc _) ⟨wr.heap.size, 0, none⟩ 1 1 [.bool (z.tmod 2 == 0)] rfl rfl (cell_one_newN _ _ _) (by simp [Value.oneCell']) (by simp only [maxLen]; omega) (by omega) (by simp; omega) ?_; intro v1 w3 hO3 hg1 hj; clear hj)
      go_roundw
      case rel => exact ⟨k + 1, by go_num, by omega, by rw [HX.out]; exact hO3, HB.out.trans (((Below.refl _ wr).alloc hszr _).trans (below_own (HO.out.alloc _) hg1 hO3 (by simp; omega)))⟩
      case measure => simp [intOf]; omega
    · obtain rfl : k = n := by omega
      clear hlt hk
      obtain ⟨w1, hw1⟩ : ∃ w1, w1 = wr := ⟨_, rfl⟩
      rw [← hw1] at hO hB1 ⊢
      clear hw1
      obtain ⟨al, cl, rfl⟩ := own_sl hO
      have HB1 : Hid (Below w.heap.size w w1) := hB1
      have HSB : Hid (SeenB w1 al k (evn zs)) := boR_seen hO
      clear hO hB1
      go_wp2_with (go_at_call 45; refine (rshift_all al k cl (evn zs) w1 HSB.out).mono ?_; rintro e w2 ⟨v2, rfl, o2, b2⟩)
      obtain ⟨ap, cp, rfl⟩ := own_sl o2
      have HO2 : Hid (w2.ownsRow w1.heap.size 3 1 (.slice ap (kN k) cp) (kN k) ((if k ≤ 65536 then ixP k (foldP (evn zs) (hopsL k)) else []).map (Value.int .i64))) := o2
      have HB2 : Hid (Below w.heap.size w w2) := HB1.out.trans ⟨b2.os, b2.tape, b2.output, b2.size, fun j hj => b2.block j (by have := HB1.out.size; omega)⟩
      have hkk := kN_le k
      obtain ⟨K, hK⟩ : ∃ K, kN k = K := ⟨_, rfl⟩
      have HK : Hid (kN k = K) := hK
      rw [hK] at HO2 hkk ⊢
      clear o2 b2 hK HB1 HSB
      go_loopw [6, 7] (fun o v wr => ∃ t : Nat, v = .int .i64 (t : Int) ∧ t ≤ K ∧ wr.ownsRow w2.heap.size 3 1 o t (((sN k zs).take t).map (Value.int .i64)) ∧ Below w2.heap.size w2 wr) (fun _ v _ => K - (intOf v).toNat)
      case atStart => exact ⟨0, rfl, by omega, World.ownsRow_nil _ _ _ _, Below.refl _ _⟩
      case round =>
        obtain ⟨t, rfl, ht, hO, hB3⟩ := hrel
        by_cases hlt : t < K
        · have hk6 : k ≤ 65536 := by
            rcases Nat.lt_or_ge 65536 k with h | h
            · have := HK.out; unfold kN at this; rw [if_neg (by omega)] at this; omega
            · exact h
          have hKk : K = k := by have := HK.out; unfold kN at this; rw [if_pos hk6] at this; omega
          have oP := ownsRow_below HO2.out hB3
          rw [if_pos hk6] at oP
          obtain ⟨gp, rfl⟩ : ∃ gp, ap = some ⟨gp, 0, none⟩ := by
            rcases oP.2 with ⟨_, h0⟩ | ⟨g, cap, cur, e, _⟩
            · omega
            · simp only [Value.slice.injEq] at e; exact ⟨g, e.1⟩
          have cP := (own_at oP t hlt).1
          have hpl := foldP_lt (evn zs) k t (by omega)
          rw [ixP_get k _ t (by omega)] at cP
          obtain ⟨X, hX⟩ : ∃ X, foldP (evn zs) (hopsL k) t = X := ⟨_, rfl⟩
          rw [hX] at cP hpl
          obtain ⟨b, o, rfl, hlb, hc⟩ := (HS.out.later (HB2.out.trans ⟨hB3.os, hB3.tape, hB3.output, hB3.size, fun j hj => hB3.block j (by have := HB2.out.size; omega)⟩) (Nat.le_refl _)).cells (by omega)
          have c1 := hc X hpl
          obtain ⟨z, hz⟩ : ∃ z, zs.getD X 0 = z := ⟨_, rfl⟩
          rw [hz] at c1
          have HX : Hid (((sN k zs).take (t + 1)).map (Value.int .i64) = ((sN k zs).take t).map (Value.int .i64) ++ [.int .i64 z]) := by
            show ((sN k zs).take (t + 1)).map (Value.int .i64) = ((sN k zs).take t).map (Value.int .i64) ++ [.int .i64 z]
            rw [← hz, ← hX]; exact sN_snoc k t zs _ rfl hk6 (by omega)
          have HO : Hid (wr.ownsRow w2.heap.size 3 1 u6 t (((sN k zs).take t).map (Value.int .i64))) := hO
          have HB : Hid (Below w2.heap.size w2 wr) := hB3
          have hszr := hB3.size
          have i1 : (0 : Int) ≤ (t : Int) := by omega
          have i2 : (t : Int) < (K : Int) := by omega
          have i3 : (X : Int) < (k : Int) := by omega
          have i4 : (0 : Int) ≤ (X : Int) := by omega
          clear hO hB3 hz hc hlb oP hX hKk hk6
          go_wp2_with (at_builtin; refine wpList_append_own _ rfl _ _ 44 rfl w2.heap.size 3 i0 _ 1 8 Try.underlying44 hi hz0 hz1 hz2 rfl (by decide) _ _ _ rfl (HO.out.alloc _) ⟨wr.heap.size, 0, none⟩ 1 1 [.int .i64 z] rfl rfl (cell_one_newN _ _ _) (by simp [Value.oneCell']) (by simp only [maxLen]; omega) (by omega) (by simp; omega) ?_; intro v1 w3 hO3 hg1 hj; clear hj)
          go_roundw
          case rel => exact ⟨t + 1, by go_num, by omega, by rw [HX.out]; exact hO3, HB.out.trans (((Below.refl _ wr).alloc hszr _).trans (below_own (HO.out.alloc _) hg1 hO3 (by simp; omega)))⟩
          case measure => simp [intOf]; omega
        · obtain rfl : t = K := by omega
          rw [List.take_of_length_le (by rw [sN_length, HK.out]; exact Nat.le_refl _)] at hO
          have HE : Hid (wr.ownsRow w.heap.size 3 1 u6 t ((sN k zs).map (Value.int .i64)) ∧ Below w.heap.size w wr) := ⟨ownsRow_base hO HB2.out.size, HB2.out.trans ⟨hB3.os, hB3.tape, hB3.output, hB3.size, fun j hj => hB3.block j (by have := HB2.out.size; omega)⟩⟩
          clear hO hB3
          go_wp2_with (fail)
          go_ret
          exact ⟨_, rfl, by rw [HK.out]; exact HE.out.1, HE.out.2⟩
set_option maxHeartbeats 1000000 in
theorem shiftI_big (ao : Option Addr) (n c : Nat) (hn : 65536 < n) (B : FuncId) (caps : Array Value) (w : World) :
    Calls Try.prog 29 #[.slice ao n c, .func (.func B) #[] caps] w fun e w' => e = .returned (.slice none 0 0) ∧ Below w.heap.size w w' := by
  have h : (65536 : Int) < (n : Int) := by omega
  refine (callsIn_wide (n := 30)).1 ?_
  refine callsIn_of_wp_marks Try.func29 rfl trivial ?_ rfl
  simp only [Try.ntmps29, List.size_toArray, List.length_cons, List.length_nil, Nat.reduceAdd, Nat.reduceSub, Array.replicate_succ, Array.replicate_zero, List.push_toArray, List.append_toArray, List.nil_append, List.cons_append]
  gi_wp2
  exact ⟨.slice none 0 0, by kernel_rfl, rfl, Below.refl _ _⟩
set_option maxHeartbeats 1000000 in
theorem waysI_zero (ao : Option Addr) (c0 : Nat) (B : FuncId) (caps : Array Value) (w : World) : Calls Try.prog 46 #[.slice ao 0 c0, .func (.func B) #[] caps] w fun e w' => ∃ g, e = .returned (.slice (some ⟨g, 0, none⟩) 0 0) ∧ Below w.heap.size w w' := by
  obtain ⟨i0, hi, hz0, hz1, hz2⟩ := info_parts info_int
  go_enter Try.func46, Try.ntmps46
  go_wp2_with (at_make; refine wpList_make_full _ rfl _ _ 44 rfl w.heap.size 3 i0 (.int .i64 0) 1 Try.underlying44 hi hz0 hz1 .i64 .i64 _ _ 0 (by rfl) (by rfl) (by rfl) (by rfl) (by rw [hz2]; omega) (by unfold maxLen; omega) (Nat.le_refl _) ?_; intro w1 hown1 hgrow1)
  have hB1 : Below w.heap.size w w1 := (Below.refl _ w).grown hgrow1 (Nat.le_refl _) (fun j e => by cases e)
  clear hown1 hgrow1
  go_loopw [6, 14] (fun d v wr => v = .int .i64 0 ∧ d = .int .i64 0 ∧ Below w.heap.size w wr) (fun _ v _ => 0)
  case atStart => exact ⟨rfl, rfl, hB1⟩
  case round =>
    obtain ⟨rfl, rfl, hB2⟩ := hrel
    go_wp2_with (fail)
    go_ret
    exact ⟨_, rfl, hB2⟩
theorem ownFrom_row {β : Type} (B base n : Nat) {v : Value} {e : TypeId} {xs : List Value} : OwnFrom B (fun (_ : β) W => W.ownsRow base e 1 v n xs) :=
  fun _ X Y row hs hg hr => own_block hs fun b hb => hg.block b (hs.lt b hb).2 (fun e => by
    obtain ⟨_, o, h1, h2⟩ := hr b e.symm
    rcases hs.2 with ⟨rfl, _⟩ | ⟨g, cap, cur, rfl, _, h3, _⟩
    · cases hb
    · simp [Value.ownBlock] at hb
      subst hb
      rw [h3] at h1; cases h1; cases h2)
set_option maxRecDepth 100000 in
set_option maxHeartbeats 4000000 in
theorem shiftI_zero (ad : Addr) (c : Nat) (B : FuncId) (caps : Array Value) (w : World) :
    Calls Try.prog 29 #[.slice (some ad) 0 c, .func (.func B) #[] caps] w fun e w' => ∃ v, e = .returned v ∧ w'.ownsRow w.heap.size 3 1 v 0 [] ∧ Below w.heap.size w w' := by
  refine (callsIn_wide (n := 30)).1 ?_
  refine callsIn_of_wp_marks Try.func29 rfl trivial ?_ rfl
  simp only [Try.ntmps29, List.size_toArray, List.length_cons, List.length_nil, Nat.reduceAdd, Nat.reduceSub, Array.replicate_succ, Array.replicate_zero, List.push_toArray, List.append_toArray, List.nil_append, List.cons_append]
  gi_wp2_with (first | (refine ⟨trivial, ?_⟩; gi_at_call 42; refine (callsIn_wide.2 (sclone_any (some ad) 0 c [] _ ⟨rfl, fun h => absurd h (Nat.lt_irrefl 0)⟩ (by omega) (fun h => by cases h))).mono ?_; rintro e w1 ⟨vv, rfl, o1, b1⟩; obtain ⟨a1, c1, rfl⟩ := own_sl o1) | (refine ⟨trivial, ?_⟩; gi_at_call 46; refine (callsIn_wide.2 (waysI_zero a1 c1 B caps _)).mono ?_; rintro e w2 ⟨gw, rfl, b2⟩; have bSx : Boxed w2 w1.heap.size 44 (.slice a1 0 c1) := (b2.block w1.heap.size (by simp)).trans (Boxed.new w1 _ _); have cS5 : ∀ ob, (w2.alloc ob).cell? ⟨w1.heap.size, 0, none⟩ = some (.slice a1 0 c1) := fun ob => (bSx.alloc ob).cell) | (refine ⟨trivial, ?_⟩; gi_at_call 15; refine (hops_in _ _ trivial rfl _ _).mono ?_; rintro e w' ⟨rfl, rfl⟩))
  clear cS5
  have bS0 := (bSx.alloc (.cells #[.slice (some ⟨gw, 0, none⟩) 0 0] 44)).alloc (.cells #[.int .i64 0] 3)
  have bN0 := Boxed.new (w2.alloc (.cells #[.slice (some ⟨gw, 0, none⟩) 0 0] 44)) 3 (.int .i64 0)
  simp only [World.size_alloc] at bN0
  have hB2 : Below w.heap.size w w2 := (b1.alloc b1.size _).trans ⟨b2.os, b2.tape, b2.output, b2.size, fun k hk => b2.block k (by have := b1.size; simp; omega)⟩
  have hw1 : w1.heap.size < w2.heap.size := by have := b2.size; simp at this; omega
  have oW2 : w2.ownsRow w.heap.size 3 1 (.slice a1 0 c1) 0 [] := ownsRow_below (o1.alloc _) b2
  have hB0 := (hB2.alloc hB2.size (.cells #[.slice (some ⟨gw, 0, none⟩) 0 0] 44)).alloc (by have := hB2.size; simp; omega) (.cells #[.int .i64 0] 3)
  have oW0 := (oW2.alloc (.cells #[.slice (some ⟨gw, 0, none⟩) 0 0] 44)).alloc (.cells #[.int .i64 0] 3)
  have hsz : ((w2.alloc (.cells #[.slice (some ⟨gw, 0, none⟩) 0 0] 44)).alloc (.cells #[.int .i64 0] 3)).heap.size = w2.heap.size + 2 := by simp
  obtain ⟨W0, hW0⟩ : ∃ W0, (w2.alloc (.cells #[.slice (some ⟨gw, 0, none⟩) 0 0] 44)).alloc (.cells #[.int .i64 0] 3) = W0 := ⟨_, rfl⟩
  rw [hW0] at bS0 bN0 hB0 oW0 hsz ⊢
  have HO : Hid (W0.ownsRow w.heap.size 3 1 (.slice a1 0 c1) 0 [] ∧ W0.heap.size = w2.heap.size + 2 ∧ w1.heap.size < w2.heap.size) := ⟨oW0, hsz, hw1⟩
  have hR0 : w.heap.size ≤ W0.heap.size := hB0.size
  clear hW0 hB2 bSx b2 b1 o1 oW2 oW0 hsz hw1
  have hst := hops_stopsV Fence.wide 29 trivial rfl (by omega) (w2.heap.size + 1) 0 (by omega) id (fun e j h => absurd h (Nat.not_lt_zero _)) W0 bN0
  refine wpIn_rangeFunc_ownH rfl (by omega) (gf := 38) (lb := #[.pointer (some ⟨w2.heap.size + 1, 0, none⟩)]) rfl trivial (enters_of Try.func38 (by kernel_rfl) rfl)
    hst kpB_t (kpB_b bN0.lt) (Below.refl _ _) (fun _ => rfl)
    (fun pre W => (Below w.heap.size w W ∧ W.ownsRow w.heap.size 3 1 (.slice a1 0 c1) 0 []) ∧ Boxed W w1.heap.size 44 (.slice a1 0 c1))
    (fun cc pre W => False)
    (OwnFrom.and (OwnFrom.and (ownFrom_below (Nat.le_refl _) hR0) (ownFrom_row _ _ _)) (Own.from (boxed_own _ _ _) _))
    (fun cc => ownFrom_pure _ (fun _ => False))
    ⟨⟨hB0, HO.out.1⟩, bS0⟩
    (fun x a' W => True)
    (fun _ _ _ _ _ _ hs _ _ => hs)
    ?assign ?body ?done ?stop
  case assign =>
    rintro l pre x W K ⟨⟨hB1, oW⟩, bS1⟩ hK
    simp only [hopV]
    gi_wp2
    exact hK _ _ ((KeepsOthers.alloc _ _).from _) (fun h => h.alloc _) ⟨⟨hB1.alloc hB1.size _, oW.alloc _⟩, bS1.alloc _⟩ trivial
  case body =>
    rintro l pre x a' W hl hr0 _ _ hlt
    have : hopsL 0 = [] := by unfold hopsL; rw [hopsK_stop 0 0 17 (by omega) (by simp)]; rfl
    rw [this] at hlt; simp at hlt
  case done =>
    rintro D xs W hD hxs ⟨⟨hB1, oW⟩, bS1⟩ hK
    have cS := bS1.cell
    gi_wp2
    refine ⟨by simp, .inl ⟨_, _, rfl, run_takeDeferred hK, ?_⟩⟩
    refine ⟨.slice a1 0 c1, by kernel_rfl, _, rfl, own_block oW fun b hb => World.putObj_heap_other (fun e => ?_), ?_⟩
    · have := (HO.out.1.lt b hb).2
      omega
    · exact hB1.trans ⟨rfl, rfl, rfl, by simp [World.putObj], fun k hk => World.putObj_heap_other (by omega)⟩
  case stop => rintro D cc pre W hD hpre h; exact h.elim
/-- What Shift answers of any list of n numbers, and what was asked. -/
theorem shf_any (ad : Addr) (n c A : Nat) (v : Value) (lq zs : List Int) (w : World) (hs : SeenZ w (some ad) n zs) (hA : Ask w A v lq) (hll : lq.length ≤ 1048576) :
    Calls Try.prog 29 #[.slice (some ad) n c, .func (.func 27) #[] #[.pointer (some ⟨A, 0, none⟩)]] w fun e w' => ∃ vr, e = .returned vr ∧ w'.ownsRow w.heap.size 3 1 vr (kN n) ((sN n zs).map (Value.int .i64)) ∧
      ∃ v', Ask w' A v' (lq ++ aN n zs) ∧ (v'.ownBlock = v.ownBlock ∨ ∀ b, v'.ownBlock = some b → w.heap.size ≤ b ∧ vr.ownBlock ≠ some b) ∧ Kept (AskS A v) w w' := by
  have hbk : ∀ {w' : World}, Below w.heap.size w w' → Kept (AskS A v) w w' := fun b => ⟨b.os, b.tape, b.output, b.size, fun k hk _ => b.block k hk⟩
  by_cases hn : n ≤ 65536
  · have ek : kN n = n := by unfold kN; rw [if_pos hn]
    have es : sN n zs = izP zs n (foldP (evn zs) (hopsL n)) := by unfold sN; rw [if_pos hn]
    have ea : aN n zs = zs := by unfold aN; rw [if_pos hn]
    rw [ek, es, ea]
    by_cases h0 : n = 0
    · subst h0
      have hz : zs = [] := List.eq_nil_of_length_eq_zero hs.len
      subst hz
      refine (shiftI_zero ad c 27 _ w).mono ?_
      rintro e w' ⟨vr, rfl, o, b⟩
      exact ⟨vr, rfl, by simpa [izP] using o, v, by simpa using hA.later b, .inl rfl, hbk b⟩
    · refine (shiftI_some ad n c A v lq zs (evn zs) rfl (by omega) hn w hs hA hll).mono ?_
      rintro e w' ⟨g, cp, rfl, hg, hcp, r, v', hA', hv', hK⟩
      have ho := rowI_own r hg hcp
      rw [izP_length] at ho
      refine ⟨_, rfl, ho, v', hA', ?_, hK⟩
      rcases hv' with h | h
      · exact .inl h
      · exact .inr fun b hb => ⟨(h b hb).1, fun e => (h b hb).2 (by simpa [Value.ownBlock] using e.symm)⟩
  · have ek : kN n = 0 := by unfold kN; rw [if_neg hn]
    have es : sN n zs = [] := by unfold sN; rw [if_neg hn]
    have ea : aN n zs = [] := by unfold aN; rw [if_neg hn]
    rw [ek, es, ea]
    refine (shiftI_big (some ad) n c (by omega) 27 _ w).mono ?_
    rintro e w' ⟨rfl, b⟩
    exact ⟨_, rfl, World.ownsRow_nil _ _ _ _, v, by simpa using hA.later b, .inl rfl, hbk b⟩
end Go.Proofs.Ytlkpgbilepehmaa
