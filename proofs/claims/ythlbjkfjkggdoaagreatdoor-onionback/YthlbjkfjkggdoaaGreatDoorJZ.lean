/- For every private keys of servers, every private keys, every round and every texts: what is wrapped for the servers is peeled by each in its turn, with the keys that were told, and what they answer, sealed by the last one first, is told to who wrapped; or the error that the document asks: trystlaw10.OnionBack returns true. Conditions: none but the table of words as the program's text lays it (tied). -/
import Derived.Test.YthlbjkfjkggdoaaGreatDoorCards
import Derived.Test.YthlbjkfjkggdoaaGreatDoorTie
import Derived.Deep.DeepHandedRow
import Derived.JoinedCond
import Derived.Test.YthlbjkfjkggdoaaGreatDoorJA
import Derived.Test.YthlbjkfjkggdoaaGreatDoorJL
import Derived.Test.YthlbjkfjkggdoaaGreatDoorJN
set_option maxRecDepth 100000
set_option maxHeartbeats 8000000
namespace Go.Proofs.YthlbjkfjkggdoaaGreatDoor
open Go.RowKit
set_option linter.unusedVariables false
set_option linter.unusedSimpArgs false
def repsF (rd : Int) (l : List (List Int × List Int)) : List Int := (l.map fun x => repO rd x.1 x.2).flatten
theorem repO_length (rd : Int) (s p : List Int) : (repO rd s p).length = 32 := repL_length _ _ _ _
theorem repO_bytes (rd : Int) (s p : List Int) : Bytes (repO rd s p) := repL_bytes _ _ _ _
def isW (B n : Nat) (zs rep : List Int) (x : Int) (v : Value) (w : World) : Prop := ∃ ao c, v = .tuple #[.slice ao n c, .agg (u8s rep).toArray, .int .u64 x] ∧ isO B n zs (.slice ao n c) w
theorem isW_later (B n : Nat) (zs rep : List Int) (x : Int) : ∀ v w w', Below w.heap.size w w' → isW B n zs rep x v w → isW B n zs rep x v w' := fun _ _ _ hb ⟨ao, c, h1, h2⟩ => ⟨ao, c, h1, isO_later _ _ _ _ _ _ hb h2⟩
theorem rangeAt_keptG {S : Nat → Prop} {w w' : World} {b o : Nat} {cs : List Value} (h : w.rangeAt b o cs) (hk : Kept S w w') (hS : ¬ S b) : w'.rangeAt b o cs := fun j v hv => (hk.cell (p := ⟨b, o + j, none⟩) (World.block_lt_of_cell? w _ (h j v hv)) hS).trans (h j v hv)
theorem isO_keptB {g B n : Nat} {zs : List Int} {v : Value} {w w' : World} (h : isO B n zs v w) (hk : Kept (fun k => k = g) w w') (hS : ∀ k, v.ownBlock = some k → k ≠ g) : isO B n zs v w' := by
 refine ⟨h.1, ?_⟩
 rcases h.2 with h0 | ⟨q, cap, cur, rfl, hg, hh, r⟩
 ·exact .inl h0
 ·exact .inr ⟨q, cap, cur, rfl, hg, by rw [hk.block q (Array.getElem?_eq_some_iff.1 hh).1 (hS q rfl)]; exact hh, r⟩
theorem made_keys (m : Nat) : madeCells (u8s (zer 32)).toArray (m * 32) = (u8s (List.replicate (32 * m) 0)).toArray := by
 rw [made32, Nat.mul_comm m 32]; rfl
theorem pair_at (ss ps : List (List Int)) (n j : Nat) (hs : ss.length = n) (hp : ps.length = n) (hj : j < n) : (ss.zip ps).drop j = (ss.getD j [], ps.getD j []) :: (ss.zip ps).drop (j + 1) := by
 have h : j < (ss.zip ps).length := by rw [List.length_zip]; omega
 rw [List.drop_eq_getElem_cons h]
 simp [List.getD, hs, hp, hj]
theorem wrap_servers (so po : Option Addr) (sn sc pn pc : Nat) (rd : Int) (ao : Option Addr) (m c : Nat) (hs : sn ≤ 140737488355328) (hp : pn ≤ 140737488355328) (h : ¬ (1 ≤ sn ∧ sn ≤ 8 ∧ pn = sn)) (w : World) :
  Calls Tryz.prog 17 #[.slice so sn sc, .slice po pn pc, .int .u64 rd, .slice ao m c] w fun e w' => e = .returned (.tuple #[.slice none 0 0, .slice none 0 0, .int .i64 100]) ∧ w = w' := by
 have CM := mayServe_any sn hs
 by_cases h1 : 1 ≤ sn ∧ sn ≤ 8
 ·rw [show decide (1 ≤ sn ∧ sn ≤ 8) = true by simp; omega] at CM
  have hne : pn ≠ sn := fun e => h ⟨h1.1, h1.2, e⟩
  have i1 : ¬ ((pn : Int) = (sn : Int)) := by omega
  clear h h1 hne
  go_enter Tryz.func17, Tryz.ntmps17
  go_wp2_with (go_at_call 60; refine (CM _).mono ?_; rintro e _ ⟨rfl, rfl⟩)
  go_ret3
  exact ⟨rfl, rfl⟩
 ·rw [show decide (1 ≤ sn ∧ sn ≤ 8) = false by simp; omega] at CM
  clear h h1
  go_enter Tryz.func17, Tryz.ntmps17
  go_wp2_with (go_at_call 60; refine (CM _).mono ?_; rintro e _ ⟨rfl, rfl⟩)
  go_ret3
  exact ⟨rfl, rfl⟩
theorem wrap_long (so po : Option Addr) (n sc pc : Nat) (rd : Int) (ao : Option Addr) (m c : Nat) (hn : 1 ≤ n ∧ n ≤ 8) (hm : m ≤ 140737488355328) (h : 1048576 < m + 48 * n) (w : World) :
  Calls Tryz.prog 17 #[.slice so n sc, .slice po n pc, .int .u64 rd, .slice ao m c] w fun e w' => e = .returned (.tuple #[.slice none 0 0, .slice none 0 0, .int .i64 3]) ∧ w = w' := by
 have CM := mayServe_any n (by omega)
 rw [show decide (1 ≤ n ∧ n ≤ 8) = true by simp; omega] at CM
 obtain ⟨h1, h8⟩ := hn
 have v1 : IntKind.i64.wrap ((n : Int) * 48) = (n : Int) * 48 := by simp only [IntKind.wrap, IntKind.bits, IntKind.signed]; simp; omega
 have v2 : IntKind.i64.wrap (1048576 - (n : Int) * 48) = 1048576 - (n : Int) * 48 := by simp only [IntKind.wrap, IntKind.bits, IntKind.signed]; simp; omega
 have i1 : 1048576 - (n : Int) * 48 < (m : Int) := by omega
 go_enter Tryz.func17, Tryz.ntmps17
 go_wp2_with (go_at_call 60; refine (CM _).mono ?_; rintro e _ ⟨rfl, rfl⟩)
 go_ret3
 exact ⟨rfl, rfl⟩
theorem wrap_any (ss ps : List (List Int)) (rd : Int) (so po : Option Addr) (n sc pc : Nat) (ao : Option Addr) (m c : Nat) (zs : List Int) (hn : 1 ≤ n ∧ n ≤ 8) (hr : 0 ≤ rd ∧ rd < 18446744073709551616) (hm : m + 48 * n ≤ 1048576) (hV : ∀ i, i < n → prodN (ps.getD i []) (ss.getD i []) ≠ 0) (w : World) (hs : KeysS w so n ss) (hp : KeysS w po n ps) (hx : Seen w ao m zs) (hc : m ≤ c) (hK : KTab w) :
  Calls Tryz.prog 17 #[.slice so n sc, .slice po n pc, .int .u64 rd, .slice ao m c] w fun e w' => ∃ qo qc G, e = .returned (.tuple #[.slice qo (m + 48 * n) qc, .slice (some ⟨G, 0, none⟩) n n, .int .i64 0]) ∧ isO w.heap.size (m + 48 * n) (wrapL rd (ss.zip ps) zs) (.slice qo (m + 48 * n) qc) w' ∧ w.heap.size ≤ G ∧ Blk w' G 23 (u8s (repsF rd (ss.zip ps))) ∧ Below w.heap.size w w' := by
 have CM := mayServe_any n (by omega)
 rw [show decide (1 ≤ n ∧ n ≤ 8) = true by simp; omega] at CM
 obtain ⟨i0, hi0, hz0, hz1, hz2⟩ := info_parts info_Key
 have hmk : ∀ w1 : World, _ := fun w1 => run_make (P := Tryz.prog) w1 31 23 i0 _ Tryz.underlying31 hi0 hz0 .i64 .i64 (n : Int) (n : Int) (by omega) (Int.le_refl _) (by rw [hz2]; omega) (by omega)
 simp only [hz1, Int.toNat_natCast, Value.cells, made_keys] at hmk
 have HX : Hid (KeysS w so n ss ∧ KeysS w po n ps ∧ Seen w ao m zs ∧ m ≤ c ∧ KTab w ∧ m + 48 * n ≤ 1048576 ∧ (∀ i, i < n → prodN (ps.getD i []) (ss.getD i []) ≠ 0)) := ⟨hs, hp, hx, hc, hK, hm, hV⟩
 have HR : Hid (0 ≤ rd ∧ rd < 18446744073709551616) := hr
 obtain ⟨h1, h8⟩ := hn
 have v1 : IntKind.i64.wrap ((n : Int) * 48) = (n : Int) * 48 := by simp only [IntKind.wrap, IntKind.bits, IntKind.signed]; simp; omega
 have v2 : IntKind.i64.wrap (1048576 - (n : Int) * 48) = 1048576 - (n : Int) * 48 := by simp only [IntKind.wrap, IntKind.bits, IntKind.signed]; simp; omega
 have i1 : ¬ (1048576 - (n : Int) * 48 < (m : Int)) := by omega
 have HG : Hid (∀ l : List (List Int × List Int), True) := fun _ => trivial
 clear hs hp hx hc hK hm hV hr hi0 hz0 hz1 hz2 HG
 go_enter Tryz.func17, Tryz.ntmps17
 go_wp2_with (go_at_call 60; refine (CM _).mono ?_; rintro e _ ⟨rfl, rfl⟩)
 clear v1 v2 i1 CM
 refine wp_region_noPanic (wp_region_any (by kernel_rfl) ?_)
 refine take_op 0 (some 35) (.slice ao m c) rfl rfl (by kernel_rfl) (by kernel_rfl) (by kernel_rfl) (fun _ _ _ h => h) (by rfl) (fun W' => by rfl) ?_
 simp only [Act.put, sA, sB, sC]
 refine take_op 1 (some 36) (.slice so n sc) rfl rfl (by kernel_rfl) (by kernel_rfl) (by kernel_rfl) (fun _ _ _ h => h) (by rfl) (fun W' => by rfl) ?_
 simp only [Act.put, sA, sB, sC]
 refine take_op 2 (some 37) (.int .i64 (n : Int)) rfl rfl (by kernel_rfl) (by kernel_rfl) (by kernel_rfl) (fun _ _ _ h => h) (by rfl) (fun W' => by go_simp) ?_
 simp only [Act.put, sA, sB, sC]
 refine take_op 4 (some 11) (.slice ao m c) rfl rfl (by kernel_rfl) (by kernel_rfl) (by kernel_rfl) (fun _ _ _ h => h) (by rfl) (fun W' => by rfl) ?_
 simp only [Act.put, sA, sB, sC]
 refine wpAny_ready (rs := [3]) (by kernel_rfl) (by simp) (AllReady.cons rfl (fun K hK => ?_) AllReady.nil)
 have hmk2 := hmk w.drew
 rw [if_pos (by rfl)]
 refine Does.wp (base := 0) (E := .any (fun v W => v = .slice (some ⟨w.heap.size, 0, none⟩) n n ∧ Blk W w.heap.size 23 (u8s (List.replicate (32 * n) 0))) (fun v W W' hb h => ⟨h.1, h.2.later hb h.2.lt⟩)) ?_ (fun v3 x3 p3 l3 => ?_)
 ·refine Does.run (.slice (some ⟨w.heap.size, 0, none⟩) n n) (w' := w.drew.alloc (.cells (u8s (List.replicate (32 * n) 0)).toArray 23)) ?_ ⟨rfl, heap_alloc_new w.drew _⟩ ((Below.refl _ _).alloc (Nat.le_refl _) _)
  clear hK K
  go_simp
 change K (Act.put _ (some 38) v3) x3
 refine hK _ _ ?_
 clear hK K hmk2
 obtain ⟨rfl, b3⟩ := p3
 simp only [Act.put, sA, sB, sC]
 refine take_op 5 (some 12) (.slice (some ⟨w.heap.size, 0, none⟩) n n) rfl rfl (by kernel_rfl) (by kernel_rfl) (by kernel_rfl) (fun _ _ _ h => h) (by rfl) (fun W' => by rfl) ?_
 simp only [Act.put, sA, sB, sC]
 refine wpAny_done (by kernel_rfl) (NoPanic.normal ?_) _
 have B3 : Hid (Below w.heap.size w x3 ∧ Blk x3 w.heap.size 23 (u8s (List.replicate (32 * n) 0))) := ⟨below_chain (below_dn (Below.refl _ _) 1) l3 (Nat.le_refl _), b3⟩
 clear l3 b3 hmk
 go_wp2_with fail
 go_loopw [11, 13] (fun v i wr => ∃ k : Nat, k ≤ n ∧ i = .int .i64 ((k : Int) - 1) ∧ ySl (m + 48 * (n - k)) (wrapL rd ((ss.zip ps).drop k) zs) v wr ∧ (k < n → isO w.heap.size (m + 48 * (n - k)) (wrapL rd ((ss.zip ps).drop k) zs) v wr) ∧ Blk wr w.heap.size 23 (u8s (List.replicate (32 * k) 0 ++ repsF rd ((ss.zip ps).drop k))) ∧ Below w.heap.size w wr) (fun _ i _ => (intOf i + 1).toNat)
 case atStart =>
  have hl : (ss.zip ps).length = n := by rw [List.length_zip, HX.out.1.len, HX.out.2.1.len, Nat.min_self]
  refine ⟨n, Nat.le_refl _, by first | rfl | go_num, ⟨ao, c, by rw [Nat.sub_self]; rfl, ?_, ?_⟩, fun h => absurd h (Nat.lt_irrefl _), ?_, B3.out.1⟩
  ·rw [Nat.sub_self, Nat.mul_zero, Nat.add_zero, List.drop_of_length_le (by omega), wrapL]
   exact HX.out.2.2.1.later B3.out.1 (Nat.le_refl _)
  ·have := HX.out.2.2.2.1; omega
  ·rw [List.drop_of_length_le (by omega), repsF, List.map_nil, List.flatten_nil, List.append_nil]; exact B3.out.2
 case round =>
  obtain ⟨k, hk, rfl, hv, hvo, hG, hbel⟩ := hrel
  obtain ⟨vo, vc, rfl, hvs, hvc⟩ := hv
  by_cases hlt : 0 < k
  ·obtain ⟨j, rfl⟩ : ∃ j, k = j + 1 := ⟨k - 1, by omega⟩
   have hj : j < n := by omega
   have e1 : ((j + 1 : Nat) : Int) - 1 = (j : Int) := by omega
   rw [e1]
   obtain ⟨b1, o1, rfl, hb1, hr1⟩ := HX.out.1.cells j hj
   obtain ⟨b2, o2, rfl, hb2, hr2⟩ := HX.out.2.1.cells j hj
   obtain ⟨g1, y1⟩ := HX.out.1.good j hj
   obtain ⟨g2, y2⟩ := HX.out.2.1.good j hj
   have hP := pair_at ss ps n j HX.out.1.len HX.out.2.1.len hj
   have hVj := HX.out.2.2.2.2.2.2 j hj
   obtain ⟨s, hs⟩ : ∃ q, ss.getD j [] = q := ⟨_, rfl⟩
   obtain ⟨p, hp⟩ : ∃ q, ps.getD j [] = q := ⟨_, rfl⟩
   rw [hs] at hr1 g1 y1 hP hVj
   rw [hp] at hr2 g2 y2 hP hVj
   obtain ⟨T, hT⟩ : ∃ q, wrapL rd ((ss.zip ps).drop (j + 1)) zs = q := ⟨_, rfl⟩
   obtain ⟨F, hF⟩ : ∃ q, repsF rd ((ss.zip ps).drop (j + 1)) = q := ⟨_, rfl⟩
   obtain ⟨L, hL⟩ : ∃ q, m + 48 * (n - (j + 1)) = q := ⟨_, rfl⟩
   have hm6 := HX.out.2.2.2.2.2.1
   rw [hT, hL] at hvs
   rw [hL] at hvc ⊢
   rw [hF] at hG
   have CP := fun (W : World) (hw : Seen W vo L T) (hk' : KTab W) => putOn_any s p rd vo L vc T g1 y1 g2 y2 HR.out (by omega) W hw hvc hk'
   rw [valid_yes hVj] at CP
   have hA1 : wrapL rd ((ss.zip ps).drop j) zs = layL rd s p T := by rw [hP, wrapL, hT]
   have hA2 : repsF rd ((ss.zip ps).drop j) = repO rd s p ++ F := by rw [hP, repsF, List.map_cons, List.flatten_cons, ← hF, repsF]
   obtain ⟨kb, hkb⟩ : ∃ q, repO rd s p = q := ⟨_, rfl⟩
   obtain ⟨LY, hLY⟩ : ∃ q, layL rd s p T = q := ⟨_, rfl⟩
   have hTb : Bytes T := hvs.bytes
   have HY : Hid (LY.length = L + 48 ∧ Bytes LY ∧ kb.length = 32 ∧ wrapL rd ((ss.zip ps).drop j) zs = LY ∧ repsF rd ((ss.zip ps).drop j) = kb ++ F ∧ m + 48 * (n - j) = L + 48 ∧ L + 48 ≤ 1048576) := by
    refine ⟨?_, ?_, ?_, ?_, ?_, by omega, by omega⟩
    ·rw [← hLY, layL_length, hvs.len]
    ·rw [← hLY]; exact layL_bytes _ _ _ hTb
    ·rw [← hkb]; exact repO_length _ _ _
    ·rw [hA1, hLY]
    ·rw [hA2, hkb]
   rw [hkb, hLY] at CP
   have hGx : Blk wr w.heap.size 23 (u8s (List.replicate (j * 32) 0) ++ (u8s (List.replicate 32 0) ++ u8s F)) := by
    have e : List.replicate (32 * (j + 1)) (0 : Int) ++ F = List.replicate (j * 32) 0 ++ (List.replicate 32 0 ++ F) := by
     rw [← List.append_assoc, List.replicate_append_replicate, show j * 32 + 32 = 32 * (j + 1) by omega]
    rw [e] at hG
    simpa [u8s] using hG
   have HB : Hid (Below w.heap.size w wr ∧ Seen wr vo L T ∧ Blk wr w.heap.size 23 (u8s (List.replicate (j * 32) 0) ++ (u8s (List.replicate 32 0) ++ u8s F)) ∧ wr.rangeAt b1 (o1 + j * 32) (u8s s) ∧ wr.rangeAt b2 (o2 + j * 32) (u8s p) ∧ s.length = 32 ∧ p.length = 32 ∧ b1 < w.heap.size ∧ b2 < w.heap.size ∧ KTab wr) := ⟨hbel, hvs, hGx, rangeAt_below hr1 hbel hb1, rangeAt_below hr2 hbel hb2, g1, g2, hb1, hb2, HX.out.2.2.2.2.1.below hbel HX.out.2.2.2.2.1.lt⟩
   have i1 : (0 : Int) ≤ (j : Int) := by omega
   have i2 : (j : Int) < (n : Int) := by omega
   have hsw := hbel.size
   have hsw2 : w.heap.size < wr.heap.size := hGx.lt
   clear hr1 hr2 g1 g2 y1 y2 hb1 hb2 hP hVj hs hp hT hF hL hvs hvc hG hA1 hA2 hkb hLY hTb hGx hbel hvo hm6 e1
   go_wp2_with fail
   have BD : Below wr.heap.size wr wr.drew := below_dn (Below.refl _ _) 1
   have sD : wr.drew.heap.size = wr.heap.size := rfl
   have q1 := HB.out.2.2.2.2.2.2.2.1
   have q2 := HB.out.2.2.2.2.2.2.2.2.1
   refine wp_region_noPanic (wp_region_held_drew (S := fun W => W.rangeAt b1 (o1 + j * 32) (u8s s) ∧ W.rangeAt b2 (o2 + j * 32) (u8s p)) (by kernel_rfl) ⟨HB.out.2.2.2.1, HB.out.2.2.2.2.1⟩ (fun hH => ?_))
   refine hTake 0 (some 47) (.slice (some ⟨b1, o1, none⟩) n sc) rfl rfl (by kernel_rfl) (by kernel_rfl) (by kernel_rfl) (fun _ _ _ h => h) (by rfl) (fun W' hS' => by go_simp) hH ?_
   simp only [Act.put, sA, sB, sC]
   refine hTake 1 (some 48) (.int .i64 (j : Int)) rfl rfl (by kernel_rfl) (by kernel_rfl) (by kernel_rfl) (fun _ _ _ h => h) (by rfl) (fun W' hS' => by go_simp) hH ?_
   simp only [Act.put, sA, sB, sC]
   refine hTake 2 (some 49) (.pointer (some ⟨b1, o1 + j * 32, none⟩)) rfl rfl (by kernel_rfl) (by kernel_rfl) (by kernel_rfl) (fun _ _ _ h => h) (by rfl) (fun W' hS' => by go_simp) hH ?_
   simp only [Act.put, sA, sB, sC]
   refine hLoad 3 (some 50) (u8s s) rfl rfl (by kernel_rfl) (by kernel_rfl) (by kernel_rfl) (fun _ _ _ h => h) (by rfl) 23 (.tmp 49) rfl b1 (o1 + j * 32) rfl _ (fun _ h => h.1) Tryz.underlying23 rfl (sizeU s HB.out.2.2.2.2.2.1) hH ?_
   simp only [Act.put, sA, sB, sC]
   refine hTake 4 (some 51) (.slice (some ⟨b2, o2, none⟩) n pc) rfl rfl (by kernel_rfl) (by kernel_rfl) (by kernel_rfl) (fun _ _ _ h => h) (by rfl) (fun W' hS' => by go_simp) hH ?_
   simp only [Act.put, sA, sB, sC]
   refine hTake 5 (some 52) (.int .i64 (j : Int)) rfl rfl (by kernel_rfl) (by kernel_rfl) (by kernel_rfl) (fun _ _ _ h => h) (by rfl) (fun W' hS' => by go_simp) hH ?_
   simp only [Act.put, sA, sB, sC]
   refine hTake 6 (some 53) (.pointer (some ⟨b2, o2 + j * 32, none⟩)) rfl rfl (by kernel_rfl) (by kernel_rfl) (by kernel_rfl) (fun _ _ _ h => h) (by rfl) (fun W' hS' => by go_simp) hH ?_
   simp only [Act.put, sA, sB, sC]
   refine hLoad 7 (some 54) (u8s p) rfl rfl (by kernel_rfl) (by kernel_rfl) (by kernel_rfl) (fun _ _ _ h => h) (by rfl) 23 (.tmp 53) rfl b2 (o2 + j * 32) rfl _ (fun _ h => h.2) Tryz.underlying23 rfl (sizeU p HB.out.2.2.2.2.2.2.1) hH ?_
   simp only [Act.put, sA, sB, sC]
   refine hTake 8 (some 55) (.int .u64 rd) rfl rfl (by kernel_rfl) (by kernel_rfl) (by kernel_rfl) (fun _ _ _ h => h) (by rfl) (fun W' hS' => by go_simp) hH ?_
   simp only [Act.put, sA, sB, sC]
   refine hTake 9 (some 56) (.slice vo L vc) rfl rfl (by kernel_rfl) (by kernel_rfl) (by kernel_rfl) (fun _ _ _ h => h) (by rfl) (fun W' hS' => by go_simp) hH ?_
   simp only [Act.put, sA, sB, sC]
   refine wpAnyH_ready (rs := [10, 15]) (by kernel_rfl) (by simp) (AllReadyH.cons rfl (fun K hK => ?_) (AllReadyH.cons rfl (fun K hK => ?_) AllReadyH.nil))
   ·rw [if_pos (by rfl)]
    refine Does.wp (base := wr.heap.size) (E := .any (isW wr.heap.size (L + 48) LY kb 18446744073709551615) (isW_later _ _ _ _ _)) ?_ (fun v10 x10 p10 l10 => ?_)
    ·refine Does.call 61 #[.agg (u8s s).toArray, .agg (u8s p).toArray, .int .u64 rd, .slice vo L vc] (by go_simp) ?_
     refine (CP wr.drew (HB.out.2.1.later BD (Nat.le_refl _)) (HB.out.2.2.2.2.2.2.2.2.2.below BD HB.out.2.2.2.2.2.2.2.2.2.lt)).mono ?_
     rintro z w' ⟨r, rfl, ho, l⟩
     obtain ⟨qo, qc, rfl⟩ := isO_form ho HY.out.1
     exact ⟨_, rfl, ⟨qo, qc, rfl, isO_base ho (by omega)⟩, l⟩
    change K (Act.put _ (some 57) v10) x10
    refine hK.out _ _ ⟨rangeAt_below hH.1 l10 (by omega), rangeAt_below hH.2 l10 (by omega)⟩ (fun hH => ?_)
    clear hK K
    simp only [Act.put, sA, sB, sC]
    obtain ⟨qo, qc, rfl, oK⟩ := p10
    have s10 := l10.size
    refine hTake 11 (some 46) (.tuple #[.slice qo (L + 48) qc, .agg (u8s kb).toArray, .int .u64 18446744073709551615]) rfl rfl (by kernel_rfl) (by kernel_rfl) (by kernel_rfl) (fun _ _ _ h => h) (by rfl) (fun W' hS' => by go_simp) hH ?_
    simp only [Act.put, sA, sB, sC]
    refine hTake 12 (some 58) (.slice qo (L + 48) qc) rfl rfl (by kernel_rfl) (by kernel_rfl) (by kernel_rfl) (fun _ _ _ h => h) (by rfl) (fun W' hS' => by go_simp) hH ?_
    simp only [Act.put, sA, sB, sC]
    refine hTake 13 (some 59) (.agg (u8s kb).toArray) rfl rfl (by kernel_rfl) (by kernel_rfl) (by kernel_rfl) (fun _ _ _ h => h) (by rfl) (fun W' hS' => by go_simp) hH ?_
    simp only [Act.put, sA, sB, sC]
    refine hTake 14 (some 60) (.int .u64 18446744073709551615) rfl rfl (by kernel_rfl) (by kernel_rfl) (by kernel_rfl) (fun _ _ _ h => h) (by rfl) (fun W' hS' => by go_simp) hH ?_
    simp only [Act.put, sA, sB, sC]
    refine wpAnyH_ready (rs := [15]) (by kernel_rfl) (by simp) (AllReadyH.cons rfl (fun K hK => ?_) AllReadyH.nil)
    rw [if_pos (by rfl)]
    refine Does.wp (base := x10.heap.size) (E := .blk 23 (u8s (List.replicate 32 0))) ?_ (fun v15 x15 p15 l15 => ?_)
    ·exact Does.alloc 23 rfl 32 _ zeroKey (by omega)
    change K (Act.put _ (some 15) v15) x15
    refine hK.out _ _ ⟨rangeAt_below hH.1 l15 (by omega), rangeAt_below hH.2 l15 (by omega)⟩ (fun hH => ?_)
    clear hK K
    simp only [Act.put, sA, sB, sC]
    obtain ⟨g15, rfl, hg15, bg⟩ := p15
    have s15 := l15.size
    have hg15n : g15 < x15.heap.size := bg.lt
    have hgA : ∀ k, (Value.slice qo (L + 48) qc).ownBlock = some k → k ≠ g15 := fun k hk => by have := (oK.lt k hk).2; omega
    have oK := isO_later _ _ _ _ _ _ l15 oK
    refine hTake 16 (some 14) (.slice qo (L + 48) qc) rfl rfl (by kernel_rfl) (by kernel_rfl) (by kernel_rfl) (fun _ _ _ h => h) (by rfl) (fun W' hS' => by go_simp) hH ?_
    simp only [Act.put, sA, sB, sC]
    refine wpAnyH_ready (rs := [17]) (by kernel_rfl) (by simp) (AllReadyH.cons rfl (fun K hK => ?_) AllReadyH.nil)
    rw [if_pos (by rfl)]
    refine last_store 23 (.tmp 15) (.tmp 59) rfl rfl g15 rfl 23 _ (u8s kb) rfl bg (lenU _ _ HY.out.2.2.1 len0) (sizeU kb HY.out.2.2.1) (u8s_one _) ?_
    intro w17 b17 s17 k17
    refine hK.out _ _ ⟨rangeAt_keptG hH.1 k17 (by omega), rangeAt_keptG hH.2 k17 (by omega)⟩ (fun hH => ?_)
    clear hK K
    refine hTake 18 (some 16) (.int .u64 18446744073709551615) rfl rfl (by kernel_rfl) (by kernel_rfl) (by kernel_rfl) (fun _ _ _ h => h) (by rfl) (fun W' hS' => by go_simp) hH ?_
    simp only [Act.put, sA, sB, sC]
    refine wpAnyH_done (by kernel_rfl) (NoPanic.normal ?_) _
    clear hH
    have V : Hid (Below w.heap.size w w17 ∧ Blk w17 w.heap.size 23 (u8s (List.replicate (j * 32) 0) ++ (u8s (List.replicate 32 0) ++ u8s F)) ∧ Blk w17 g15 23 (u8s kb) ∧ isO wr.heap.size (L + 48) LY (.slice qo (L + 48) qc) w17 ∧ wr.heap.size ≤ g15) := ⟨below_kept (below_chain (below_chain (below_dn HB.out.1 1) l10 (by omega)) l15 (by omega)) k17 (by omega) (fun i hi => by omega), ((HB.out.2.2.1.drew.later l10 (by omega)).later l15 (by omega)).kept k17 (by omega), b17, isO_keptB oK k17 hgA, by omega⟩
    clear HB q1 q2
    go_wp2_with fail
    have qG := V.out.1.size
    have qg := V.out.2.2.1.lt
    refine wp_region_noPanic (wp_region_held_drew (S := fun W => Blk W g15 23 (u8s kb)) (by kernel_rfl) (V.out.2.2.1.drew) (fun hH => ?_))
    refine hLoad 3 (some 66) (u8s kb) rfl rfl (by kernel_rfl) (by kernel_rfl) (by kernel_rfl) (fun _ _ _ h => h) (by rfl) 23 (.tmp 15) rfl g15 0 rfl _ (fun _ h => h.whole) Tryz.underlying23 rfl (sizeU kb HY.out.2.2.1) hH ?_
    simp only [Act.put, sA, sB, sC]
    refine hTake 0 (some 63) (.slice (some ⟨w.heap.size, 0, none⟩) n n) rfl rfl (by kernel_rfl) (by kernel_rfl) (by kernel_rfl) (fun _ _ _ h => h) (by rfl) (fun W' hS' => by go_simp) hH ?_
    simp only [Act.put, sA, sB, sC]
    refine hTake 1 (some 64) (.int .i64 (j : Int)) rfl rfl (by kernel_rfl) (by kernel_rfl) (by kernel_rfl) (fun _ _ _ h => h) (by rfl) (fun W' hS' => by go_simp) hH ?_
    simp only [Act.put, sA, sB, sC]
    refine hTake 2 (some 65) (.slice qo (L + 48) qc) rfl rfl (by kernel_rfl) (by kernel_rfl) (by kernel_rfl) (fun _ _ _ h => h) (by rfl) (fun W' hS' => by go_simp) hH ?_
    simp only [Act.put, sA, sB, sC]
    refine hTake 4 (some 11) (.slice qo (L + 48) qc) rfl rfl (by kernel_rfl) (by kernel_rfl) (by kernel_rfl) (fun _ _ _ h => h) (by rfl) (fun W' hS' => by go_simp) hH ?_
    simp only [Act.put, sA, sB, sC]
    refine hTake 5 (some 67) (.pointer (some ⟨w.heap.size, j * 32, none⟩)) rfl rfl (by kernel_rfl) (by kernel_rfl) (by kernel_rfl) (fun _ _ _ h => h) (by rfl) (fun W' hS' => by go_simp) hH ?_
    simp only [Act.put, sA, sB, sC]
    refine wpAnyH_ready (rs := [6]) (by kernel_rfl) (by simp) (AllReadyH.cons rfl (fun K hK => ?_) AllReadyH.nil)
    have hGd := V.out.2.1.drew
    refine step_store rfl (by rfl) 23 (.tmp 67) (.tmp 66) rfl w.heap.size (j * 32) rfl (u8s kb) rfl (hGd.there (by simp only [List.length_append, u8s_length, List.length_replicate, HY.out.2.2.1]; omega)) (sizeU kb HY.out.2.2.1) (u8s_one _) ?_
    have hb7 := Blk.setCells (u8s kb) (u8s (List.replicate 32 0)) (lenU _ _ HY.out.2.2.1 len0) hGd
    rw [show (u8s (List.replicate (j * 32) (0 : Int))).length = j * 32 by rw [u8s_length, List.length_replicate]] at hb7
    have hk7 : Kept (fun b => b = w.heap.size) w17.drew (w17.drew.setCells w.heap.size (j * 32) (u8s kb)) := (Kept.refl _ _).setCells (S := fun b => b = w.heap.size) rfl _ _
    have hs7 : (w17.drew.setCells w.heap.size (j * 32) (u8s kb)).heap.size = w17.heap.size := setCells_size _ _ _ _
    generalize w17.drew.setCells w.heap.size (j * 32) (u8s kb) = x7 at hb7 hk7 hs7 ⊢
    refine hK.out _ _ (hH.kept hk7 (by omega)) (fun hH => ?_)
    clear hK K
    refine wpAnyH_done (by kernel_rfl) (NoPanic.normal ?_) _
    clear hH
    have R : Hid (ySl (m + 48 * (n - j)) (wrapL rd ((ss.zip ps).drop j) zs) (.slice qo (L + 48) qc) x7 ∧ isO w.heap.size (m + 48 * (n - j)) (wrapL rd ((ss.zip ps).drop j) zs) (.slice qo (L + 48) qc) x7 ∧ Blk x7 w.heap.size 23 (u8s (List.replicate (32 * j) 0 ++ repsF rd ((ss.zip ps).drop j))) ∧ Below w.heap.size w x7) := by
     have o7 : isO wr.heap.size (L + 48) LY (.slice qo (L + 48) qc) x7 := isO_kept (isO_later _ _ _ _ _ _ (below_dn (Below.refl _ _) 1) V.out.2.2.2.1) hk7 (fun k hk => by omega)
     rw [HY.out.2.2.2.2.2.1, HY.out.2.2.2.1, HY.out.2.2.2.2.1]
     refine ⟨ySl_own HY.out.1 HY.out.2.1 (by have := HY.out.2.2.2.2.2.2; omega) o7, isO_base o7 hsw, ?_, below_kept (below_dn V.out.1 1) hk7 V.out.1.size (fun i hi => by omega)⟩
     rw [Nat.mul_comm 32 j]
     simpa [u8s] using hb7
    clear V hb7 hk7 hs7 hGd
    have e2 : IntKind.i64.wrap ((j : Int) - 1) = (j : Int) - 1 := by simp only [IntKind.wrap, IntKind.bits, IntKind.signed]; simp; omega
    go_wp2
    go_roundw
    case rel => exact ⟨j, by omega, by first | rfl | go_num, R.out.1, fun _ => R.out.2.1, R.out.2.2.1, R.out.2.2.2⟩
    case measure => simp [intOf] <;> omega
   ·rw [if_pos (by rfl)]
    refine Does.wp (base := wr.heap.size) (E := .blk 23 (u8s (List.replicate 32 0))) ?_ (fun v15 x15 p15 l15 => ?_)
    ·exact Does.alloc 23 rfl 32 _ zeroKey (by omega)
    change K (Act.put _ (some 15) v15) x15
    refine hK.out _ _ ⟨rangeAt_below hH.1 l15 (by omega), rangeAt_below hH.2 l15 (by omega)⟩ (fun hH => ?_)
    clear hK K
    simp only [Act.put, sA, sB, sC]
    obtain ⟨g15, rfl, hg15, bg0⟩ := p15
    have s15 := l15.size
    have hg15n : g15 < x15.heap.size := bg0.lt
    refine wpAnyH_ready (rs := [10]) (by kernel_rfl) (by simp) (AllReadyH.cons rfl (fun K hK => ?_) AllReadyH.nil)
    rw [if_pos (by rfl)]
    refine Does.wp (base := wr.heap.size) (E := .any (isW x15.heap.size (L + 48) LY kb 18446744073709551615) (isW_later _ _ _ _ _)) ?_ (fun v10 x10 p10 l10 => ?_)
    ·refine Does.call 61 #[.agg (u8s s).toArray, .agg (u8s p).toArray, .int .u64 rd, .slice vo L vc] (by go_simp) ?_
     refine (CP x15 (HB.out.2.1.later (below_chain BD l15 (by omega)) (Nat.le_refl _)) (HB.out.2.2.2.2.2.2.2.2.2.below (below_chain BD l15 (by omega)) HB.out.2.2.2.2.2.2.2.2.2.lt)).mono ?_
     rintro z w' ⟨r, rfl, ho, l⟩
     obtain ⟨qo, qc, rfl⟩ := isO_form ho HY.out.1
     exact ⟨_, rfl, ⟨qo, qc, rfl, isO_base ho (by omega)⟩, l⟩
    change K (Act.put _ (some 57) v10) x10
    refine hK.out _ _ ⟨rangeAt_below hH.1 l10 (by omega), rangeAt_below hH.2 l10 (by omega)⟩ (fun hH => ?_)
    clear hK K
    simp only [Act.put, sA, sB, sC]
    obtain ⟨qo, qc, rfl, oK⟩ := p10
    have s10 := l10.size
    have bg := bg0.later l10 bg0.lt
    refine hTake 11 (some 46) (.tuple #[.slice qo (L + 48) qc, .agg (u8s kb).toArray, .int .u64 18446744073709551615]) rfl rfl (by kernel_rfl) (by kernel_rfl) (by kernel_rfl) (fun _ _ _ h => h) (by rfl) (fun W' hS' => by go_simp) hH ?_
    simp only [Act.put, sA, sB, sC]
    refine hTake 12 (some 58) (.slice qo (L + 48) qc) rfl rfl (by kernel_rfl) (by kernel_rfl) (by kernel_rfl) (fun _ _ _ h => h) (by rfl) (fun W' hS' => by go_simp) hH ?_
    simp only [Act.put, sA, sB, sC]
    refine hTake 13 (some 59) (.agg (u8s kb).toArray) rfl rfl (by kernel_rfl) (by kernel_rfl) (by kernel_rfl) (fun _ _ _ h => h) (by rfl) (fun W' hS' => by go_simp) hH ?_
    simp only [Act.put, sA, sB, sC]
    refine hTake 14 (some 60) (.int .u64 18446744073709551615) rfl rfl (by kernel_rfl) (by kernel_rfl) (by kernel_rfl) (fun _ _ _ h => h) (by rfl) (fun W' hS' => by go_simp) hH ?_
    simp only [Act.put, sA, sB, sC]
    refine hTake 16 (some 14) (.slice qo (L + 48) qc) rfl rfl (by kernel_rfl) (by kernel_rfl) (by kernel_rfl) (fun _ _ _ h => h) (by rfl) (fun W' hS' => by go_simp) hH ?_
    simp only [Act.put, sA, sB, sC]
    refine wpAnyH_ready (rs := [17]) (by kernel_rfl) (by simp) (AllReadyH.cons rfl (fun K hK => ?_) AllReadyH.nil)
    rw [if_pos (by rfl)]
    refine last_store 23 (.tmp 15) (.tmp 59) rfl rfl g15 rfl 23 _ (u8s kb) rfl bg (lenU _ _ HY.out.2.2.1 len0) (sizeU kb HY.out.2.2.1) (u8s_one _) ?_
    intro w17 b17 s17 k17
    refine hK.out _ _ ⟨rangeAt_keptG hH.1 k17 (by omega), rangeAt_keptG hH.2 k17 (by omega)⟩ (fun hH => ?_)
    clear hK K
    refine hTake 18 (some 16) (.int .u64 18446744073709551615) rfl rfl (by kernel_rfl) (by kernel_rfl) (by kernel_rfl) (fun _ _ _ h => h) (by rfl) (fun W' hS' => by go_simp) hH ?_
    simp only [Act.put, sA, sB, sC]
    refine wpAnyH_done (by kernel_rfl) (NoPanic.normal ?_) _
    clear hH
    have V : Hid (Below w.heap.size w w17 ∧ Blk w17 w.heap.size 23 (u8s (List.replicate (j * 32) 0) ++ (u8s (List.replicate 32 0) ++ u8s F)) ∧ Blk w17 g15 23 (u8s kb) ∧ isO wr.heap.size (L + 48) LY (.slice qo (L + 48) qc) w17 ∧ wr.heap.size ≤ g15) := ⟨below_kept (below_chain (below_chain (below_dn HB.out.1 1) l15 (by omega)) l10 (by omega)) k17 (by omega) (fun i hi => by omega), ((HB.out.2.2.1.drew.later l15 (by omega)).later l10 (by omega)).kept k17 (by omega), b17, isO_base (isO_kept oK k17 (fun k hk => by omega)) (by omega), by omega⟩
    clear HB q1 q2
    go_wp2_with fail
    have qG := V.out.1.size
    have qg := V.out.2.2.1.lt
    refine wp_region_noPanic (wp_region_held_drew (S := fun W => Blk W g15 23 (u8s kb)) (by kernel_rfl) (V.out.2.2.1.drew) (fun hH => ?_))
    refine hLoad 3 (some 66) (u8s kb) rfl rfl (by kernel_rfl) (by kernel_rfl) (by kernel_rfl) (fun _ _ _ h => h) (by rfl) 23 (.tmp 15) rfl g15 0 rfl _ (fun _ h => h.whole) Tryz.underlying23 rfl (sizeU kb HY.out.2.2.1) hH ?_
    simp only [Act.put, sA, sB, sC]
    refine hTake 0 (some 63) (.slice (some ⟨w.heap.size, 0, none⟩) n n) rfl rfl (by kernel_rfl) (by kernel_rfl) (by kernel_rfl) (fun _ _ _ h => h) (by rfl) (fun W' hS' => by go_simp) hH ?_
    simp only [Act.put, sA, sB, sC]
    refine hTake 1 (some 64) (.int .i64 (j : Int)) rfl rfl (by kernel_rfl) (by kernel_rfl) (by kernel_rfl) (fun _ _ _ h => h) (by rfl) (fun W' hS' => by go_simp) hH ?_
    simp only [Act.put, sA, sB, sC]
    refine hTake 2 (some 65) (.slice qo (L + 48) qc) rfl rfl (by kernel_rfl) (by kernel_rfl) (by kernel_rfl) (fun _ _ _ h => h) (by rfl) (fun W' hS' => by go_simp) hH ?_
    simp only [Act.put, sA, sB, sC]
    refine hTake 4 (some 11) (.slice qo (L + 48) qc) rfl rfl (by kernel_rfl) (by kernel_rfl) (by kernel_rfl) (fun _ _ _ h => h) (by rfl) (fun W' hS' => by go_simp) hH ?_
    simp only [Act.put, sA, sB, sC]
    refine hTake 5 (some 67) (.pointer (some ⟨w.heap.size, j * 32, none⟩)) rfl rfl (by kernel_rfl) (by kernel_rfl) (by kernel_rfl) (fun _ _ _ h => h) (by rfl) (fun W' hS' => by go_simp) hH ?_
    simp only [Act.put, sA, sB, sC]
    refine wpAnyH_ready (rs := [6]) (by kernel_rfl) (by simp) (AllReadyH.cons rfl (fun K hK => ?_) AllReadyH.nil)
    have hGd := V.out.2.1.drew
    refine step_store rfl (by rfl) 23 (.tmp 67) (.tmp 66) rfl w.heap.size (j * 32) rfl (u8s kb) rfl (hGd.there (by simp only [List.length_append, u8s_length, List.length_replicate, HY.out.2.2.1]; omega)) (sizeU kb HY.out.2.2.1) (u8s_one _) ?_
    have hb7 := Blk.setCells (u8s kb) (u8s (List.replicate 32 0)) (lenU _ _ HY.out.2.2.1 len0) hGd
    rw [show (u8s (List.replicate (j * 32) (0 : Int))).length = j * 32 by rw [u8s_length, List.length_replicate]] at hb7
    have hk7 : Kept (fun b => b = w.heap.size) w17.drew (w17.drew.setCells w.heap.size (j * 32) (u8s kb)) := (Kept.refl _ _).setCells (S := fun b => b = w.heap.size) rfl _ _
    have hs7 : (w17.drew.setCells w.heap.size (j * 32) (u8s kb)).heap.size = w17.heap.size := setCells_size _ _ _ _
    generalize w17.drew.setCells w.heap.size (j * 32) (u8s kb) = x7 at hb7 hk7 hs7 ⊢
    refine hK.out _ _ (hH.kept hk7 (by omega)) (fun hH => ?_)
    clear hK K
    refine wpAnyH_done (by kernel_rfl) (NoPanic.normal ?_) _
    clear hH
    have R : Hid (ySl (m + 48 * (n - j)) (wrapL rd ((ss.zip ps).drop j) zs) (.slice qo (L + 48) qc) x7 ∧ isO w.heap.size (m + 48 * (n - j)) (wrapL rd ((ss.zip ps).drop j) zs) (.slice qo (L + 48) qc) x7 ∧ Blk x7 w.heap.size 23 (u8s (List.replicate (32 * j) 0 ++ repsF rd ((ss.zip ps).drop j))) ∧ Below w.heap.size w x7) := by
     have o7 : isO wr.heap.size (L + 48) LY (.slice qo (L + 48) qc) x7 := isO_kept (isO_later _ _ _ _ _ _ (below_dn (Below.refl _ _) 1) V.out.2.2.2.1) hk7 (fun k hk => by omega)
     rw [HY.out.2.2.2.2.2.1, HY.out.2.2.2.1, HY.out.2.2.2.2.1]
     refine ⟨ySl_own HY.out.1 HY.out.2.1 (by have := HY.out.2.2.2.2.2.2; omega) o7, isO_base o7 hsw, ?_, below_kept (below_dn V.out.1 1) hk7 V.out.1.size (fun i hi => by omega)⟩
     rw [Nat.mul_comm 32 j]
     simpa [u8s] using hb7
    clear V hb7 hk7 hs7 hGd
    have e2 : IntKind.i64.wrap ((j : Int) - 1) = (j : Int) - 1 := by simp only [IntKind.wrap, IntKind.bits, IntKind.signed]; simp; omega
    go_wp2
    go_roundw
    case rel => exact ⟨j, by omega, by first | rfl | go_num, R.out.1, fun _ => R.out.2.1, R.out.2.2.1, R.out.2.2.2⟩
    case measure => simp [intOf] <;> omega
  ·obtain rfl : k = 0 := by omega
   rw [Nat.sub_zero] at hvs hvc
   have hvo := hvo (by omega)
   rw [Nat.sub_zero] at hvo
   rw [Nat.sub_zero]
   rw [List.drop_zero] at hvo
   rw [List.drop_zero, Nat.mul_zero, List.replicate_zero, List.nil_append] at hG
   have HE : Hid (isO w.heap.size (m + 48 * n) (wrapL rd (ss.zip ps) zs) (.slice vo (m + 48 * n) vc) wr ∧ Blk wr w.heap.size 23 (u8s (repsF rd (ss.zip ps))) ∧ Below w.heap.size w wr) := ⟨hvo, hG, hbel⟩
   clear hvs hvc hvo hG hbel
   have e0 : ((0 : Nat) : Int) - 1 = -1 := rfl
   rw [e0]
   go_wp2
   go_ret3
   exact ⟨vo, vc, w.heap.size, rfl, HE.out.1, Nat.le_refl _, HE.out.2.1, HE.out.2.2⟩
end Go.Proofs.YthlbjkfjkggdoaaGreatDoor
namespace Go.Proofs.YthlbjkfjkggdoaaGreatDoor
open Go.RowKit Go.Joins
set_option linter.unusedVariables false
set_option linter.unusedSimpArgs false
theorem bsK1 (l : List Int) (h : l.length = 32) (w : World) : (Instr.buildSlice 31 1 #[(0, .agg (u8s l).toArray)]).run Tryz.prog w = .ok (.slice (some ⟨w.heap.size, 0, none⟩) 1 1) (w.alloc (.cells (u8s l).toArray 23)) := by
 obtain ⟨a0, a1, a2, a3, a4, a5, a6, a7, a8, a9, b0, b1, b2, b3, b4, b5, b6, b7, b8, b9, c0, c1, c2, c3, c4, c5, c6, c7, c8, c9, d0, d1, rfl⟩ := list32 l h
 kernel_rfl
theorem wpList_keys1 {ops : Array Oper} {rest : List Oper} {o : Oper} {a : Act} {Q : Exit → Act → World → Prop} {w : World} (hgd : o.guard = none) (x : Operand) (ho : o.op = .buildSlice 31 1 #[(0, x)]) (l : List Int) (hl : l.length = 32) (hx : a.eval x = .agg (u8s l).toArray)
  (h : ∀ w', Blk w' w.heap.size 23 (u8s l) → w'.heap.size = w.heap.size + 1 → Below w.heap.size w w' → wpList Tryz.prog ops Q rest (a.put o.dst (.slice (some ⟨w.heap.size, 0, none⟩) 1 1)) w') : wpList Tryz.prog ops Q (o :: rest) a w := by
 refine wpList_plain hgd fun K hK => ?_
 unfold Oper.wp execOp
 simp only [ho, hx, List.map_toArray, List.map_cons, List.map_nil, Sem.run_bind, bsK1 l hl, Sem.run_pure, Result.andThen_ok]
 exact hK _ _ (h _ (heap_alloc_new w _) (by simp) ((Below.refl _ _).alloc (Nat.le_refl _) _))
theorem wpList_conv {ops : Array Oper} {rest : List Oper} {o : Oper} {a : Act} {Q : Exit → Act → World → Prop} {w : World} (hgd : o.guard = none) (x : Operand) (ho : o.op = .convert 32 32 x) (cs : Array Value) (zs : List Int) (hcs : cs = (zs.map (Value.int .u8)).toArray) (n : Nat) (hn : zs.length = n) (hb : Bytes zs) (ht : n ≤ 1000) (hx : a.eval x = .slice (some ⟨w.heap.size, 0, none⟩) n n)
  (h : ∀ w', Seen w' (some ⟨w.heap.size, 0, none⟩) n zs → w'.heap.size = w.heap.size + 1 → Below w.heap.size w w' → wpList Tryz.prog ops Q rest (a.put o.dst (.slice (some ⟨w.heap.size, 0, none⟩) n n)) w') : wpList Tryz.prog ops Q (o :: rest) a (w.alloc (.cells cs 5)) := by
 subst hcs hn
 refine wpList_plain hgd fun K hK => ?_
 unfold Oper.wp execOp
 simp only [ho, hx, Sem.run_bind, run_convert_bytes_const_at (P := Tryz.prog) w 32 5 _ _ _ _ rfl Tryz.underlying32 Tryz.underlying5, Sem.run_pure, Result.andThen_ok]
 exact hK _ _ (h _ (seen_litY w zs _ hb ht) (by simp) ((Below.refl _ _).alloc (Nat.le_refl _) _))
theorem keys_one {w : World} {g : Nat} {l : List Int} (h : Blk w g 23 (u8s l)) (hl : l.length = 32) (hb : Bytes l) : KeysS w (some ⟨g, 0, none⟩) 1 [l] := by
 refine ⟨rfl, fun i hi => ?_, fun i hi => ?_⟩
 ·obtain rfl : i = 0 := by omega
  exact ⟨hl, hb⟩
 ·obtain rfl : i = 0 := by omega
  exact ⟨g, 0, rfl, h.lt, h.whole⟩
theorem wp_run {o : Oper} {a : Act} {w : World} {K : Act → World → Prop} {Q : Exit → Act → World → Prop} (v : Value) (w' : World) (h : (execOp a.eval o).run Tryz.prog w = .ok (.value v) w') (hK : K (a.put o.dst v) w') : o.wp Tryz.prog a w K Q := by
 unfold Oper.wp; rw [h]; exact hK
theorem run_lit {ρ : Operand → Value} {o : Oper} {w : World} (parts : Array (Nat × Operand)) (n : Nat) (ho : o.op = .buildSlice 32 n parts) (ps : Array (Nat × Value)) (hp : (parts.map fun (i, x) => (i, ρ x)) = ps) (v : Value) (w' : World) (h : (Instr.buildSlice 32 n ps).run Tryz.prog w = .ok v w') : (execOp ρ o).run Tryz.prog w = .ok (.value v) w' := by
 unfold execOp
 simp only [ho, hp, Sem.run_bind, h, Sem.run_pure, Result.andThen_ok]
theorem run_conv {ρ : Operand → Value} {o : Oper} {w : World} (x : Operand) (ho : o.op = .convert 32 32 x) (v : Value) (hx : ρ x = v) (u : Value) (w' : World) (h : (convert 32 32 v).run Tryz.prog w = .ok u w') : (execOp ρ o).run Tryz.prog w = .ok (.value u) w' := by
 unfold execOp
 simp only [ho, hx, Sem.run_bind, h, Sem.run_pure, Result.andThen_ok]
def k123 : List Int := 1 :: 2 :: 3 :: List.replicate 29 0
def k99 : List Int := 9 :: 9 :: List.replicate 30 0
def helloL : List Int := [104, 101, 108, 108, 111]
def hiL : List Int := [104, 105]
theorem build_123 (w : World) : (Instr.build 23 #[(0, .int .u8 1), (1, .int .u8 2), (2, .int .u8 3)]).run Tryz.prog w = .ok (.agg (u8s k123).toArray) w := by kernel_rfl
theorem build_99 (w : World) : (Instr.build 23 #[(0, .int .u8 9), (1, .int .u8 9)]).run Tryz.prog w = .ok (.agg (u8s k99).toArray) w := by kernel_rfl
theorem k123_bytes : Bytes k123 := by intro z hz; simp only [k123, List.mem_cons, List.mem_replicate] at hz; omega
theorem k99_bytes : Bytes k99 := by intro z hz; simp only [k99, List.mem_cons, List.mem_replicate] at hz; omega
theorem hello_bytes : Bytes helloL := by intro z hz; simp [helloL] at hz; omega
theorem hi_bytes : Bytes hiL := by intro z hz; simp [hiL] at hz; omega
theorem peelC_0 (v : Value) (rep : List Int) (x : Int) : (peelC v rep x)[0]? = some v := rfl
theorem peelC_33 (v : Value) (rep : List Int) (x : Int) (h : rep.length = 32) : (peelC v rep x)[33]? = some (.int .u64 x) := by
 rw [peelC, List.getElem?_cons_succ, List.getElem?_append_right (by rw [u8s_length]; omega), u8s_length, h]; rfl
theorem peel_range {w : World} {g : Nat} {v : Value} {rep : List Int} {x : Int} (h : Blk w g 56 (peelC v rep x)) : w.rangeAt g 1 (u8s rep) := Blk.range (xs := [v]) (ys := u8s rep) (zs := [.int .u64 x]) h
theorem reps_one (rd : Int) (s p : List Int) : repsF rd ([s].zip [p]) = repO rd s p := by simp [repsF]
theorem wrap_one (rd : Int) (s p z : List Int) : wrapL rd ([s].zip [p]) z = layL rd s p z := rfl
theorem yworks_any (w : World) (hK : KTab w) : Calls Tryz.prog 13 #[] w fun e w' => e = .returned (.bool true) ∧ Below w.heap.size w w' := by
 have CB := base_any k123 rfl k123_bytes
 have HOFF := off_lay 7 k123 k99 helloL rfl k123_bytes rfl k99_bytes hello_bytes
 have HST : ∀ i, i < 1 → prodN ([k99].getD i []) ([prodL k123 nineL].getD i []) ≠ 0 := fun i hi => by
  obtain rfl : i = 0 := by omega
  exact prod_strong k99 k123 rfl k99_bytes rfl k123_bytes
 have hSl : (prodL k123 nineL).length = 32 := prodL_length _ _
 have hSb : Bytes (prodL k123 nineL) := prodL_bytes _ _
 obtain ⟨S, hS⟩ : ∃ q, prodL k123 nineL = q := ⟨_, rfl⟩
 rw [hS] at CB HOFF HST hSl hSb
 obtain ⟨RP, hRP⟩ : ∃ q, repO 7 S k99 = q := ⟨_, rfl⟩
 have hRl : RP.length = 32 := by rw [← hRP]; exact repO_length _ _ _
 have hRb : Bytes RP := by rw [← hRP]; exact repO_bytes _ _ _
 obtain ⟨LY, hLY⟩ : ∃ q, layL 7 S k99 helloL = q := ⟨_, rfl⟩
 rw [hLY, hRP] at HOFF
 have HF : Hid (S.length = 32 ∧ Bytes S ∧ RP.length = 32 ∧ Bytes RP ∧ KTab w ∧ LY.length = 53 ∧ Bytes LY ∧ offB 7 k123 LY = true ∧ offI 7 k123 LY = helloL ∧ offP 7 k123 LY = RP ∧ repO 7 S k99 = RP ∧ layL 7 S k99 helloL = LY) := ⟨hSl, hSb, hRl, hRb, hK, by rw [← hLY, layL_length]; rfl, by rw [← hLY]; exact layL_bytes _ _ _ hello_bytes, HOFF.1, HOFF.2.1, HOFF.2.2, hRP, hLY⟩
 have HST2 : Hid (∀ i, i < 1 → prodN ([k99].getD i []) ([S].getD i []) ≠ 0) := HST
 have heq : ∀ wx, (Op.equalIn 10000 23 (.agg (u8s RP).toArray) (.agg (u8s RP).toArray)).run Tryz.prog wx = .ok true wx := equal32A 23 32 Tryz.underlying23 9998 _ hRl
 clear hSl hSb hRl hRb hK HOFF HST hS hRP hLY
 go_enter Tryz.func13, Tryz.ntmps13
 go_wp2_with (first | ((with_reducible show wpList _ _ _ (({ dst := some 11, op := _, type := _, pos := _, after := _, guard := _ } : Oper) :: _) _ _); refine wpList_build rfl 23 _ rfl #[(0, .int .u8 1), (1, .int .u8 2), (2, .int .u8 3)] (by simp [Act.eval]) _ (build_123 _) ?_) | ((with_reducible show wpList _ _ _ (({ dst := some 1, op := _, type := _, pos := _, after := _, guard := _ } : Oper) :: _) _ _); refine wpList_alloc_new rfl 23 rfl 32 _ zeroKey ?_; intro w1 b1 s1 l1; have z1 : Hid (w1.heap.size = w.heap.size + 1) := s1; clear s1) | (refine wpList_store_blk rfl 23 23 (.tmp 1) (.tmp 11) rfl _ rfl _ (u8s k123) rfl b1 rfl (sizeU k123 rfl) (u8s_one _) ?_; intro w2 b2 s2 k2; have z2 : Hid (w2.heap.size = w1.heap.size) := s2; clear s2) | ((with_reducible show wpList _ _ _ (({ dst := some 13, op := _, type := _, pos := _, after := _, guard := _ } : Oper) :: _) _ _); refine wpList_load_blk rfl 23 (.tmp 1) rfl _ rfl (u8s k123) _ b2 Tryz.underlying23 rfl (sizeU k123 rfl) ?_))
 refine (CB _).mono ?_
 rintro e w3 ⟨rfl, l3⟩
 have z3 : Hid (w2.heap.size ≤ w3.heap.size) := l3.size
 have V1 : Hid (Below w.heap.size w w3 ∧ Blk w3 (w.heap.size) 23 (u8s k123)) := ⟨(below_chain (below_kept l1 k2 (by have := z1.out; have := z2.out; omega) (fun j hj => (by have := z1.out; have := z2.out; omega))) l3 (by have := z1.out; have := z2.out; have := z3.out; omega)), (b2.later l3 (by have := z1.out; have := z2.out; have := z3.out; omega))⟩
 clear l1 k2 l3 b2
 go_wp2_with (first | ((with_reducible show wpList _ _ _ (({ dst := some 15, op := _, type := _, pos := _, after := _, guard := _ } : Oper) :: _) _ _); refine wpList_keys1 rfl (.tmp 14) rfl S HF.out.1 rfl ?_; intro w4 b4 s4 l4; have z4 : Hid (w4.heap.size = w3.heap.size + 1) := s4; clear s4) | ((with_reducible show wpList _ _ _ (({ dst := some 16, op := _, type := _, pos := _, after := _, guard := _ } : Oper) :: _) _ _); refine wpList_build rfl 23 _ rfl #[(0, .int .u8 9), (1, .int .u8 9)] (by simp [Act.eval]) _ (build_99 _) ?_) | ((with_reducible show wpList _ _ _ (({ dst := some 17, op := _, type := _, pos := _, after := _, guard := _ } : Oper) :: _) _ _); refine wpList_keys1 rfl (.tmp 16) rfl k99 rfl rfl ?_; intro w5 b5 s5 l5; have z5 : Hid (w5.heap.size = w4.heap.size + 1) := s5; clear s5) | ((with_reducible show wpList _ _ _ (({ dst := some 19, op := _, type := _, pos := _, after := _, guard := _ } : Oper) :: _) _ _); refine wpList_conv (w := w5) rfl (.tmp 18) rfl _ helloL rfl 5 rfl hello_bytes (by decide) rfl ?_; intro w6 b6 s6 l6; have z6 : Hid (w6.heap.size = w5.heap.size + 1) := s6; clear s6))
 have U1 : Hid (KTab w6) := (HF.out.2.2.2.2.1.below (below_chain (below_chain (below_chain V1.out.1 l4 (by have := z1.out; have := z2.out; have := z3.out; have := z4.out; omega)) l5 (by have := z1.out; have := z2.out; have := z3.out; have := z4.out; have := z5.out; omega)) l6 (by have := z1.out; have := z2.out; have := z3.out; have := z4.out; have := z5.out; have := z6.out; omega)) HF.out.2.2.2.2.1.lt)
 have CW := wrap_any [S] [k99] 7 (some ⟨w3.heap.size, 0, none⟩) (some ⟨w4.heap.size, 0, none⟩) 1 1 1 (some ⟨w5.heap.size, 0, none⟩) 5 5 helloL (by decide) (by decide) (by decide) HST2.out _ (keys_one ((b4.later l5 (by have := z1.out; have := z2.out; have := z3.out; have := z4.out; have := z5.out; omega)).later l6 (by have := z1.out; have := z2.out; have := z3.out; have := z4.out; have := z5.out; have := z6.out; omega)) HF.out.1 HF.out.2.1) (keys_one (b5.later l6 (by have := z1.out; have := z2.out; have := z3.out; have := z4.out; have := z5.out; have := z6.out; omega)) rfl k99_bytes) b6 (by decide) U1.out
 rw [reps_one, wrap_one, HF.out.2.2.2.2.2.2.2.2.2.2.1, HF.out.2.2.2.2.2.2.2.2.2.2.2] at CW
 refine (CW).mono ?_
 rintro e w7 ⟨bo, bc, G, rfl, o7, hG7, bG7, l7⟩
 have z7 : Hid (w6.heap.size ≤ w7.heap.size) := l7.size
 obtain ⟨bo', bc', hbe, hbs, hbl⟩ : ∃ x y, Value.slice bo (5 + 48 * 1) bc = .slice x 53 y ∧ Seen w7 x 53 LY ∧ 53 ≤ y := by
  obtain ⟨x, y, e, h1, h2⟩ := ySl_own HF.out.2.2.2.2.2.1 HF.out.2.2.2.2.2.2.1 (by decide) o7
  exact ⟨x, y, e, h1, h2⟩
 rw [hbe]
 have V2 : Hid (Below w.heap.size w w7 ∧ Blk w7 (w.heap.size) 23 (u8s k123) ∧ Blk w7 (G) 23 (u8s RP) ∧ Seen w7 bo' 53 LY ∧ 53 ≤ bc' ∧ KTab w7 ∧ G < w7.heap.size) := ⟨(below_chain (below_chain (below_chain (below_chain V1.out.1 l4 (by have := z1.out; have := z2.out; have := z3.out; have := z4.out; omega)) l5 (by have := z1.out; have := z2.out; have := z3.out; have := z4.out; have := z5.out; omega)) l6 (by have := z1.out; have := z2.out; have := z3.out; have := z4.out; have := z5.out; have := z6.out; omega)) l7 (by have := z1.out; have := z2.out; have := z3.out; have := z4.out; have := z5.out; have := z6.out; have := z7.out; omega)), ((((V1.out.2.later l4 (by have := z1.out; have := z2.out; have := z3.out; have := z4.out; omega)).later l5 (by have := z1.out; have := z2.out; have := z3.out; have := z4.out; have := z5.out; omega)).later l6 (by have := z1.out; have := z2.out; have := z3.out; have := z4.out; have := z5.out; have := z6.out; omega)).later l7 (by have := z1.out; have := z2.out; have := z3.out; have := z4.out; have := z5.out; have := z6.out; have := z7.out; omega)), bG7, hbs, hbl, U1.out.below l7 U1.out.lt, bG7.lt⟩
 clear l4 l5 l6 l7 bG7 o7 hG7 hbs hbl CW CB U1 HST2 b6 hbe
 have hGlt : G < w7.heap.size := V2.out.2.2.2.2.2.2
 go_wp2_with (first | ((with_reducible show wpList _ _ _ (({ dst := some 37, op := _, type := _, pos := _, after := _, guard := _ } : Oper) :: _) _ _); refine wpList_load_blk rfl 23 (.tmp 1) rfl _ rfl (u8s k123) _ V2.out.2.1 Tryz.underlying23 rfl (sizeU k123 rfl) ?_))
 have CP := peel_any k123 7 bo' 5 bc' LY rfl k123_bytes (by decide) (by decide) w7 V2.out.2.2.2.1 V2.out.2.2.2.2.1 V2.out.2.2.2.2.2.1
 rw [HF.out.2.2.2.2.2.2.2.2.2.1, HF.out.2.2.2.2.2.2.2.1, HF.out.2.2.2.2.2.2.2.2.1, mk_true] at CP
 refine (CP).mono ?_
 rintro e w8 ⟨po, pc, rfl, o8, l8⟩
 have z8 : Hid (w7.heap.size ≤ w8.heap.size) := l8.size
 obtain ⟨po', pc', hpe, hps, hpl⟩ : ∃ x y, Value.slice po 5 pc = .slice x 5 y ∧ Seen w8 x 5 helloL ∧ 5 ≤ y := by
  obtain ⟨x, y, e, h1, h2⟩ := ySl_own rfl hello_bytes (by decide) o8
  exact ⟨x, y, e, h1, h2⟩
 rw [hpe]
 have V3 : Hid (Below w.heap.size w w8 ∧ Blk w8 (w.heap.size) 23 (u8s k123) ∧ Blk w8 (G) 23 (u8s RP) ∧ Seen w8 po' 5 helloL ∧ KTab w8) := ⟨(below_chain V2.out.1 l8 (by have := z1.out; have := z2.out; have := z3.out; have := z4.out; have := z5.out; have := z6.out; have := z7.out; have := z8.out; omega)), (V2.out.2.1.later l8 (by have := z1.out; have := z2.out; have := z3.out; have := z4.out; have := z5.out; have := z6.out; have := z7.out; have := z8.out; omega)), (V2.out.2.2.1.later l8 (by have := z1.out; have := z2.out; have := z3.out; have := z4.out; have := z5.out; have := z6.out; have := z7.out; have := z8.out; omega)), hps, V2.out.2.2.2.2.2.1.below l8 V2.out.2.2.2.2.2.1.lt⟩
 clear l8 o8 hps hpl hpe CP
 go_wp2_with (first | ((with_reducible show wpList _ _ _ (({ dst := some 5, op := _, type := _, pos := _, after := _, guard := _ } : Oper) :: _) _ _); refine wpList_alloc_new rfl 56 rfl 34 _ zeroPeeled ?_; intro w9 b9 s9 l9; have z9 : Hid (w9.heap.size = w8.heap.size + 1) := s9; clear s9) | (refine wpList_store_blk rfl 56 56 (.tmp 5) (.tmp 40) rfl _ rfl _ (peelC (.slice po' 5 pc') RP 18446744073709551615) rfl b9 (by rw [peelC_length _ _ _ HF.out.2.2.1]; rfl) (by rw [peelC_length _ _ _ HF.out.2.2.1]; exact sizePeeled) (peelC_one _ _ _ _ _) ?_; intro w10 b10 s10 k10; have z10 : Hid (w10.heap.size = w9.heap.size) := s10; clear s10) | ((with_reducible show wpList _ _ _ (({ dst := some 45, op := _, type := _, pos := _, after := _, guard := _ } : Oper) :: _) _ _); refine wpList_load_mid rfl 23 (.tmp 44) rfl G 0 rfl (u8s RP) _ ((V3.out.2.2.1.later l9 (by have := z1.out; have := z2.out; have := z3.out; have := z4.out; have := z5.out; have := z6.out; have := z7.out; have := z8.out; have := z9.out; omega)).kept k10 (by have := z1.out; have := z2.out; have := z3.out; have := z4.out; have := z5.out; have := z6.out; have := z7.out; have := z8.out; have := z9.out; have := z10.out; omega)).whole Tryz.underlying23 rfl (sizeU RP HF.out.2.2.1) ?_) | ((with_reducible show wpList _ _ _ (({ dst := some 47, op := _, type := _, pos := _, after := _, guard := _ } : Oper) :: _) _ _); refine wpList_conv (w := w10) rfl (.tmp 46) rfl _ hiL rfl 2 rfl hi_bytes (by decide) rfl ?_; intro w11 b11 s11 l11; have z11 : Hid (w11.heap.size = w10.heap.size + 1) := s11; clear s11))
 have CA := answer_any RP 7 (some ⟨w10.heap.size, 0, none⟩) 2 2 hiL HF.out.2.2.1 HF.out.2.2.2.1 (by decide) (by decide) _ b11 (by decide)
 refine (CA).mono ?_
 rintro e w12 ⟨qo, qc, rfl, o12, l12⟩
 have z12 : Hid (w11.heap.size ≤ w12.heap.size) := l12.size
 obtain ⟨qo', qc', hqe, hqs, hql⟩ : ∃ x y, Value.slice qo (2 + 16) qc = .slice x 18 y ∧ Seen w12 x 18 (ansL 7 RP hiL) ∧ 18 ≤ y := by
  obtain ⟨x, y, e, h1, h2⟩ := ySl_own (zs := ansL 7 RP hiL) (by rw [ansL, boxL_length]; rfl) (boxL_bytes _ _ _ hi_bytes) (by decide) o12
  exact ⟨x, y, e, h1, h2⟩
 rw [hqe]
 have V4 : Hid (Below w.heap.size w w12 ∧ Blk w12 (w.heap.size) 23 (u8s k123) ∧ Blk w12 (G) 23 (u8s RP) ∧ Blk w12 (w8.heap.size) 56 (peelC (.slice po' 5 pc') RP 18446744073709551615) ∧ Seen w12 qo' 18 (ansL 7 RP hiL) ∧ 18 ≤ qc' ∧ Seen w12 po' 5 helloL) := ⟨(below_chain (below_chain (below_kept (below_chain V3.out.1 l9 (by have := z1.out; have := z2.out; have := z3.out; have := z4.out; have := z5.out; have := z6.out; have := z7.out; have := z8.out; have := z9.out; omega)) k10 (by have := z1.out; have := z2.out; have := z3.out; have := z4.out; have := z5.out; have := z6.out; have := z7.out; have := z8.out; have := z9.out; have := z10.out; omega) (fun j hj => (by have := z1.out; have := z2.out; have := z3.out; have := z4.out; have := z5.out; have := z6.out; have := z7.out; have := z8.out; have := z9.out; have := z10.out; omega))) l11 (by have := z1.out; have := z2.out; have := z3.out; have := z4.out; have := z5.out; have := z6.out; have := z7.out; have := z8.out; have := z9.out; have := z10.out; have := z11.out; omega)) l12 (by have := z1.out; have := z2.out; have := z3.out; have := z4.out; have := z5.out; have := z6.out; have := z7.out; have := z8.out; have := z9.out; have := z10.out; have := z11.out; have := z12.out; omega)), ((((V3.out.2.1.later l9 (by have := z1.out; have := z2.out; have := z3.out; have := z4.out; have := z5.out; have := z6.out; have := z7.out; have := z8.out; have := z9.out; omega)).kept k10 (by have := z1.out; have := z2.out; have := z3.out; have := z4.out; have := z5.out; have := z6.out; have := z7.out; have := z8.out; have := z9.out; have := z10.out; omega)).later l11 (by have := z1.out; have := z2.out; have := z3.out; have := z4.out; have := z5.out; have := z6.out; have := z7.out; have := z8.out; have := z9.out; have := z10.out; have := z11.out; omega)).later l12 (by have := z1.out; have := z2.out; have := z3.out; have := z4.out; have := z5.out; have := z6.out; have := z7.out; have := z8.out; have := z9.out; have := z10.out; have := z11.out; have := z12.out; omega)), ((((V3.out.2.2.1.later l9 (by have := z1.out; have := z2.out; have := z3.out; have := z4.out; have := z5.out; have := z6.out; have := z7.out; have := z8.out; have := z9.out; omega)).kept k10 (by have := z1.out; have := z2.out; have := z3.out; have := z4.out; have := z5.out; have := z6.out; have := z7.out; have := z8.out; have := z9.out; have := z10.out; omega)).later l11 (by have := z1.out; have := z2.out; have := z3.out; have := z4.out; have := z5.out; have := z6.out; have := z7.out; have := z8.out; have := z9.out; have := z10.out; have := z11.out; omega)).later l12 (by have := z1.out; have := z2.out; have := z3.out; have := z4.out; have := z5.out; have := z6.out; have := z7.out; have := z8.out; have := z9.out; have := z10.out; have := z11.out; have := z12.out; omega)), ((b10.later l11 (by have := z1.out; have := z2.out; have := z3.out; have := z4.out; have := z5.out; have := z6.out; have := z7.out; have := z8.out; have := z9.out; have := z10.out; have := z11.out; omega)).later l12 (by have := z1.out; have := z2.out; have := z3.out; have := z4.out; have := z5.out; have := z6.out; have := z7.out; have := z8.out; have := z9.out; have := z10.out; have := z11.out; have := z12.out; omega)), hqs, hql, V3.out.2.2.2.1.later (below_chain (below_chain (below_kept l9 k10 (by have := z1.out; have := z2.out; have := z3.out; have := z4.out; have := z5.out; have := z6.out; have := z7.out; have := z8.out; have := z9.out; have := z10.out; omega) (fun j hj => (by have := z1.out; have := z2.out; have := z3.out; have := z4.out; have := z5.out; have := z6.out; have := z7.out; have := z8.out; have := z9.out; have := z10.out; omega))) l11 (by have := z1.out; have := z2.out; have := z3.out; have := z4.out; have := z5.out; have := z6.out; have := z7.out; have := z8.out; have := z9.out; have := z10.out; have := z11.out; omega)) l12 (by have := z1.out; have := z2.out; have := z3.out; have := z4.out; have := z5.out; have := z6.out; have := z7.out; have := z8.out; have := z9.out; have := z10.out; have := z11.out; have := z12.out; omega)) (Nat.le_refl _)⟩
 clear l9 k10 l11 l12 b10 o12 hqs hql hqe CA b11
 go_wp2_with fail
 have CU := unwrap_any [RP] 7 (some ⟨G, 0, none⟩) 1 1 qo' 18 qc' hiL (by decide) (by decide) rfl (by decide) hi_bytes w12 (keys_one V4.out.2.2.1 HF.out.2.2.1 HF.out.2.2.2.1) V4.out.2.2.2.2.1 V4.out.2.2.2.2.2.1
 have hl2 : hiL.length = 2 := rfl
 rw [hl2] at CU
 clear hl2
 refine (CU).mono ?_
 rintro e w13 ⟨to, tc, rfl, ht13, hl13, l13⟩
 have z13 : Hid (w12.heap.size ≤ w13.heap.size) := l13.size
 have V5 : Hid (Below w.heap.size w w13 ∧ Blk w13 (w.heap.size) 23 (u8s k123) ∧ Blk w13 (G) 23 (u8s RP) ∧ Blk w13 (w8.heap.size) 56 (peelC (.slice po' 5 pc') RP 18446744073709551615) ∧ Seen w13 to 2 hiL ∧ Seen w13 po' 5 helloL) := ⟨(below_chain V4.out.1 l13 (by have := z1.out; have := z2.out; have := z3.out; have := z4.out; have := z5.out; have := z6.out; have := z7.out; have := z8.out; have := z9.out; have := z10.out; have := z11.out; have := z12.out; have := z13.out; omega)), (V4.out.2.1.later l13 (by have := z1.out; have := z2.out; have := z3.out; have := z4.out; have := z5.out; have := z6.out; have := z7.out; have := z8.out; have := z9.out; have := z10.out; have := z11.out; have := z12.out; have := z13.out; omega)), (V4.out.2.2.1.later l13 (by have := z1.out; have := z2.out; have := z3.out; have := z4.out; have := z5.out; have := z6.out; have := z7.out; have := z8.out; have := z9.out; have := z10.out; have := z11.out; have := z12.out; have := z13.out; omega)), (V4.out.2.2.2.1.later l13 (by have := z1.out; have := z2.out; have := z3.out; have := z4.out; have := z5.out; have := z6.out; have := z7.out; have := z8.out; have := z9.out; have := z10.out; have := z11.out; have := z12.out; have := z13.out; omega)), ht13, V4.out.2.2.2.2.2.2.later l13 (Nat.le_refl _)⟩
 clear l13 ht13 hl13 CU
 go_wp2_with fail
 have q5 := V5.out.2.2.2.1.lt
 have qG := V5.out.2.2.1.lt
 have BD : Below w13.heap.size w13 w13.drew := below_dn (Below.refl _ _) 1
 have sD : w13.drew.heap.size = w13.heap.size := rfl
 have hRl := HF.out.2.2.1
 refine wp_region_noPanic (wp_region_held_drew (S := fun W => Blk W (w8.heap.size) 56 (peelC (.slice po' 5 pc') RP 18446744073709551615) ∧ Blk W G 23 (u8s RP)) (by kernel_rfl) ⟨V5.out.2.2.2.1.drew, V5.out.2.2.1.drew⟩ (fun hH => ?_))
 refine hTake 0 (some 57) (.int .i64 0) rfl rfl (by kernel_rfl) (by kernel_rfl) (by kernel_rfl) (fun _ _ _ h => h) (by rfl) (fun W' hS' => by go_simp) hH ?_
 simp only [Act.put, sA, sB, sC]
 refine hTake 1 (some 58) (.bool true) rfl rfl (by kernel_rfl) (by kernel_rfl) (by kernel_rfl) (fun _ _ _ h => h) (by rfl) (fun W' hS' => by go_simp) hH ?_
 simp only [Act.put, sA, sB, sC]
 refine hTake 2 (some 59) (.bool true) rfl rfl (by kernel_rfl) (by kernel_rfl) (by kernel_rfl) (fun _ _ _ h => h) (by rfl) (fun W' hS' => by go_simp) hH ?_
 simp only [Act.put, sA, sB, sC]
 refine hTake 3 (some 60) (.int .i64 0) rfl rfl (by kernel_rfl) (by kernel_rfl) (by kernel_rfl) (fun _ _ _ h => h) (by rfl) (fun W' hS' => by go_simp) hH ?_
 simp only [Act.put, sA, sB, sC]
 refine hTake 4 (some 61) (.bool true) rfl rfl (by kernel_rfl) (by kernel_rfl) (by kernel_rfl) (fun _ _ _ h => h) (by rfl) (fun W' hS' => by go_simp) hH ?_
 simp only [Act.put, sA, sB, sC]
 refine hTake 5 (some 62) (.bool true) rfl rfl (by kernel_rfl) (by kernel_rfl) (by kernel_rfl) (fun _ _ _ h => h) (by rfl) (fun W' hS' => by go_simp) hH ?_
 simp only [Act.put, sA, sB, sC]
 refine hTake 6 (some 63) (.bool true) rfl rfl (by kernel_rfl) (by kernel_rfl) (by kernel_rfl) (fun _ _ _ h => h) (by rfl) (fun W' hS' => by go_simp) hH ?_
 simp only [Act.put, sA, sB, sC]
 refine hTake 7 (some 64) (.int .i64 0) rfl rfl (by kernel_rfl) (by kernel_rfl) (by kernel_rfl) (fun _ _ _ h => h) (by rfl) (fun W' hS' => by go_simp) hH ?_
 simp only [Act.put, sA, sB, sC]
 refine hTake 8 (some 65) (.bool true) rfl rfl (by kernel_rfl) (by kernel_rfl) (by kernel_rfl) (fun _ _ _ h => h) (by rfl) (fun W' hS' => by go_simp) hH ?_
 simp only [Act.put, sA, sB, sC]
 refine hTake 9 (some 66) (.bool true) rfl rfl (by kernel_rfl) (by kernel_rfl) (by kernel_rfl) (fun _ _ _ h => h) (by rfl) (fun W' hS' => by go_simp) hH ?_
 simp only [Act.put, sA, sB, sC]
 refine hTake 10 (some 67) (.bool true) rfl rfl (by kernel_rfl) (by kernel_rfl) (by kernel_rfl) (fun _ _ _ h => h) (by rfl) (fun W' hS' => by go_simp) hH ?_
 simp only [Act.put, sA, sB, sC]
 refine hTake 11 (some 68) (.pointer (some ⟨w8.heap.size, 33, none⟩)) rfl rfl (by kernel_rfl) (by kernel_rfl) (by kernel_rfl) (fun _ _ _ h => h) (by rfl) (fun W' hS' => by go_simp) hH ?_
 simp only [Act.put, sA, sB, sC]
 refine hTake 12 (some 69) (.int .u64 18446744073709551615) rfl rfl (by kernel_rfl) (by kernel_rfl) (by kernel_rfl) (fun _ _ _ h => h) (by rfl) (fun W' hS' => by have cx := (hS'.1.cell 33).trans (peelC_33 _ _ _ hRl); go_simp) hH ?_
 simp only [Act.put, sA, sB, sC]
 refine hTake 13 (some 70) (.bool true) rfl rfl (by kernel_rfl) (by kernel_rfl) (by kernel_rfl) (fun _ _ _ h => h) (by rfl) (fun W' hS' => by go_simp) hH ?_
 simp only [Act.put, sA, sB, sC]
 refine hTake 14 (some 71) (.bool true) rfl rfl (by kernel_rfl) (by kernel_rfl) (by kernel_rfl) (fun _ _ _ h => h) (by rfl) (fun W' hS' => by go_simp) hH ?_
 simp only [Act.put, sA, sB, sC]
 refine hTake 15 (some 72) (.bool true) rfl rfl (by kernel_rfl) (by kernel_rfl) (by kernel_rfl) (fun _ _ _ h => h) (by rfl) (fun W' hS' => by go_simp) hH ?_
 simp only [Act.put, sA, sB, sC]
 refine hTake 16 (some 73) (.pointer (some ⟨w8.heap.size, 1, none⟩)) rfl rfl (by kernel_rfl) (by kernel_rfl) (by kernel_rfl) (fun _ _ _ h => h) (by rfl) (fun W' hS' => by go_simp) hH ?_
 simp only [Act.put, sA, sB, sC]
 refine hLoad 17 (some 74) (u8s RP) rfl rfl (by kernel_rfl) (by kernel_rfl) (by kernel_rfl) (fun _ _ _ h => h) (by rfl) 23 (.tmp 73) rfl (w8.heap.size) 1 rfl _ (fun _ h => peel_range h.1) Tryz.underlying23 rfl (sizeU RP HF.out.2.2.1) hH ?_
 simp only [Act.put, sA, sB, sC]
 refine hTake 18 (some 75) (.slice (some ⟨G, 0, none⟩) 1 1) rfl rfl (by kernel_rfl) (by kernel_rfl) (by kernel_rfl) (fun _ _ _ h => h) (by rfl) (fun W' hS' => by go_simp) hH ?_
 simp only [Act.put, sA, sB, sC]
 refine hTake 19 (some 76) (.pointer (some ⟨G, 0, none⟩)) rfl rfl (by kernel_rfl) (by kernel_rfl) (by kernel_rfl) (fun _ _ _ h => h) (by rfl) (fun W' hS' => by go_simp) hH ?_
 simp only [Act.put, sA, sB, sC]
 refine hLoad 20 (some 77) (u8s RP) rfl rfl (by kernel_rfl) (by kernel_rfl) (by kernel_rfl) (fun _ _ _ h => h) (by rfl) 23 (.tmp 76) rfl G 0 rfl _ (fun _ h => h.2.whole) Tryz.underlying23 rfl (sizeU RP HF.out.2.2.1) hH ?_
 simp only [Act.put, sA, sB, sC]
 refine hTake 21 (some 78) (.bool true) rfl rfl (by kernel_rfl) (by kernel_rfl) (by kernel_rfl) (fun _ _ _ h => h) (by rfl) (fun W' hS' => by go_simp) hH ?_
 simp only [Act.put, sA, sB, sC]
 refine hTake 22 (some 79) (.bool true) rfl rfl (by kernel_rfl) (by kernel_rfl) (by kernel_rfl) (fun _ _ _ h => h) (by rfl) (fun W' hS' => by go_simp) hH ?_
 simp only [Act.put, sA, sB, sC]
 refine hTake 23 (some 80) (.bool true) rfl rfl (by kernel_rfl) (by kernel_rfl) (by kernel_rfl) (fun _ _ _ h => h) (by rfl) (fun W' hS' => by go_simp) hH ?_
 simp only [Act.put, sA, sB, sC]
 refine hTake 24 (some 81) (.pointer (some ⟨w8.heap.size, 0, none⟩)) rfl rfl (by kernel_rfl) (by kernel_rfl) (by kernel_rfl) (fun _ _ _ h => h) (by rfl) (fun W' hS' => by go_simp) hH ?_
 simp only [Act.put, sA, sB, sC]
 refine hTake 25 (some 82) (.slice po' 5 pc') rfl rfl (by kernel_rfl) (by kernel_rfl) (by kernel_rfl) (fun _ _ _ h => h) (by rfl) (fun W' hS' => by have cx := (hS'.1.cell 0).trans (peelC_0 _ _ _); go_simp) hH ?_
 simp only [Act.put, sA, sB, sC]
 refine wpAnyH_ready (rs := [26]) (by kernel_rfl) (by simp) (AllReadyH.cons rfl (fun K hK => ?_) AllReadyH.nil)
 rw [if_pos (by rfl)]
 have hb26 : (Instr.buildSlice 32 5 #[(0, .int .u8 104), (1, .int .u8 101), (2, .int .u8 108), (3, .int .u8 108), (4, .int .u8 111)]).run Tryz.prog w13.drew = .ok (.slice (some ⟨w13.drew.heap.size, 0, none⟩) 5 5) (w13.drew.alloc (.cells #[.int .u8 104, .int .u8 101, .int .u8 108, .int .u8 108, .int .u8 111] 5)) := by kernel_rfl
 refine wp_run (.slice (some ⟨w13.drew.heap.size, 0, none⟩) 5 5) (w13.drew.alloc (.cells #[.int .u8 104, .int .u8 101, .int .u8 108, .int .u8 108, .int .u8 111] 5)) (run_lit _ 5 rfl _ (by simp [Act.eval]) _ _ hb26) ?_
 have l26 : Below w13.drew.heap.size w13.drew (w13.drew.alloc (.cells #[.int .u8 104, .int .u8 101, .int .u8 108, .int .u8 108, .int .u8 111] 5)) := (Below.refl _ _).alloc (Nat.le_refl _) _
 change K (Act.put _ (some 83) _) _
 refine hK.out _ _ ⟨hH.1.later l26 (by omega), hH.2.later l26 (by omega)⟩ (fun hH => ?_)
 clear hK K
 simp only [Act.put, sA, sB, sC]
 refine wpAnyH_ready (rs := [27]) (by kernel_rfl) (by simp) (AllReadyH.cons rfl (fun K hK => ?_) AllReadyH.nil)
 rw [if_pos (by rfl)]
 have hc26 := run_convert_bytes_const_at (P := Tryz.prog) w13.drew 32 5 #[.int .u8 104, .int .u8 101, .int .u8 108, .int .u8 108, .int .u8 111] 5 5 w13.drew.heap.size rfl Tryz.underlying32 Tryz.underlying5
 refine wp_run (.slice (some ⟨w13.drew.heap.size, 0, none⟩) 5 5) (w13.drew.alloc (.cells #[.int .u8 104, .int .u8 101, .int .u8 108, .int .u8 108, .int .u8 111] 5 (5, 5 + 1))) (run_conv (.tmp 83) rfl (.slice (some ⟨w13.drew.heap.size, 0, none⟩) 5 5) rfl _ _ hc26) ?_
 have S26 : Seen (w13.drew.alloc (.cells #[.int .u8 104, .int .u8 101, .int .u8 108, .int .u8 108, .int .u8 111] 5 (5, 5 + 1))) (some ⟨w13.drew.heap.size, 0, none⟩) 5 helloL := seen_litY w13.drew helloL _ hello_bytes (by decide)
 have m26 : Below w13.drew.heap.size w13.drew (w13.drew.alloc (.cells #[.int .u8 104, .int .u8 101, .int .u8 108, .int .u8 108, .int .u8 111] 5 (5, 5 + 1))) := (Below.refl _ _).alloc (Nat.le_refl _) _
 have HS26 : Blk (w13.drew.alloc (.cells #[.int .u8 104, .int .u8 101, .int .u8 108, .int .u8 108, .int .u8 111] 5 (5, 5 + 1))) (w8.heap.size) 56 (peelC (.slice po' 5 pc') RP 18446744073709551615) ∧ Blk (w13.drew.alloc (.cells #[.int .u8 104, .int .u8 101, .int .u8 108, .int .u8 108, .int .u8 111] 5 (5, 5 + 1))) G 23 (u8s RP) := ⟨(V5.out.2.2.2.1.later (BD) (by omega)).later m26 (by omega), (V5.out.2.2.1.later (BD) (by omega)).later m26 (by omega)⟩
 clear hc26 hb26 l26
 generalize w13.drew.alloc (.cells #[.int .u8 104, .int .u8 101, .int .u8 108, .int .u8 108, .int .u8 111] 5 (5, 5 + 1)) = x26 at S26 m26 HS26 ⊢
 change K (Act.put _ (some 84) _) _
 refine hK.out _ _ HS26 (fun hH => ?_)
 clear hK K
 simp only [Act.put, sA, sB, sC]
 have e26 := m26.size
 refine wpAnyH_ready (rs := [28]) (by kernel_rfl) (by simp) (AllReadyH.cons rfl (fun K hK => ?_) AllReadyH.nil)
 rw [if_pos (by rfl)]
 refine Does.wp (base := 0) (E := .val (.bool true)) ?_ (fun v28 x28 p28 l28 => ?_)
 ·refine Does.call 18 #[.slice po' 5 pc', .slice (some ⟨w13.drew.heap.size, 0, none⟩) 5 5] (by go_simp) ?_
  refine (eqb_yes po' (some ⟨w13.drew.heap.size, 0, none⟩) 5 pc' 5 helloL x26 ((V5.out.2.2.2.2.2.later BD (Nat.le_refl _)).later m26 (Nat.le_refl _)) S26).mono ?_
  rintro z w' ⟨rfl, q, rfl⟩
  exact ⟨_, rfl, rfl, below_dn (Below.refl _ _) q⟩
 change K (Act.put _ (some 85) v28) x28
 refine hK.out _ _ ⟨hH.1.later l28 (by omega), hH.2.later l28 (by omega)⟩ (fun hH => ?_)
 clear hK K
 simp only [Act.put, sA, sB, sC]
 obtain rfl : v28 = .bool true := p28
 have e28 := l28.size
 have B28 : Below w13.heap.size w13 x28 := below_chain (below_chain BD m26 (by omega)) l28 (by omega)
 refine hTake 29 (some 86) (.bool true) rfl rfl (by kernel_rfl) (by kernel_rfl) (by kernel_rfl) (fun _ _ _ h => h) (by rfl) (fun W' hS' => by go_simp) hH ?_
 simp only [Act.put, sA, sB, sC]
 refine hTake 30 (some 87) (.bool true) rfl rfl (by kernel_rfl) (by kernel_rfl) (by kernel_rfl) (fun _ _ _ h => h) (by rfl) (fun W' hS' => by go_simp) hH ?_
 simp only [Act.put, sA, sB, sC]
 refine hTake 31 (some 88) (.slice to 2 tc) rfl rfl (by kernel_rfl) (by kernel_rfl) (by kernel_rfl) (fun _ _ _ h => h) (by rfl) (fun W' hS' => by go_simp) hH ?_
 simp only [Act.put, sA, sB, sC]
 refine wpAnyH_ready (rs := [32]) (by kernel_rfl) (by simp) (AllReadyH.cons rfl (fun K hK => ?_) AllReadyH.nil)
 rw [if_pos (by rfl)]
 have hb32 : (Instr.buildSlice 32 2 #[(0, .int .u8 104), (1, .int .u8 105)]).run Tryz.prog x28 = .ok (.slice (some ⟨x28.heap.size, 0, none⟩) 2 2) (x28.alloc (.cells #[.int .u8 104, .int .u8 105] 5)) := by kernel_rfl
 refine wp_run (.slice (some ⟨x28.heap.size, 0, none⟩) 2 2) (x28.alloc (.cells #[.int .u8 104, .int .u8 105] 5)) (run_lit _ 2 rfl _ (by simp [Act.eval]) _ _ hb32) ?_
 have l32 : Below x28.heap.size x28 (x28.alloc (.cells #[.int .u8 104, .int .u8 105] 5)) := (Below.refl _ _).alloc (Nat.le_refl _) _
 change K (Act.put _ (some 89) _) _
 refine hK.out _ _ ⟨hH.1.later l32 (by omega), hH.2.later l32 (by omega)⟩ (fun hH => ?_)
 clear hK K
 simp only [Act.put, sA, sB, sC]
 refine wpAnyH_ready (rs := [33]) (by kernel_rfl) (by simp) (AllReadyH.cons rfl (fun K hK => ?_) AllReadyH.nil)
 rw [if_pos (by rfl)]
 have hc32 := run_convert_bytes_const_at (P := Tryz.prog) x28 32 5 #[.int .u8 104, .int .u8 105] 2 2 x28.heap.size rfl Tryz.underlying32 Tryz.underlying5
 refine wp_run (.slice (some ⟨x28.heap.size, 0, none⟩) 2 2) (x28.alloc (.cells #[.int .u8 104, .int .u8 105] 5 (2, 2 + 1))) (run_conv (.tmp 89) rfl (.slice (some ⟨x28.heap.size, 0, none⟩) 2 2) rfl _ _ hc32) ?_
 have S32 : Seen (x28.alloc (.cells #[.int .u8 104, .int .u8 105] 5 (2, 2 + 1))) (some ⟨x28.heap.size, 0, none⟩) 2 hiL := seen_litY x28 hiL _ hi_bytes (by decide)
 have m32 : Below x28.heap.size x28 (x28.alloc (.cells #[.int .u8 104, .int .u8 105] 5 (2, 2 + 1))) := (Below.refl _ _).alloc (Nat.le_refl _) _
 have HS32 : Blk (x28.alloc (.cells #[.int .u8 104, .int .u8 105] 5 (2, 2 + 1))) (w8.heap.size) 56 (peelC (.slice po' 5 pc') RP 18446744073709551615) ∧ Blk (x28.alloc (.cells #[.int .u8 104, .int .u8 105] 5 (2, 2 + 1))) G 23 (u8s RP) := ⟨(V5.out.2.2.2.1.later (B28) (by omega)).later m32 (by omega), (V5.out.2.2.1.later (B28) (by omega)).later m32 (by omega)⟩
 clear hc32 hb32 l32
 generalize x28.alloc (.cells #[.int .u8 104, .int .u8 105] 5 (2, 2 + 1)) = x32 at S32 m32 HS32 ⊢
 change K (Act.put _ (some 90) _) _
 refine hK.out _ _ HS32 (fun hH => ?_)
 clear hK K
 simp only [Act.put, sA, sB, sC]
 have e32 := m32.size
 refine wpAnyH_ready (rs := [34]) (by kernel_rfl) (by simp) (AllReadyH.cons rfl (fun K hK => ?_) AllReadyH.nil)
 rw [if_pos (by rfl)]
 refine Does.wp (base := 0) (E := .val (.bool true)) ?_ (fun v34 x34 p34 l34 => ?_)
 ·refine Does.call 18 #[.slice to 2 tc, .slice (some ⟨x28.heap.size, 0, none⟩) 2 2] (by go_simp) ?_
  refine (eqb_yes to (some ⟨x28.heap.size, 0, none⟩) 2 tc 2 hiL x32 ((V5.out.2.2.2.2.1.later B28 (Nat.le_refl _)).later m32 (Nat.le_refl _)) S32).mono ?_
  rintro z w' ⟨rfl, q, rfl⟩
  exact ⟨_, rfl, rfl, below_dn (Below.refl _ _) q⟩
 change K (Act.put _ (some 91) v34) x34
 refine hK.out _ _ ⟨hH.1.later l34 (by omega), hH.2.later l34 (by omega)⟩ (fun hH => ?_)
 clear hK K
 simp only [Act.put, sA, sB, sC]
 obtain rfl : v34 = .bool true := p34
 refine hTake 35 (some 92) (.bool true) rfl rfl (by kernel_rfl) (by kernel_rfl) (by kernel_rfl) (fun _ _ _ h => h) (by rfl) (fun W' hS' => by go_simp) hH ?_
 simp only [Act.put, sA, sB, sC]
 refine hTake 36 (some 0) (.bool true) rfl rfl (by kernel_rfl) (by kernel_rfl) (by kernel_rfl) (fun _ _ _ h => h) (by rfl) (fun W' hS' => by go_simp) hH ?_
 simp only [Act.put, sA, sB, sC]
 refine wpAnyH_done (by kernel_rfl) (NoPanic.normal ?_) _
 clear hH
 go_wp2_with fail
 go_ret
 exact ⟨rfl, below_chain (below_chain (below_chain V5.out.1 B28 V5.out.1.size) m32 (by have := V5.out.1.size; omega)) l34 (by have := V5.out.1.size; omega)⟩
end Go.Proofs.YthlbjkfjkggdoaaGreatDoor
namespace Go.Proofs.YthlbjkfjkggdoaaGreatDoor
open Go.RowKit
set_option linter.unusedVariables false
set_option linter.unusedSimpArgs false
def flatK (kss : List (List Int)) : List Int := kss.flatten
theorem flatK_length (kss : List (List Int)) (h : ∀ k ∈ kss, k.length = 32) : (flatK kss).length = 32 * kss.length := by
 induction kss with
 | nil => rfl
 | cons a r ih =>
  rw [flatK, List.flatten_cons, List.length_append, h a (by simp)]
  have := ih (fun k hk => h k (by simp [hk]))
  rw [flatK] at this
  rw [this, List.length_cons]; omega
theorem flatK_at (kss : List (List Int)) (h : ∀ k ∈ kss, k.length = 32) (i : Nat) (hi : i < kss.length) : ∃ xs zs, flatK kss = xs ++ (kss.getD i [] ++ zs) ∧ xs.length = i * 32 := by
 refine ⟨flatK (kss.take i), flatK (kss.drop (i + 1)), ?_, ?_⟩
 ·have e : kss = kss.take i ++ (kss.getD i [] :: kss.drop (i + 1)) := by
   conv => lhs; rw [← List.take_append_drop i kss, List.drop_eq_getElem_cons hi]
   simp [List.getD, hi]
  conv => lhs; rw [e]
  simp [flatK]
 ·rw [flatK_length _ (fun k hk => h k (List.mem_of_mem_take hk)), List.length_take]
  omega
theorem keys_own {w : World} {B n : Nat} {v : Value} {kss : List (List Int)} (h : w.ownsRow B 23 32 v n (u8s (flatK kss))) (hl : kss.length = n) (hg : ∀ k ∈ kss, k.length = 32 ∧ Bytes k) : ∃ vo c, v = .slice vo n c ∧ KeysS w vo n kss ∧ n ≤ c := by
 have good : ∀ i, i < n → (kss.getD i []).length = 32 ∧ Bytes (kss.getD i []) := fun i hi => by
  have hi' : i < kss.length := by omega
  have e : kss.getD i [] = kss[i] := by simp [List.getD, hi']
  rw [e]
  exact hg _ (List.getElem_mem hi')
 rcases h.2 with ⟨rfl, rfl⟩ | ⟨g, cap, cur, rfl, hB, hh, hc, hm, hs, ht⟩
 ·exact ⟨none, 0, rfl, ⟨hl, good, fun i hi => by omega⟩, Nat.le_refl _⟩
 ·refine ⟨_, cap, rfl, ⟨hl, good, fun i hi => ⟨g, 0, rfl, (Array.getElem?_eq_some_iff.1 hh).1, ?_⟩⟩, hc⟩
  obtain ⟨xs, zs, e, hx⟩ := flatK_at kss (fun k hk => (hg k hk).1) i (by omega)
  intro j u hu
  have hj : j < (kss.getD i []).length := by
   have := (List.getElem?_eq_some_iff.1 hu).1
   rwa [u8s_length] at this
  rw [cell_of_row w g _ _ 23 (0, 0) hh]
  have q : (cur.toList.take (n * 32))[i * 32 + j]? = (u8s (flatK kss))[i * 32 + j]? := by rw [ht]
  rw [List.getElem?_take, if_pos (by have := (good i hi).1; omega)] at q
  rw [Nat.zero_add, ← Array.getElem?_toList, q, e]
  rw [← hu]
  simp only [u8s, List.map_append]
  rw [List.getElem?_append_right (by simp; omega), List.length_map, hx, Nat.add_sub_cancel_left, List.getElem?_append_left (by simpa using hj)]
theorem flatK_snoc (kss : List (List Int)) (k : List Int) : u8s (flatK kss) ++ u8s k = u8s (flatK (kss ++ [k])) := by simp [flatK, u8s]
theorem returns_any (kss : List (List Int)) (rd : Int) (ko : Option Addr) (n kc : Nat) (ao : Option Addr) (m c : Nat) (z : List Int) (hn : 1 ≤ n ∧ n ≤ 8) (hr : 0 ≤ rd ∧ rd < 18446744073709551616) (w : World) (hk : KeysS w ko n kss) (hx : Seen w ao m z) (hc : m ≤ c) :
  Calls Tryz.prog 41 #[.slice ko n kc, .int .u64 rd, .slice ao m c] w fun e w' => e = .returned (.bool true) ∧ Below w.heap.size w w' := by
 have HX : Hid (KeysS w ko n kss ∧ Seen w ao m z ∧ m ≤ c ∧ Bytes z ∧ z.length = m ∧ m ≤ 140737488355328) := ⟨hk, hx, hc, hx.bytes, hx.len, hx.top⟩
 have HR : Hid (0 ≤ rd ∧ rd < 18446744073709551616) := hr
 have CC := copyB_any ao m c z w hx
 obtain ⟨h1, h8⟩ := hn
 clear hk hx hc hr
 go_enter Tryz.func41, Tryz.ntmps41
 go_wp2_with (go_at_call 22; refine CC.mono ?_; rintro e w1 ⟨v1, rfl, o1, l1⟩)
 obtain ⟨bo, bc, rfl, sb, hbc⟩ := ySl_own HX.out.2.2.2.2.1 HX.out.2.2.2.1 HX.out.2.2.2.2.2 o1
 have V1 : Hid (Below w.heap.size w w1 ∧ Seen w1 bo m z ∧ m ≤ bc) := ⟨l1, sb, hbc⟩
 clear o1 l1 sb hbc CC
 go_loopw [7, 8] (fun v i wr => ∃ k : Nat, k ≤ n ∧ i = .int .i64 ((k : Int) - 1) ∧ ySl (m + 16 * (n - k)) (anssL rd (kss.drop k) z) v wr ∧ (k < n → m + 16 * (n - (k + 1)) ≤ 1048576) ∧ Below w.heap.size w wr) (fun _ i _ => (intOf i + 1).toNat)
 case atStart =>
  refine ⟨n, Nat.le_refl _, by first | rfl | go_num, ⟨bo, bc, by rw [Nat.sub_self]; rfl, ?_, ?_⟩, fun h => absurd h (Nat.lt_irrefl _), V1.out.1⟩
  ·rw [Nat.sub_self, Nat.mul_zero, Nat.add_zero, List.drop_of_length_le (by rw [HX.out.1.len]; exact Nat.le_refl _), anssL]
   exact V1.out.2.1
  ·have := V1.out.2.2; omega
 case round =>
  obtain ⟨k, hk, rfl, hv, hsm, hbel⟩ := hrel
  obtain ⟨vo, vc, rfl, hvs, hvc⟩ := hv
  by_cases hlt : 0 < k
  ·obtain ⟨j, rfl⟩ : ∃ j, k = j + 1 := ⟨k - 1, by omega⟩
   have hj : j < n := by omega
   have e1 : ((j + 1 : Nat) : Int) - 1 = (j : Int) := by omega
   rw [e1]
   obtain ⟨b1, o1, rfl, hb1, hr1⟩ := HX.out.1.cells j hj
   obtain ⟨g1, y1⟩ := HX.out.1.good j hj
   have hD : kss.drop j = kss.getD j [] :: kss.drop (j + 1) := by
    have hl : j < kss.length := by rw [HX.out.1.len]; exact hj
    rw [List.drop_eq_getElem_cons hl]
    simp [List.getD, hl]
   obtain ⟨K, hK⟩ : ∃ q, kss.getD j [] = q := ⟨_, rfl⟩
   rw [hK] at hr1 g1 y1 hD
   obtain ⟨T, hT⟩ : ∃ q, anssL rd (kss.drop (j + 1)) z = q := ⟨_, rfl⟩
   obtain ⟨L, hL⟩ : ∃ q, m + 16 * (n - (j + 1)) = q := ⟨_, rfl⟩
   rw [hT, hL] at hvs
   rw [hL] at hvc ⊢
   have i1 : (0 : Int) ≤ (j : Int) := by omega
   have i2 : (j : Int) < (n : Int) := by omega
   have hrg := rangeAt_below hr1 hbel hb1
   have hm6 := HX.out.2.2.2.2.2
   have hLt : L ≤ 140737488355328 + 128 := by omega
   by_cases hbig : 1048576 < L
   ·have CA := answer_bad K rd vo L vc g1 HR.out (by
     have := hvs.top; omega) hbig
    have HB : Hid (Below w.heap.size w wr ∧ wr.rangeAt b1 (o1 + j * 32) (u8s K) ∧ K.length = 32) := ⟨hbel, hrg, g1⟩
    have i3 : (1048576 : Int) < (L : Int) := by omega
    clear hr1 hb1 g1 y1 hD hK hT hL hvs hvc hbel hrg hm6 hLt hsm e1
    go_wp2_with (first | (refine wpList_load_mid rfl 23 (.tmp 25) rfl b1 (o1 + j * 32) rfl (u8s K) _ HB.out.2.1 Tryz.underlying23 rfl (sizeU K HB.out.2.2) ?_) | (go_at_call 37; refine (CA _).mono ?_; rintro e w2 ⟨rfl, l2⟩))
    go_ret
    exact ⟨rfl, below_chain HB.out.1 l2 HB.out.1.size⟩
   ·have CA := fun (W : World) (hs : Seen W vo L T) => answer_any K rd vo L vc T g1 y1 HR.out (by omega) W hs hvc
    have i3 : ¬ (1048576 : Int) < (L : Int) := by omega
    have HB : Hid (Below w.heap.size w wr ∧ wr.rangeAt b1 (o1 + j * 32) (u8s K) ∧ K.length = 32 ∧ Seen wr vo L T ∧ anssL rd (kss.drop j) z = ansL rd K T ∧ m + 16 * (n - j) = L + 16 ∧ L ≤ 1048576 ∧ Bytes T ∧ T.length = L ∧ m + 16 * (n - (j + 1)) ≤ 1048576) := ⟨hbel, hrg, g1, hvs, by rw [hD, anssL, hT], by omega, by omega, hvs.bytes, hvs.len, by omega⟩
    clear hr1 hb1 g1 y1 hD hK hT hL hvs hvc hbel hrg hm6 hLt hsm e1
    go_wp2_with (first | (refine wpList_load_mid rfl 23 (.tmp 25) rfl b1 (o1 + j * 32) rfl (u8s K) _ HB.out.2.1 Tryz.underlying23 rfl (sizeU K HB.out.2.2.1) ?_) | (go_at_call 37; refine (CA _ HB.out.2.2.2.1).mono ?_; rintro e w2 ⟨qo, qc, rfl, o2, l2⟩))
    obtain ⟨xo, xc, hxe, sx, hxc⟩ := ySl_own (zs := ansL rd K T) (by rw [ansL, boxL_length, HB.out.2.2.2.2.2.2.2.2.1]) (boxL_bytes _ _ _ HB.out.2.2.2.2.2.2.2.1) (by have := HB.out.2.2.2.2.2.2.1; omega) o2
    rw [hxe]
    have R : Hid (ySl (m + 16 * (n - j)) (anssL rd (kss.drop j) z) (.slice xo (L + 16) xc) w2 ∧ Below w.heap.size w w2) := by
     rw [HB.out.2.2.2.2.2.1, HB.out.2.2.2.2.1]
     exact ⟨⟨xo, xc, rfl, sx, hxc⟩, below_chain HB.out.1 l2 HB.out.1.size⟩
    have hsm2 := HB.out.2.2.2.2.2.2.2.2.2
    have e2 : IntKind.i64.wrap ((j : Int) - 1) = (j : Int) - 1 := by simp only [IntKind.wrap, IntKind.bits, IntKind.signed]; simp; omega
    have e3 : IntKind.i64.wrap ((L : Int) + 16) = (L : Int) + 16 := by have := HB.out.2.2.2.2.2.2.1; simp only [IntKind.wrap, IntKind.bits, IntKind.signed]; simp; omega
    have e4 : ((L + 16 : Nat) : Int) = (L : Int) + 16 := by omega
    clear hxe o2 l2 sx hxc HB CA
    go_wp2
    go_roundw
    case rel => exact ⟨j, by omega, by first | rfl | go_num, R.out.1, fun _ => hsm2, R.out.2⟩
    case measure => simp [intOf] <;> omega
  ·obtain rfl : k = 0 := by omega
   rw [Nat.sub_zero] at hvs hvc
   rw [Nat.sub_zero]
   rw [List.drop_zero] at hvs
   have hsm := hsm (by omega)
   have CU := fun (W : World) (hkk : KeysS W ko n kss) (hs : Seen W vo (m + 16 * n) (anssL rd kss z)) => unwrap_any kss rd ko n kc vo (m + 16 * n) vc z ⟨h1, h8⟩ HR.out (by rw [HX.out.2.2.2.2.1]) (by rw [HX.out.2.2.2.2.1]; omega) HX.out.2.2.2.1 W hkk hs hvc
   rw [HX.out.2.2.2.2.1] at CU
   have HE : Hid (Below w.heap.size w wr ∧ KeysS wr ko n kss ∧ Seen wr vo (m + 16 * n) (anssL rd kss z)) := ⟨hbel, HX.out.1.later hbel, hvs⟩
   clear hvs hvc hbel hsm
   have e0 : ((0 : Nat) : Int) - 1 = -1 := rfl
   rw [e0]
   go_wp2_with (first | (go_at_call 38; refine (CU _ HE.out.2.1 HE.out.2.2).mono ?_; rintro e w2 ⟨to, tc, rfl, ht, htc, l2⟩; have B2 : Hid (Below w.heap.size w w2) := below_chain HE.out.1 l2 HE.out.1.size) | (go_at_call 18; refine (eqb_yes to ao m tc c z _ ht (HX.out.2.1.later B2.out (Nat.le_refl _))).mono ?_; rintro e w3 ⟨rfl, q, rfl⟩))
   go_ret
   exact ⟨rfl, below_dn B2.out q⟩
end Go.Proofs.YthlbjkfjkggdoaaGreatDoor
namespace Go.Proofs.YthlbjkfjkggdoaaGreatDoor
open Go.RowKit
set_option linter.unusedVariables false
set_option linter.unusedSimpArgs false
def bsK (o : List Int) : List Int := prodL o nineL
theorem bsK_good (oss : List (List Int)) : ∀ k ∈ oss.map bsK, k.length = 32 ∧ Bytes k := by
 intro k hk
 obtain ⟨o, _, rfl⟩ := List.mem_map.1 hk
 exact ⟨prodL_length _ _, prodL_bytes _ _⟩
theorem keys_blk {w : World} {g n : Nat} {t : TypeId} {kss : List (List Int)} (h : Blk w g t (u8s (flatK kss))) (hl : kss.length = n) (hg : ∀ k ∈ kss, k.length = 32 ∧ Bytes k) : KeysS w (some ⟨g, 0, none⟩) n kss := by
 have good : ∀ i, i < n → (kss.getD i []).length = 32 ∧ Bytes (kss.getD i []) := fun i hi => by
  have hi' : i < kss.length := by omega
  have e : kss.getD i [] = kss[i] := by simp [List.getD, hi']
  rw [e]
  exact hg _ (List.getElem_mem hi')
 refine ⟨hl, good, fun i hi => ⟨g, 0, rfl, h.lt, ?_⟩⟩
 obtain ⟨xs, zs, e, hx⟩ := flatK_at kss (fun k hk => (hg k hk).1) i (by omega)
 have hu : u8s (flatK kss) = u8s xs ++ (u8s (kss.getD i []) ++ u8s zs) := by rw [e]; simp [u8s]
 rw [hu] at h
 have q := h.range
 rw [u8s_length, hx] at q
 rw [Nat.zero_add]
 exact q
def yPt (B n : Nat) (zs rep : List Int) (x : Int) (v : Value) (w : World) : Prop := ∃ ao c, v = .tuple #[.agg (peelC (.slice ao n c) rep x).toArray, .int .i64 0] ∧ isO B n zs (.slice ao n c) w
theorem yPt_later (B n : Nat) (zs rep : List Int) (x : Int) : ∀ v w w', Below w.heap.size w w' → yPt B n zs rep x v w → yPt B n zs rep x v w' := fun _ _ _ hb ⟨ao, c, h1, h2⟩ => ⟨ao, c, h1, isO_later _ _ _ _ _ _ hb h2⟩
def repsK (rd : Int) (l : List (List Int × List Int)) : List (List Int) := l.map fun x => repO rd x.1 x.2
theorem repsK_good (rd : Int) (l : List (List Int × List Int)) : ∀ k ∈ repsK rd l, k.length = 32 ∧ Bytes k := by
 intro k hk
 obtain ⟨x, _, rfl⟩ := List.mem_map.1 hk
 exact ⟨repO_length _ _ _, repO_bytes _ _ _⟩
theorem repsK_at (rd : Int) (ss ps : List (List Int)) (n j : Nat) (hs : ss.length = n) (hp : ps.length = n) (hj : j < n) : (repsK rd (ss.zip ps)).getD j [] = repO rd (ss.getD j []) (ps.getD j []) := by
 have h : j < (ss.zip ps).length := by rw [List.length_zip]; omega
 simp [repsK, List.getD, hs, hp, hj, h]
theorem back_any (oss pss : List (List Int)) (rd : Int) (oo po io to : Option Addr) (on oc pn pc im ic tm tc : Nat) (izs tzs : List Int) (hr : 0 ≤ rd ∧ rd < 18446744073709551616) (w : World) (ho : KeysS w oo on oss) (hon : on ≤ 140737488355328) (hp : KeysS w po pn pss) (hpn : pn ≤ 140737488355328) (hi : Seen w io im izs) (hic : im ≤ ic) (ht : Seen w to tm tzs) (htc : tm ≤ tc) (hK : KTab w) :
  Calls Tryz.prog 7 #[.agg #[.slice oo on oc, .slice po pn pc, .int .u64 rd, .slice io im ic, .slice to tm tc]] w fun e w' => e = .returned (.bool true) ∧ Below w.heap.size w w' := by
 have HX : Hid (KeysS w oo on oss ∧ KeysS w po pn pss ∧ Seen w io im izs ∧ im ≤ ic ∧ Seen w to tm tzs ∧ tm ≤ tc ∧ KTab w) := ⟨ho, hp, hi, hic, ht, htc, hK⟩
 have HR : Hid (0 ≤ rd ∧ rd < 18446744073709551616) := hr
 have HN : Hid (on ≤ 140737488355328 ∧ pn ≤ 140737488355328) := ⟨hon, hpn⟩
 obtain ⟨i0, hi0, hz0, hz1, hz2⟩ := info_parts info_Key
 have HI : Hid (Tryz.prog.info? 23 = some i0 ∧ i0.zero = some (.agg (u8s (zer 32)).toArray) ∧ i0.size = 32 ∧ i0.bytes = 32) := ⟨hi0, hz0, hz1, hz2⟩
 clear ho hon hp hpn hi hic ht htc hK hr hi0 hz0 hz1 hz2
 go_enter Tryz.func7, Tryz.ntmps7
 go_wp2_with (first | (refine wpList_box_new rfl 68 (.tmp 0) rfl [.slice oo on oc, .slice po pn pc, .int .u64 rd, .slice io im ic, .slice to tm tc] rfl ?_; intro w1 b1 s1 l1))
 have HW : Hid (Below w.heap.size w w1 ∧ Blk w1 w.heap.size 68 [.slice oo on oc, .slice po pn pc, .int .u64 rd, .slice io im ic, .slice to tm tc] ∧ w1.heap.size = w.heap.size + 1) := ⟨l1, b1, s1⟩
 clear b1 s1 l1
 go_loopw [3, 4] (fun v i wr => ∃ k : Nat, k ≤ on ∧ k ≤ 20 ∧ i = .int .i64 k ∧ wr.ownsRow w1.heap.size 23 32 v k (u8s (flatK ((oss.map bsK).take k))) ∧ Below w1.heap.size w1 wr) (fun _ i _ => on - (intOf i).toNat)
 case atStart => exact ⟨0, Nat.zero_le _, Nat.zero_le _, rfl, World.ownsRow_nil _ _ _ _, Below.refl _ _⟩
 case round =>
  obtain ⟨k, hk, hk20, rfl, hown, hbel⟩ := hrel
  have hw1 : w.heap.size < w1.heap.size := by have := HW.out.2.2; omega
  have c0 : wr.cell? ⟨w.heap.size, 0, none⟩ = some (.slice oo on oc) := (HW.out.2.1.later hbel (by omega)).cell 0
  have hwr := hbel.size
  have HB : Hid (wr.ownsRow w1.heap.size 23 32 u3 k (u8s (flatK ((oss.map bsK).take k))) ∧ Below w1.heap.size w1 wr ∧ Below w.heap.size w wr ∧ Blk wr w.heap.size 68 [.slice oo on oc, .slice po pn pc, .int .u64 rd, .slice io im ic, .slice to tm tc]) := ⟨hown, hbel, below_chain HW.out.1 hbel HW.out.1.size, HW.out.2.1.later hbel (by omega)⟩
  clear hown hbel
  by_cases hlt : k < on ∧ k < 20
  ·obtain ⟨b, o, hoo, hb, hrg⟩ := HX.out.1.cells k hlt.1
   obtain ⟨g1, y1⟩ := HX.out.1.good k hlt.1
   have hl : k < oss.length := by rw [HX.out.1.len]; exact hlt.1
   have hT : oss.take (k + 1) = oss.take k ++ [oss.getD k []] := by
    rw [List.take_succ_eq_append_getElem hl]
    simp [List.getD, hl]
   obtain ⟨O, hO⟩ : ∃ q, oss.getD k [] = q := ⟨_, rfl⟩
   rw [hO] at hrg g1 y1 hT
   have CB := base_any O g1 y1
   obtain ⟨S, hS⟩ : ∃ q, prodL O nineL = q := ⟨_, rfl⟩
   rw [hS] at CB
   have HS : Hid (S.length = 32 ∧ u8s (flatK ((oss.map bsK).take k)) ++ u8s S = u8s (flatK ((oss.map bsK).take (k + 1))) ∧ wr.rangeAt b (o + k * 32) (u8s O) ∧ O.length = 32) := ⟨by rw [← hS]; exact prodL_length _ _, by rw [← List.map_take, ← List.map_take, hT, List.map_append, ← hS, flatK_snoc]; rfl, rangeAt_below hrg HB.out.2.2.1 hb, g1⟩
   have i1 : (0 : Int) ≤ (k : Int) := by omega
   have i2 : (k : Int) < (on : Int) := by omega
   have i3 : (k : Int) < 20 := by omega
   rw [hoo] at c0
   clear hb hrg g1 y1 hl hT hO hS
   go_wp2_with (first | (refine wpList_load_mid rfl 23 (.tmp 28) rfl b (o + k * 32) rfl (u8s O) _ HS.out.2.2.1 Tryz.underlying23 rfl (sizeU O HS.out.2.2.2) ?_) | (go_at_call 39; refine (CB _).mono ?_; rintro e w2 ⟨rfl, l2⟩) | (refine wpList_keys1 rfl (.tmp 30) rfl S HS.out.1 rfl ?_; intro w3 b3 s3 l3; have B3 : Below wr.heap.size wr w3 := below_chain l2 l3 l2.size) | (at_builtin; refine wpList_append_own _ rfl _ _ 31 rfl w1.heap.size 23 i0 _ 32 32 Tryz.underlying31 HI.out.1 HI.out.2.1 HI.out.2.2.1 HI.out.2.2.2 rfl (by decide) _ k _ rfl (ownsRow_below HB.out.1 B3) ⟨w2.heap.size, 0, none⟩ 1 1 (u8s S) rfl (by rw [u8s_length, HS.out.1]) (fun j u hu => by rw [add_mid, Nat.zero_add]; exact (b3.cell j).trans hu) (u8s_one _) (by unfold maxLen; omega) (by omega) (by have := B3.size; omega) ?_; intro v' w4 ho4 hg4 _))
   have R : Hid (w4.ownsRow w1.heap.size 23 32 v' (k + 1) (u8s (flatK ((oss.map bsK).take (k + 1)))) ∧ Below w1.heap.size w1 w4) := by
    rw [HS.out.2.1] at ho4
    have q := B3.size
    exact ⟨ho4, (below_chain HB.out.2.1 B3 hwr).grown hg4 (by omega) (fun j hj => ((ownsRow_below HB.out.1 B3).lt j hj).1)⟩
   clear ho4 hg4 b3 s3 l3 l2 B3 CB
   go_wp2
   go_roundw
   case rel => exact ⟨k + 1, by omega, by omega, by go_num, R.out.1, R.out.2⟩
   case measure => simp [intOf] <;> omega
  ·have c1 : wr.cell? ⟨w.heap.size, 1, none⟩ = some (.slice po pn pc) := HB.out.2.2.2.cell 1
   have c2 : wr.cell? ⟨w.heap.size, 2, none⟩ = some (.int .u64 rd) := HB.out.2.2.2.cell 2
   have c3 : wr.cell? ⟨w.heap.size, 3, none⟩ = some (.slice io im ic) := HB.out.2.2.2.cell 3
   obtain ⟨vo, vc, rfl, hKS, hvc⟩ := keys_own HB.out.1 (by rw [List.length_take, List.length_map, HX.out.1.len]; omega) (fun q hq => bsK_good oss q (List.mem_of_mem_take hq))
   have hKT : KTab wr := HX.out.2.2.2.2.2.2.below HB.out.2.2.1 HX.out.2.2.2.2.2.2.lt
   have HV : Hid (KeysS wr vo k ((oss.map bsK).take k) ∧ KTab wr) := ⟨hKS, hKT⟩
   clear hKS hvc hKT
   have n1 := HN.out.1
   have n2 := HN.out.2
   have n3 := HX.out.2.2.1.top
   by_cases hA : 1 ≤ k ∧ k ≤ 8 ∧ pn = k
   ·obtain ⟨hk1, hk8, hpk⟩ := hA
    obtain rfl := hpk.symm
    have hkon : k = on := by omega
    subst hkon
    have j0 : ¬ ((k : Int) < (k : Int)) := by omega
    have j1 : ((k : Int) == 0) = false := by rw [beq_eq_false_iff_ne]; omega
    have j2 : ¬ (8 : Int) < (k : Int) := by omega
    have e48 : IntKind.i64.wrap (48 * (k : Int)) = 48 * (k : Int) := by simp only [IntKind.wrap, IntKind.bits, IntKind.signed]; simp; omega
    obtain ⟨LB, hLB⟩ : ∃ q, im + 48 * k = q := ⟨_, rfl⟩
    have e49 : IntKind.i64.wrap ((im : Int) + 48 * (k : Int)) = (LB : Int) := by rw [← hLB]; simp only [IntKind.wrap, IntKind.bits, IntKind.signed]; simp; omega
    by_cases hlong : 1048576 < LB
    ·have j4 : (1048576 : Int) < (LB : Int) := by omega
     have j5 : (1048576 : Int) < (im : Int) + 48 * (k : Int) := by omega
     go_wp2_with (first | (go_at_call 17; refine (wrap_long vo po k vc pc rd io im ic ⟨hk1, hk8⟩ n3 (by omega) _).mono ?_; rintro e _ ⟨rfl, rfl⟩) | (go_at_call 13; refine (yworks_any _ HV.out.2).mono ?_; rintro e w5 ⟨rfl, l5⟩))
     go_ret
     exact ⟨rfl, below_chain HB.out.2.2.1 l5 HB.out.2.2.1.size⟩
    ·have j4 : ¬ (1048576 : Int) < (LB : Int) := by omega
     have j5 : ¬ (1048576 : Int) < (im : Int) + 48 * (k : Int) := by omega
     have j6 : (im : Int) + 48 * (k : Int) = (LB : Int) := by omega
     have hT : (oss.map bsK).take k = oss.map bsK := List.take_of_length_le (by rw [List.length_map, HX.out.1.len]; exact Nat.le_refl _)
     rw [hT] at HV
     have CW := wrap_any (oss.map bsK) pss rd vo po k vc pc io im ic izs ⟨hk1, hk8⟩ HR.out (by omega) (fun i hi => by
      obtain ⟨a1, a2⟩ := HX.out.1.good i hi
      obtain ⟨a3, a4⟩ := HX.out.2.1.good i hi
      have e : (oss.map bsK).getD i [] = prodL (oss.getD i []) nineL := by
       have hl : i < oss.length := by rw [HX.out.1.len]; exact hi
       simp [List.getD, hl, bsK]
      rw [e]
      exact prod_strong _ _ a3 a4 a1 a2) wr HV.out.1 (HX.out.2.1.later HB.out.2.2.1) (HX.out.2.2.1.later HB.out.2.2.1 (Nat.le_refl _)) HX.out.2.2.2.1 HV.out.2
     rw [hLB] at CW
     go_wp2_with (go_at_call 17; refine CW.mono ?_; rintro e w6 ⟨qo, qc, G, rfl, o6, hG6, b6, l6⟩; have d3 : w6.cell? ⟨w.heap.size, 3, none⟩ = some (.slice io im ic) := (HB.out.2.2.2.later l6 HB.out.2.2.2.lt).cell 3; have d1 : w6.cell? ⟨w.heap.size, 1, none⟩ = some (.slice po k pc) := (HB.out.2.2.2.later l6 HB.out.2.2.2.lt).cell 1)
     obtain ⟨xo, xc, hxe, sx, hxc⟩ := ySl_own (by rw [wrapL_length, List.length_zip, List.length_map, HX.out.1.len, HX.out.2.1.len, Nat.min_self, HX.out.2.2.1.len]; omega) (wrapL_bytes _ _ HX.out.2.2.1.bytes) (by omega) o6
     rw [hxe]
     have bK := keys_blk (n := k) (kss := repsK rd ((oss.map bsK).zip pss)) b6 (by rw [repsK, List.length_map, List.length_zip, List.length_map, HX.out.1.len, HX.out.2.1.len, Nat.min_self]) (repsK_good _ _)
     have V6 : Hid (Below w.heap.size w w6 ∧ Blk w6 w.heap.size 68 [.slice oo k oc, .slice po k pc, .int .u64 rd, .slice io im ic, .slice to tm tc] ∧ Seen w6 xo LB (wrapL rd ((oss.map bsK).zip pss) izs) ∧ LB ≤ xc ∧ KeysS w6 (some ⟨G, 0, none⟩) k (repsK rd ((oss.map bsK).zip pss)) ∧ KTab w6 ∧ im + 48 * k = LB) := ⟨below_chain HB.out.2.2.1 l6 HB.out.2.2.1.size, HB.out.2.2.2.later l6 HB.out.2.2.2.lt, sx, hxc, bK, HV.out.2.below l6 HV.out.2.lt, hLB⟩
     clear CW hxe o6 hG6 b6 l6 sx hxc bK HB HV c0 c1 c2 c3 hT hLB
     go_wp2
     go_loopw [5, 10] (fun v i wr => ∃ j : Nat, j ≤ k ∧ i = .int .i64 j ∧ ySl (im + 48 * (k - j)) (wrapL rd (((oss.map bsK).zip pss).drop j) izs) v wr ∧ Below w6.heap.size w6 wr) (fun _ i _ => k - (intOf i).toNat)
     case atStart => exact ⟨0, Nat.zero_le _, rfl, ⟨xo, xc, by rw [Nat.sub_zero, V6.out.2.2.2.2.2.2], by rw [Nat.sub_zero, V6.out.2.2.2.2.2.2]; exact V6.out.2.2.1, by rw [Nat.sub_zero, V6.out.2.2.2.2.2.2]; exact V6.out.2.2.2.1⟩, Below.refl _ _⟩
     case round =>
      obtain ⟨j, hj, rfl, hv, hbel⟩ := hrel
      obtain ⟨vo', vc', rfl, hvs, hvc⟩ := hv
      have h6s := V6.out.1.size
      have h6w : w.heap.size < w6.heap.size := V6.out.2.1.lt
      have BW : Below w.heap.size w wr := below_chain V6.out.1 hbel h6s
      have bW : Blk wr w.heap.size 68 [.slice oo k oc, .slice po k pc, .int .u64 rd, .slice io im ic, .slice to tm tc] := V6.out.2.1.later hbel h6w
      by_cases hlt : j < k
      ·obtain ⟨b1, o1, hoo, hb1, hr1⟩ := HX.out.1.cells j hlt
       obtain ⟨g1, y1⟩ := HX.out.1.good j hlt
       obtain ⟨g2, y2⟩ := HX.out.2.1.good j hlt
       have hP := pair_at (oss.map bsK) pss k j (by rw [List.length_map, HX.out.1.len]) HX.out.2.1.len hlt
       have eS : (oss.map bsK).getD j [] = prodL (oss.getD j []) nineL := by
        have hl : j < oss.length := by rw [HX.out.1.len]; exact hlt
        simp [List.getD, hl, bsK]
       have hRa := repsK_at rd (oss.map bsK) pss k j (by rw [List.length_map, HX.out.1.len]) HX.out.2.1.len hlt
       obtain ⟨bg, og, hgo, hbg, hrg⟩ := V6.out.2.2.2.2.1.cells j hlt
       simp only [Option.some.injEq, Addr.mk.injEq, and_true] at hgo
       obtain ⟨hgo1, hgo2⟩ := hgo
       subst hgo1 hgo2
       rw [hRa] at hrg
       rw [eS] at hP hrg
       obtain ⟨O, hO⟩ : ∃ q, oss.getD j [] = q := ⟨_, rfl⟩
       obtain ⟨p, hp⟩ : ∃ q, pss.getD j [] = q := ⟨_, rfl⟩
       rw [hO] at hr1 g1 y1 hP hrg
       rw [hp] at g2 y2 hP hrg
       obtain ⟨T, hT⟩ : ∃ q, wrapL rd (((oss.map bsK).zip pss).drop (j + 1)) izs = q := ⟨_, rfl⟩
       have hTb : Bytes T := by rw [← hT]; exact wrapL_bytes _ _ HX.out.2.2.1.bytes
       have hA : wrapL rd (((oss.map bsK).zip pss).drop j) izs = layL rd (prodL O nineL) p T := by rw [hP, wrapL, hT]
       have OFF := off_lay rd O p T g1 y1 g2 y2 hTb
       obtain ⟨M, hM⟩ : ∃ q, im + 48 * (k - (j + 1)) = q := ⟨_, rfl⟩
       have hLM : im + 48 * (k - j) = M + 48 := by omega
       have h66 := V6.out.2.2.2.2.2.2
       rw [hA, hLM] at hvs
       rw [hLM] at hvc ⊢
       have CP := fun (W : World) (hs : Seen W vo' (M + 48) (layL rd (prodL O nineL) p T)) (hk' : KTab W) => peel_any O rd vo' M vc' _ g1 y1 HR.out (by omega) W hs hvc hk'
       rw [OFF.1, OFF.2.1, OFF.2.2, mk_true] at CP
       obtain ⟨kb, hkb⟩ : ∃ q, repO rd (prodL O nineL) p = q := ⟨_, rfl⟩
       rw [hkb] at CP hrg
       have hkl : kb.length = 32 := by rw [← hkb]; exact repO_length _ _ _
       have hTl : T.length = M := by rw [← hT, wrapL_length, List.length_drop, List.length_zip, List.length_map, HX.out.1.len, HX.out.2.1.len, Nat.min_self, HX.out.2.2.1.len, ← hM]
       have HB : Hid (Below w.heap.size w wr ∧ Below w6.heap.size w6 wr ∧ Seen wr vo' (M + 48) (layL rd (prodL O nineL) p T) ∧ KTab wr ∧ wr.rangeAt b1 (o1 + j * 32) (u8s O) ∧ Blk wr w.heap.size 68 [.slice oo k oc, .slice po k pc, .int .u64 rd, .slice io im ic, .slice to tm tc] ∧ wr.rangeAt G (0 + j * 32) (u8s kb) ∧ b1 < w.heap.size ∧ O.length = 32 ∧ T.length = M ∧ Bytes T ∧ wrapL rd (((oss.map bsK).zip pss).drop (j + 1)) izs = T ∧ im + 48 * (k - (j + 1)) = M ∧ M ≤ 1048576) := ⟨BW, hbel, hvs, V6.out.2.2.2.2.2.1.below hbel V6.out.2.2.2.2.2.1.lt, rangeAt_below hr1 BW hb1, bW, rangeAt_below hrg hbel hbg, hb1, g1, hTl, hTb, hT, hM, by omega⟩
       have heq : ∀ wx, (Op.equalIn 10000 23 (.agg (u8s kb).toArray) (.agg (u8s kb).toArray)).run Tryz.prog wx = .ok true wx := equal32A 23 32 Tryz.underlying23 9998 _ hkl
       have HK : Hid (kb.length = 32) := hkl
       have i1 : (0 : Int) ≤ (j : Int) := by omega
       have i2 : (j : Int) < (k : Int) := by omega
       have hGl : G < wr.heap.size := by have := hbel.size; omega
       have hwl : w.heap.size < wr.heap.size := bW.lt
       have hb1' := hb1
       clear hr1 g1 y1 g2 y2 hP eS hRa hbg hrg hO hp hT hTb hA OFF hM hLM h66 hvs hvc hkb hTl BW bW hbel hkl hb1
       go_wp2_with fail
       have BD : Below wr.heap.size wr wr.drew := below_dn (Below.refl _ _) 1
       have sD : wr.drew.heap.size = wr.heap.size := rfl
       refine wp_region_noPanic (wp_region_held_drew (S := fun W => W.rangeAt b1 (o1 + j * 32) (u8s O) ∧ Blk W w.heap.size 68 [.slice oo k oc, .slice po k pc, .int .u64 rd, .slice io im ic, .slice to tm tc]) (by kernel_rfl) ⟨HB.out.2.2.2.2.1, HB.out.2.2.2.2.2.1.drew⟩ (fun hH => ?_))
       refine hTake 0 (some 144) (.pointer (some ⟨w.heap.size, 0, none⟩)) rfl rfl (by kernel_rfl) (by kernel_rfl) (by kernel_rfl) (fun _ _ _ h => h) (by rfl) (fun W' hS' => by go_simp) hH ?_
       simp only [Act.put, sA, sB, sC]
       refine hTake 1 (some 145) (.slice oo k oc) rfl rfl (by kernel_rfl) (by kernel_rfl) (by kernel_rfl) (fun _ _ _ h => h) (by rfl) (fun W' hS' => by have cx : W'.cell? ⟨w.heap.size, 0, none⟩ = some (.slice oo k oc) := hS'.2.cell 0; go_simp) hH ?_
       simp only [Act.put, sA, sB, sC]
       refine hTake 2 (some 146) (.int .i64 (j : Int)) rfl rfl (by kernel_rfl) (by kernel_rfl) (by kernel_rfl) (fun _ _ _ h => h) (by rfl) (fun W' hS' => by go_simp) hH ?_
       simp only [Act.put, sA, sB, sC]
       refine hTake 3 (some 147) (.pointer (some ⟨b1, o1 + j * 32, none⟩)) rfl rfl (by kernel_rfl) (by kernel_rfl) (by kernel_rfl) (fun _ _ _ h => h) (by rfl) (fun W' hS' => by rw [hoo]; go_simp) hH ?_
       simp only [Act.put, sA, sB, sC]
       refine hLoad 4 (some 148) (u8s O) rfl rfl (by kernel_rfl) (by kernel_rfl) (by kernel_rfl) (fun _ _ _ h => h) (by rfl) 23 (.tmp 147) rfl b1 (o1 + j * 32) rfl _ (fun _ h => h.1) Tryz.underlying23 rfl (sizeU O HB.out.2.2.2.2.2.2.2.2.1) hH ?_
       simp only [Act.put, sA, sB, sC]
       refine hTake 5 (some 149) (.pointer (some ⟨w.heap.size, 2, none⟩)) rfl rfl (by kernel_rfl) (by kernel_rfl) (by kernel_rfl) (fun _ _ _ h => h) (by rfl) (fun W' hS' => by go_simp) hH ?_
       simp only [Act.put, sA, sB, sC]
       refine hTake 6 (some 150) (.int .u64 rd) rfl rfl (by kernel_rfl) (by kernel_rfl) (by kernel_rfl) (fun _ _ _ h => h) (by rfl) (fun W' hS' => by have cx : W'.cell? ⟨w.heap.size, 2, none⟩ = some (.int .u64 rd) := hS'.2.cell 2; go_simp) hH ?_
       simp only [Act.put, sA, sB, sC]
       refine hTake 7 (some 151) (.slice vo' (M + 48) vc') rfl rfl (by kernel_rfl) (by kernel_rfl) (by kernel_rfl) (fun _ _ _ h => h) (by rfl) (fun W' hS' => by go_simp) hH ?_
       simp only [Act.put, sA, sB, sC]
       refine wpAnyH_ready (rs := [8, 12]) (by kernel_rfl) (by simp) (AllReadyH.cons rfl (fun K hK => ?_) (AllReadyH.cons rfl (fun K hK => ?_) AllReadyH.nil))
       ·rw [if_pos (by rfl)]
        refine Does.wp (base := wr.heap.size) (E := .any (yPt wr.heap.size M T kb 18446744073709551615) (yPt_later _ _ _ _ _)) ?_ (fun v8 x8 p8 l8 => ?_)
        ·refine Does.call 31 #[.agg (u8s O).toArray, .int .u64 rd, .slice vo' (M + 48) vc'] (by go_simp) ?_
         refine (CP wr.drew (HB.out.2.2.1.later BD (Nat.le_refl _)) (HB.out.2.2.2.1.below BD HB.out.2.2.2.1.lt)).mono ?_
         rintro z w' ⟨qo2, qc2, rfl, ho, l⟩
         exact ⟨_, rfl, ⟨qo2, qc2, rfl, isO_base ho (by omega)⟩, l⟩
        change K (Act.put _ (some 152) v8) x8
        refine hK.out _ _ ⟨rangeAt_below hH.1 l8 (by omega), hH.2.later l8 (by omega)⟩ (fun hH => ?_)
        clear hK K
        simp only [Act.put, sA, sB, sC]
        obtain ⟨qo2, qc2, rfl, oK⟩ := p8
        have s8 := l8.size
        refine hTake 9 (some 143) (.tuple #[.agg (peelC (.slice qo2 M qc2) kb 18446744073709551615).toArray, .int .i64 0]) rfl rfl (by kernel_rfl) (by kernel_rfl) (by kernel_rfl) (fun _ _ _ h => h) (by rfl) (fun W' hS' => by go_simp) hH ?_
        simp only [Act.put, sA, sB, sC]
        refine hTake 10 (some 153) (.agg (peelC (.slice qo2 M qc2) kb 18446744073709551615).toArray) rfl rfl (by kernel_rfl) (by kernel_rfl) (by kernel_rfl) (fun _ _ _ h => h) (by rfl) (fun W' hS' => by go_simp) hH ?_
        simp only [Act.put, sA, sB, sC]
        refine hTake 11 (some 154) (.int .i64 0) rfl rfl (by kernel_rfl) (by kernel_rfl) (by kernel_rfl) (fun _ _ _ h => h) (by rfl) (fun W' hS' => by go_simp) hH ?_
        simp only [Act.put, sA, sB, sC]
        refine wpAnyH_ready (rs := [12]) (by kernel_rfl) (by simp) (AllReadyH.cons rfl (fun K hK => ?_) AllReadyH.nil)
        rw [if_pos (by rfl)]
        refine Does.wp (base := x8.heap.size) (E := .blk 56 (peelC (.slice none 0 0) (List.replicate 32 0) 0)) ?_ (fun v12 x12 p12 l12 => ?_)
        ·exact Does.alloc 56 rfl 34 _ zeroPeeled (by omega)
        change K (Act.put _ (some 11) v12) x12
        refine hK.out _ _ ⟨rangeAt_below hH.1 l12 (by omega), hH.2.later l12 (by omega)⟩ (fun hH => ?_)
        clear hK K
        simp only [Act.put, sA, sB, sC]
        obtain ⟨g12, rfl, hg12, bg⟩ := p12
        have s12 := l12.size
        have hg12n : g12 < x12.heap.size := bg.lt
        have hgA : ∀ q, (Value.slice qo2 M qc2).ownBlock = some q → q ≠ g12 := fun q hq => by have := (oK.lt q hq).2; omega
        have oK1 := isO_later _ _ _ _ _ _ l12 oK
        refine wpAnyH_ready (rs := [13]) (by kernel_rfl) (by simp) (AllReadyH.cons rfl (fun K hK => ?_) AllReadyH.nil)
        rw [if_pos (by rfl)]
        refine last_store 56 (.tmp 11) (.tmp 153) rfl rfl g12 rfl 56 _ (peelC (.slice qo2 M qc2) kb 18446744073709551615) rfl bg (by rw [peelC_length _ _ _ HK.out]; rfl) (by rw [peelC_length _ _ _ HK.out]; exact sizePeeled) (peelC_one _ _ _ _ _) ?_
        intro w13 b13 s13 k13
        refine hK.out _ _ ⟨rangeAt_keptG hH.1 k13 (by omega), hH.2.kept k13 (by omega)⟩ (fun hH => ?_)
        clear hK K
        refine hTake 14 (some 12) (.int .i64 0) rfl rfl (by kernel_rfl) (by kernel_rfl) (by kernel_rfl) (fun _ _ _ h => h) (by rfl) (fun W' hS' => by go_simp) hH ?_
        simp only [Act.put, sA, sB, sC]
        refine wpAnyH_done (by kernel_rfl) (NoPanic.normal ?_) _
        clear hH
        have V : Hid (Below wr.heap.size wr w13 ∧ Blk w13 g12 56 (peelC (.slice qo2 M qc2) kb 18446744073709551615) ∧ Seen w13 qo2 M T ∧ M ≤ qc2 ∧ wr.heap.size ≤ g12) := by
         have BX : Below wr.heap.size wr w13 := below_kept (below_chain (below_chain BD l8 (by omega)) l12 (by omega)) k13 (by omega) (fun i hi => by omega)
         have oK2 := isO_keptB oK1 k13 hgA
         obtain ⟨xa, xb, hxe, sx, hxc⟩ := ySl_own HB.out.2.2.2.2.2.2.2.2.2.1 HB.out.2.2.2.2.2.2.2.2.2.2.1 (by have := HB.out.2.2.2.2.2.2.2.2.2.2.2.2.2; omega) oK2
         simp only [Value.slice.injEq, true_and] at hxe
         obtain ⟨rfl, rfl⟩ := hxe
         exact ⟨BX, b13, sx, hxc, by omega⟩
        go_wp2_with fail
        have qg := V.out.2.1.lt
        have qB := V.out.1.size
        have hrgG : w13.rangeAt G (0 + j * 32) (u8s kb) := rangeAt_below HB.out.2.2.2.2.2.2.1 V.out.1 hGl
        refine wp_region_noPanic (wp_region_held_drew (S := fun W => Blk W g12 56 (peelC (.slice qo2 M qc2) kb 18446744073709551615) ∧ W.rangeAt G (0 + j * 32) (u8s kb)) (by kernel_rfl) ⟨V.out.2.1.drew, hrgG⟩ (fun hH => ?_))
        refine hTake 0 (some 155) (.int .i64 0) rfl rfl (by kernel_rfl) (by kernel_rfl) (by kernel_rfl) (fun _ _ _ h => h) (by rfl) (fun W' hS' => by go_simp) hH ?_
        simp only [Act.put, sA, sB, sC]
        refine hTake 1 (some 156) (.bool false) rfl rfl (by kernel_rfl) (by kernel_rfl) (by kernel_rfl) (fun _ _ _ h => h) (by rfl) (fun W' hS' => by go_simp) hH ?_
        simp only [Act.put, sA, sB, sC]
        refine hTake 2 (some 157) (.bool false) rfl rfl (by kernel_rfl) (by kernel_rfl) (by kernel_rfl) (fun _ _ _ h => h) (by rfl) (fun W' hS' => by go_simp) hH ?_
        simp only [Act.put, sA, sB, sC]
        refine hTake 3 (some 158) (.pointer (some ⟨g12, 33, none⟩)) rfl rfl (by kernel_rfl) (by kernel_rfl) (by kernel_rfl) (fun _ _ _ h => h) (by rfl) (fun W' hS' => by go_simp) hH ?_
        simp only [Act.put, sA, sB, sC]
        refine hTake 4 (some 159) (.int .u64 18446744073709551615) rfl rfl (by kernel_rfl) (by kernel_rfl) (by kernel_rfl) (fun _ _ _ h => h) (by rfl) (fun W' hS' => by have cx := (hS'.1.cell 33).trans (peelC_33 _ _ _ HK.out); go_simp) hH ?_
        simp only [Act.put, sA, sB, sC]
        refine hTake 5 (some 160) (.bool false) rfl rfl (by kernel_rfl) (by kernel_rfl) (by kernel_rfl) (fun _ _ _ h => h) (by rfl) (fun W' hS' => by go_simp) hH ?_
        simp only [Act.put, sA, sB, sC]
        refine hTake 6 (some 161) (.bool false) rfl rfl (by kernel_rfl) (by kernel_rfl) (by kernel_rfl) (fun _ _ _ h => h) (by rfl) (fun W' hS' => by go_simp) hH ?_
        simp only [Act.put, sA, sB, sC]
        refine hTake 7 (some 162) (.bool false) rfl rfl (by kernel_rfl) (by kernel_rfl) (by kernel_rfl) (fun _ _ _ h => h) (by rfl) (fun W' hS' => by go_simp) hH ?_
        simp only [Act.put, sA, sB, sC]
        refine hTake 8 (some 163) (.pointer (some ⟨g12, 1, none⟩)) rfl rfl (by kernel_rfl) (by kernel_rfl) (by kernel_rfl) (fun _ _ _ h => h) (by rfl) (fun W' hS' => by go_simp) hH ?_
        simp only [Act.put, sA, sB, sC]
        refine hLoad 9 (some 164) (u8s kb) rfl rfl (by kernel_rfl) (by kernel_rfl) (by kernel_rfl) (fun _ _ _ h => h) (by rfl) 23 (.tmp 163) rfl g12 1 rfl _ (fun _ h => peel_range h.1) Tryz.underlying23 rfl (sizeU kb HK.out) hH ?_
        simp only [Act.put, sA, sB, sC]
        refine hTake 10 (some 165) (.slice (some ⟨G, 0, none⟩) k k) rfl rfl (by kernel_rfl) (by kernel_rfl) (by kernel_rfl) (fun _ _ _ h => h) (by rfl) (fun W' hS' => by go_simp) hH ?_
        simp only [Act.put, sA, sB, sC]
        refine hTake 11 (some 166) (.int .i64 (j : Int)) rfl rfl (by kernel_rfl) (by kernel_rfl) (by kernel_rfl) (fun _ _ _ h => h) (by rfl) (fun W' hS' => by go_simp) hH ?_
        simp only [Act.put, sA, sB, sC]
        refine hTake 12 (some 167) (.pointer (some ⟨G, 0 + j * 32, none⟩)) rfl rfl (by kernel_rfl) (by kernel_rfl) (by kernel_rfl) (fun _ _ _ h => h) (by rfl) (fun W' hS' => by go_simp) hH ?_
        simp only [Act.put, sA, sB, sC]
        refine hLoad 13 (some 168) (u8s kb) rfl rfl (by kernel_rfl) (by kernel_rfl) (by kernel_rfl) (fun _ _ _ h => h) (by rfl) 23 (.tmp 167) rfl G (0 + j * 32) rfl _ (fun _ h => h.2) Tryz.underlying23 rfl (sizeU kb HK.out) hH ?_
        simp only [Act.put, sA, sB, sC]
        refine hTake 14 (some 169) (.bool false) rfl rfl (by kernel_rfl) (by kernel_rfl) (by kernel_rfl) (fun _ _ _ h => h) (by rfl) (fun W' hS' => by go_simp) hH ?_
        simp only [Act.put, sA, sB, sC]
        refine hTake 15 (some 170) (.bool false) rfl rfl (by kernel_rfl) (by kernel_rfl) (by kernel_rfl) (fun _ _ _ h => h) (by rfl) (fun W' hS' => by go_simp) hH ?_
        simp only [Act.put, sA, sB, sC]
        refine wpAnyH_done (by kernel_rfl) (NoPanic.normal ?_) _
        clear hH
        have c0 : w13.drew.cell? ⟨g12, 0, none⟩ = some (.slice qo2 M qc2) := V.out.2.1.drew.cell 0
        have R : Hid (ySl (im + 48 * (k - (j + 1))) (wrapL rd (((oss.map bsK).zip pss).drop (j + 1)) izs) (.slice qo2 M qc2) w13.drew ∧ Below w6.heap.size w6 w13.drew) := by
         rw [HB.out.2.2.2.2.2.2.2.2.2.2.2.2.1, HB.out.2.2.2.2.2.2.2.2.2.2.2.1]
         exact ⟨⟨qo2, qc2, rfl, V.out.2.2.1.later (below_dn (Below.refl _ _) 1) (Nat.le_refl _), V.out.2.2.2.1⟩, below_dn (below_chain HB.out.2.1 V.out.1 HB.out.2.1.size) 1⟩
        clear V HB hrgG qg qB
        go_wp2
        go_roundw
        case rel => exact ⟨j + 1, by omega, by go_num, R.out.1, R.out.2⟩
        case measure => simp [intOf] <;> omega
       ·rw [if_pos (by rfl)]
        refine Does.wp (base := wr.heap.size) (E := .blk 56 (peelC (.slice none 0 0) (List.replicate 32 0) 0)) ?_ (fun v12 x12 p12 l12 => ?_)
        ·exact Does.alloc 56 rfl 34 _ zeroPeeled (by omega)
        change K (Act.put _ (some 11) v12) x12
        refine hK.out _ _ ⟨rangeAt_below hH.1 l12 (by omega), hH.2.later l12 (by omega)⟩ (fun hH => ?_)
        clear hK K
        simp only [Act.put, sA, sB, sC]
        obtain ⟨g12, rfl, hg12, bg0⟩ := p12
        have s12 := l12.size
        have hg12n : g12 < x12.heap.size := bg0.lt
        refine wpAnyH_ready (rs := [8]) (by kernel_rfl) (by simp) (AllReadyH.cons rfl (fun K hK => ?_) AllReadyH.nil)
        rw [if_pos (by rfl)]
        refine Does.wp (base := wr.heap.size) (E := .any (yPt x12.heap.size M T kb 18446744073709551615) (yPt_later _ _ _ _ _)) ?_ (fun v8 x8 p8 l8 => ?_)
        ·refine Does.call 31 #[.agg (u8s O).toArray, .int .u64 rd, .slice vo' (M + 48) vc'] (by go_simp) ?_
         refine (CP x12 (HB.out.2.2.1.later (below_chain BD l12 (by omega)) (Nat.le_refl _)) (HB.out.2.2.2.1.below (below_chain BD l12 (by omega)) HB.out.2.2.2.1.lt)).mono ?_
         rintro z w' ⟨qo2, qc2, rfl, ho, l⟩
         exact ⟨_, rfl, ⟨qo2, qc2, rfl, isO_base ho (by omega)⟩, l⟩
        change K (Act.put _ (some 152) v8) x8
        refine hK.out _ _ ⟨rangeAt_below hH.1 l8 (by omega), hH.2.later l8 (by omega)⟩ (fun hH => ?_)
        clear hK K
        simp only [Act.put, sA, sB, sC]
        obtain ⟨qo2, qc2, rfl, oK⟩ := p8
        have s8 := l8.size
        have bg := bg0.later l8 bg0.lt
        refine hTake 9 (some 143) (.tuple #[.agg (peelC (.slice qo2 M qc2) kb 18446744073709551615).toArray, .int .i64 0]) rfl rfl (by kernel_rfl) (by kernel_rfl) (by kernel_rfl) (fun _ _ _ h => h) (by rfl) (fun W' hS' => by go_simp) hH ?_
        simp only [Act.put, sA, sB, sC]
        refine hTake 10 (some 153) (.agg (peelC (.slice qo2 M qc2) kb 18446744073709551615).toArray) rfl rfl (by kernel_rfl) (by kernel_rfl) (by kernel_rfl) (fun _ _ _ h => h) (by rfl) (fun W' hS' => by go_simp) hH ?_
        simp only [Act.put, sA, sB, sC]
        refine hTake 11 (some 154) (.int .i64 0) rfl rfl (by kernel_rfl) (by kernel_rfl) (by kernel_rfl) (fun _ _ _ h => h) (by rfl) (fun W' hS' => by go_simp) hH ?_
        simp only [Act.put, sA, sB, sC]
        refine wpAnyH_ready (rs := [13]) (by kernel_rfl) (by simp) (AllReadyH.cons rfl (fun K hK => ?_) AllReadyH.nil)
        rw [if_pos (by rfl)]
        refine last_store 56 (.tmp 11) (.tmp 153) rfl rfl g12 rfl 56 _ (peelC (.slice qo2 M qc2) kb 18446744073709551615) rfl bg (by rw [peelC_length _ _ _ HK.out]; rfl) (by rw [peelC_length _ _ _ HK.out]; exact sizePeeled) (peelC_one _ _ _ _ _) ?_
        intro w13 b13 s13 k13
        refine hK.out _ _ ⟨rangeAt_keptG hH.1 k13 (by omega), hH.2.kept k13 (by omega)⟩ (fun hH => ?_)
        clear hK K
        refine hTake 14 (some 12) (.int .i64 0) rfl rfl (by kernel_rfl) (by kernel_rfl) (by kernel_rfl) (fun _ _ _ h => h) (by rfl) (fun W' hS' => by go_simp) hH ?_
        simp only [Act.put, sA, sB, sC]
        refine wpAnyH_done (by kernel_rfl) (NoPanic.normal ?_) _
        clear hH
        have V : Hid (Below wr.heap.size wr w13 ∧ Blk w13 g12 56 (peelC (.slice qo2 M qc2) kb 18446744073709551615) ∧ Seen w13 qo2 M T ∧ M ≤ qc2 ∧ wr.heap.size ≤ g12) := by
         have BX : Below wr.heap.size wr w13 := below_kept (below_chain (below_chain BD l12 (by omega)) l8 (by omega)) k13 (by omega) (fun i hi => by omega)
         have oK2 := isO_kept oK k13 (fun q hq => by omega)
         obtain ⟨xa, xb, hxe, sx, hxc⟩ := ySl_own HB.out.2.2.2.2.2.2.2.2.2.1 HB.out.2.2.2.2.2.2.2.2.2.2.1 (by have := HB.out.2.2.2.2.2.2.2.2.2.2.2.2.2; omega) oK2
         simp only [Value.slice.injEq, true_and] at hxe
         obtain ⟨rfl, rfl⟩ := hxe
         exact ⟨BX, b13, sx, hxc, by omega⟩
        go_wp2_with fail
        have qg := V.out.2.1.lt
        have qB := V.out.1.size
        have hrgG : w13.rangeAt G (0 + j * 32) (u8s kb) := rangeAt_below HB.out.2.2.2.2.2.2.1 V.out.1 hGl
        refine wp_region_noPanic (wp_region_held_drew (S := fun W => Blk W g12 56 (peelC (.slice qo2 M qc2) kb 18446744073709551615) ∧ W.rangeAt G (0 + j * 32) (u8s kb)) (by kernel_rfl) ⟨V.out.2.1.drew, hrgG⟩ (fun hH => ?_))
        refine hTake 0 (some 155) (.int .i64 0) rfl rfl (by kernel_rfl) (by kernel_rfl) (by kernel_rfl) (fun _ _ _ h => h) (by rfl) (fun W' hS' => by go_simp) hH ?_
        simp only [Act.put, sA, sB, sC]
        refine hTake 1 (some 156) (.bool false) rfl rfl (by kernel_rfl) (by kernel_rfl) (by kernel_rfl) (fun _ _ _ h => h) (by rfl) (fun W' hS' => by go_simp) hH ?_
        simp only [Act.put, sA, sB, sC]
        refine hTake 2 (some 157) (.bool false) rfl rfl (by kernel_rfl) (by kernel_rfl) (by kernel_rfl) (fun _ _ _ h => h) (by rfl) (fun W' hS' => by go_simp) hH ?_
        simp only [Act.put, sA, sB, sC]
        refine hTake 3 (some 158) (.pointer (some ⟨g12, 33, none⟩)) rfl rfl (by kernel_rfl) (by kernel_rfl) (by kernel_rfl) (fun _ _ _ h => h) (by rfl) (fun W' hS' => by go_simp) hH ?_
        simp only [Act.put, sA, sB, sC]
        refine hTake 4 (some 159) (.int .u64 18446744073709551615) rfl rfl (by kernel_rfl) (by kernel_rfl) (by kernel_rfl) (fun _ _ _ h => h) (by rfl) (fun W' hS' => by have cx := (hS'.1.cell 33).trans (peelC_33 _ _ _ HK.out); go_simp) hH ?_
        simp only [Act.put, sA, sB, sC]
        refine hTake 5 (some 160) (.bool false) rfl rfl (by kernel_rfl) (by kernel_rfl) (by kernel_rfl) (fun _ _ _ h => h) (by rfl) (fun W' hS' => by go_simp) hH ?_
        simp only [Act.put, sA, sB, sC]
        refine hTake 6 (some 161) (.bool false) rfl rfl (by kernel_rfl) (by kernel_rfl) (by kernel_rfl) (fun _ _ _ h => h) (by rfl) (fun W' hS' => by go_simp) hH ?_
        simp only [Act.put, sA, sB, sC]
        refine hTake 7 (some 162) (.bool false) rfl rfl (by kernel_rfl) (by kernel_rfl) (by kernel_rfl) (fun _ _ _ h => h) (by rfl) (fun W' hS' => by go_simp) hH ?_
        simp only [Act.put, sA, sB, sC]
        refine hTake 8 (some 163) (.pointer (some ⟨g12, 1, none⟩)) rfl rfl (by kernel_rfl) (by kernel_rfl) (by kernel_rfl) (fun _ _ _ h => h) (by rfl) (fun W' hS' => by go_simp) hH ?_
        simp only [Act.put, sA, sB, sC]
        refine hLoad 9 (some 164) (u8s kb) rfl rfl (by kernel_rfl) (by kernel_rfl) (by kernel_rfl) (fun _ _ _ h => h) (by rfl) 23 (.tmp 163) rfl g12 1 rfl _ (fun _ h => peel_range h.1) Tryz.underlying23 rfl (sizeU kb HK.out) hH ?_
        simp only [Act.put, sA, sB, sC]
        refine hTake 10 (some 165) (.slice (some ⟨G, 0, none⟩) k k) rfl rfl (by kernel_rfl) (by kernel_rfl) (by kernel_rfl) (fun _ _ _ h => h) (by rfl) (fun W' hS' => by go_simp) hH ?_
        simp only [Act.put, sA, sB, sC]
        refine hTake 11 (some 166) (.int .i64 (j : Int)) rfl rfl (by kernel_rfl) (by kernel_rfl) (by kernel_rfl) (fun _ _ _ h => h) (by rfl) (fun W' hS' => by go_simp) hH ?_
        simp only [Act.put, sA, sB, sC]
        refine hTake 12 (some 167) (.pointer (some ⟨G, 0 + j * 32, none⟩)) rfl rfl (by kernel_rfl) (by kernel_rfl) (by kernel_rfl) (fun _ _ _ h => h) (by rfl) (fun W' hS' => by go_simp) hH ?_
        simp only [Act.put, sA, sB, sC]
        refine hLoad 13 (some 168) (u8s kb) rfl rfl (by kernel_rfl) (by kernel_rfl) (by kernel_rfl) (fun _ _ _ h => h) (by rfl) 23 (.tmp 167) rfl G (0 + j * 32) rfl _ (fun _ h => h.2) Tryz.underlying23 rfl (sizeU kb HK.out) hH ?_
        simp only [Act.put, sA, sB, sC]
        refine hTake 14 (some 169) (.bool false) rfl rfl (by kernel_rfl) (by kernel_rfl) (by kernel_rfl) (fun _ _ _ h => h) (by rfl) (fun W' hS' => by go_simp) hH ?_
        simp only [Act.put, sA, sB, sC]
        refine hTake 15 (some 170) (.bool false) rfl rfl (by kernel_rfl) (by kernel_rfl) (by kernel_rfl) (fun _ _ _ h => h) (by rfl) (fun W' hS' => by go_simp) hH ?_
        simp only [Act.put, sA, sB, sC]
        refine wpAnyH_done (by kernel_rfl) (NoPanic.normal ?_) _
        clear hH
        have c0 : w13.drew.cell? ⟨g12, 0, none⟩ = some (.slice qo2 M qc2) := V.out.2.1.drew.cell 0
        have R : Hid (ySl (im + 48 * (k - (j + 1))) (wrapL rd (((oss.map bsK).zip pss).drop (j + 1)) izs) (.slice qo2 M qc2) w13.drew ∧ Below w6.heap.size w6 w13.drew) := by
         rw [HB.out.2.2.2.2.2.2.2.2.2.2.2.2.1, HB.out.2.2.2.2.2.2.2.2.2.2.2.1]
         exact ⟨⟨qo2, qc2, rfl, V.out.2.2.1.later (below_dn (Below.refl _ _) 1) (Nat.le_refl _), V.out.2.2.2.1⟩, below_dn (below_chain HB.out.2.1 V.out.1 HB.out.2.1.size) 1⟩
        clear V HB hrgG qg qB
        go_wp2
        go_roundw
        case rel => exact ⟨j + 1, by omega, by go_num, R.out.1, R.out.2⟩
        case measure => simp [intOf] <;> omega
      ·obtain rfl : j = k := by omega
       rw [Nat.sub_self, Nat.mul_zero, Nat.add_zero] at hvs hvc
       rw [Nat.sub_self, Nat.mul_zero, Nat.add_zero]
       rw [List.drop_of_length_le (by rw [List.length_zip, List.length_map, HX.out.1.len, HX.out.2.1.len, Nat.min_self]; exact Nat.le_refl _), wrapL] at hvs
       have i2 : ¬ ((j : Int) < (j : Int)) := by omega
       have c2 : wr.cell? ⟨w.heap.size, 2, none⟩ = some (.int .u64 rd) := bW.cell 2
       have c3 : wr.cell? ⟨w.heap.size, 3, none⟩ = some (.slice io im ic) := bW.cell 3
       have c4 : wr.cell? ⟨w.heap.size, 4, none⟩ = some (.slice to tm tc) := bW.cell 4
       have HE : Hid (Seen wr vo' im izs ∧ Seen wr io im izs ∧ Seen wr to tm tzs ∧ KeysS wr (some ⟨G, 0, none⟩) j (repsK rd ((oss.map bsK).zip pss)) ∧ KTab wr ∧ Below w.heap.size w wr) := ⟨hvs, HX.out.2.2.1.later BW (Nat.le_refl _), HX.out.2.2.2.2.1.later BW (Nat.le_refl _), V6.out.2.2.2.2.1.later hbel, V6.out.2.2.2.2.2.1.below hbel V6.out.2.2.2.2.2.1.lt, BW⟩
       clear hvs BW bW hbel
       go_wp2_with (first | (go_at_call 18; refine (eqb_yes vo' io im vc' ic izs _ HE.out.1 HE.out.2.1).mono ?_; rintro e w7 ⟨rfl, q7, rfl⟩; have c2 : (wr.drewN q7).cell? ⟨w.heap.size, 2, none⟩ = some (.int .u64 rd) := c2; have c4 : (wr.drewN q7).cell? ⟨w.heap.size, 4, none⟩ = some (.slice to tm tc) := c4; have B7 : Hid (Below wr.heap.size wr (wr.drewN q7)) := below_dn (Below.refl _ _) q7) | (go_at_call 41; refine (returns_any _ rd _ j j to tm tc tzs ⟨hk1, hk8⟩ HR.out _ (HE.out.2.2.2.1.later B7.out) (HE.out.2.2.1.later B7.out (Nat.le_refl _)) HX.out.2.2.2.2.2.1).mono ?_; rintro e w8 ⟨rfl, l8⟩; have B8 : Hid (Below wr.heap.size wr w8) := below_chain B7.out l8 B7.out.size) | (go_at_call 13; refine (yworks_any _ (HE.out.2.2.2.2.1.below B8.out HE.out.2.2.2.2.1.lt)).mono ?_; rintro e w9 ⟨rfl, l9⟩))
       go_ret
       exact ⟨rfl, below_chain (below_chain HE.out.2.2.2.2.2 B8.out HE.out.2.2.2.2.2.size) l9 (by have := HE.out.2.2.2.2.2.size; have := B8.out.size; omega)⟩
   ·by_cases hk1 : k < on
    ·have j0 : (k : Int) < (on : Int) := by omega
     have j9 : ¬ (k : Int) < 20 := by omega
     have j1 : ((k : Int) == 0) = false := by rw [beq_eq_false_iff_ne]; omega
     have j2 : (8 : Int) < (k : Int) := by omega
     go_wp2_with (first | (go_at_call 17; refine (wrap_servers vo po k vc pn pc rd io im ic (by omega) n2 hA _).mono ?_; rintro e _ ⟨rfl, rfl⟩) | (go_at_call 13; refine (yworks_any _ HV.out.2).mono ?_; rintro e w5 ⟨rfl, l5⟩))
     go_ret
     exact ⟨rfl, below_chain HB.out.2.2.1 l5 HB.out.2.2.1.size⟩
    ·have j0 : ¬ (k : Int) < (on : Int) := by omega
     rcases (by omega : k = 0 ∨ 8 < k ∨ (1 ≤ k ∧ k ≤ 8 ∧ pn ≠ k)) with hk0 | hk8 | hk9
     ·have j1 : ((k : Int) == 0) = true := by rw [beq_iff_eq]; omega
      clear hk0
      go_wp2_with (first | (go_at_call 17; refine (wrap_servers vo po k vc pn pc rd io im ic (by omega) n2 hA _).mono ?_; rintro e _ ⟨rfl, rfl⟩) | (go_at_call 13; refine (yworks_any _ HV.out.2).mono ?_; rintro e w5 ⟨rfl, l5⟩))
      go_ret
      exact ⟨rfl, below_chain HB.out.2.2.1 l5 HB.out.2.2.1.size⟩
     ·have j1 : ((k : Int) == 0) = false := by rw [beq_eq_false_iff_ne]; omega
      have j2 : (8 : Int) < (k : Int) := by omega
      go_wp2_with (first | (go_at_call 17; refine (wrap_servers vo po k vc pn pc rd io im ic (by omega) n2 hA _).mono ?_; rintro e _ ⟨rfl, rfl⟩) | (go_at_call 13; refine (yworks_any _ HV.out.2).mono ?_; rintro e w5 ⟨rfl, l5⟩))
      go_ret
      exact ⟨rfl, below_chain HB.out.2.2.1 l5 HB.out.2.2.1.size⟩
     ·have j1 : ((k : Int) == 0) = false := by rw [beq_eq_false_iff_ne]; omega
      have j2 : ¬ (8 : Int) < (k : Int) := by omega
      have j3 : ((k : Int) != (pn : Int)) = true := by rw [bne_iff_ne]; omega
      go_wp2_with (first | (go_at_call 17; refine (wrap_servers vo po k vc pn pc rd io im ic (by omega) n2 hA _).mono ?_; rintro e _ ⟨rfl, rfl⟩) | (go_at_call 13; refine (yworks_any _ HV.out.2).mono ?_; rintro e w5 ⟨rfl, l5⟩))
      go_ret
      exact ⟨rfl, below_chain HB.out.2.2.1 l5 HB.out.2.2.1.size⟩
end Go.Proofs.YthlbjkfjkggdoaaGreatDoor
namespace Go.Proofs.YthlbjkfjkggdoaaGreatDoor.onionBack
open Go.ChangeShapes Go.WideShapes Go.ChangeAt Go.WideMaps Go.WideElems Go.RowKit Go.Deep
set_option linter.unusedVariables false
set_option linter.unusedSimpArgs false
theorem own : ownKnob Tryz.prog.godebug = none := by kernel_rfl
theorem laidOut : laidOutB Tryz.prog = true := by kernel_rfl
theorem cells5 : Tryz.prog.cellsOf 68 = 5 := by kernel_rfl
theorem array5 {α : Type} {cs : Array α} (h : cs.size = 5) : ∃ c0 c1 c2 c3 c4, cs = #[c0, c1, c2, c3, c4] := by
 obtain ⟨l⟩ := cs
 match l, h with
 | [c0, c1, c2, c3, c4], _ => exact ⟨c0, c1, c2, c3, c4, rfl⟩
theorem parts {H : Type} {enc : TypeId × Value → H} {W : World} {base : Nat} {sp : Nat → Bool} {held : Bool} {fuel : Nat} {v0 v1 v2 v3 v4 : Value} {x : DataW H × List MemPlace}
  (h : DataW.trod enc Tryz.prog W base sp held fuel 68 [v0, v1, v2, v3, v4] = some x) : ∃ (y0 y1 y2 y3 y4 : DataW H × List MemPlace) (n : Nat), x.1 = .agg [y0.1, y1.1, y2.1, y3.1, y4.1] ∧
   DataW.trod enc Tryz.prog W base sp held n 31 [v0] = some y0 ∧ DataW.trod enc Tryz.prog W base sp held n 31 [v1] = some y1 ∧ DataW.trod enc Tryz.prog W base sp held n 24 [v2] = some y2 ∧ DataW.trod enc Tryz.prog W base sp held n 32 [v3] = some y3 ∧ DataW.trod enc Tryz.prog W base sp held n 32 [v4] = some y4 := by
 obtain ⟨xs, n, _, rfl, _, hlen, hf⟩ := DataW.trod_struct Tryz.underlying68 h
 match xs, hlen with
 | [y0, y1, y2, y3, y4], _ =>
  refine ⟨y0, y1, y2, y3, y4, n, by simp, ?_, ?_, ?_, ?_, ?_⟩
  ·simpa [cellsOfKs, cellsOfU, cellsOfL] using hf 0 _ rfl
  ·simpa [cellsOfKs, cellsOfU, cellsOfL] using hf 1 _ rfl
  ·simpa [cellsOfKs, cellsOfU, cellsOfL] using hf 2 _ rfl
  ·simpa [cellsOfKs, cellsOfU, cellsOfL] using hf 3 _ rfl
  ·simpa [cellsOfKs, cellsOfU, cellsOfL] using hf 4 _ rfl
theorem lifted (os : Os) (started : os.Started) (H : Type) (enc : TypeId × Value → H) :
  ReturnsInHanded {} Tryz.checked os 7 .any (fun w args => (Rows.onionBackSpec.pre enc Tryz.prog Tryz.f7 [] false w args ∧ laidMetH Tryz.prog laidK w) ∧ sizedMet enc Tryz.prog Tryz.f7 (OpenSpec.ofChange Rows.onionBackSpec) false w args)
   (Rows.onionBackSpec.post enc Tryz.prog Tryz.f7 false true false false) := by
 refine returnsInHanded_of_change_and (C := Tryz.checked) (X := fun w _ => laidMetH Tryz.prog laidK w) (fun _ _ _ hh h => h.of_heap hh) own started (by kernel_rfl) Tryz.func7
  (ChangeSpec.witness_shaped (enc := enc) (C := Tryz.checked) (os := os) (X := fun w _ => laidMetH Tryz.prog laidK w) false (World.doorLaid Tryz.prog 14 os) #[.agg #[.slice none 0 0, .slice none 0 0, .int .u64 0, .slice none 0 0, .slice none 0 0]] 8 rfl (World.shaped_of_RefB (by kernel_rfl) (by kernel_rfl)) (by kernel_rfl) (by kernel_rfl) (by kernel_rfl) (door_met os _)) ?_
 intro W base args ds gs before hval0 hW _ hsz0 hL _
 have hval : ∀ (j : Nat) t v, Tryz.f7.params[j]? = some t → args[j]? = some v → Value.okWide Tryz.prog W .any base t v := hval0
 have hsz : (DataW.weightsEach Tryz.prog (Tryz.f7.params.toList ++ Rows.onionBackSpec.plain.varTypes Tryz.prog) (ds ++ gs)).all (· ≤ reachBytes) = true := hsz0
 have hW' := hW
 obtain ⟨p, q, hA0, hV, rfl, hfz, hnd⟩ := hW
 have hA : DataW.TrodAll enc Tryz.prog W 0 (fun _ => true) true Tryz.f7.params.toList args.toList ds p := hA0
 rw [Tryz.params7] at hA hval hsz
 obtain ⟨v0, vs0, d0, ds0, p0, q0, hargs, rfl, rfl, h0, r0⟩ := trodAll_cons hA
 obtain ⟨rfl, rfl, rfl⟩ := trodAll_nil r0
 obtain rfl : args = #[v0] := by cases args; simp_all
 obtain ⟨rfl, rfl⟩ := trodVars_none hV
 have k0 := h0
 have lt0 : ∀ x ∈ p0, x.block < W.heap.size := by obtain ⟨m, hm⟩ := k0; exact DataW.trod_lt m _ _ _ hm
 obtain ⟨cs, rfl, hcs⟩ := okWide_struct Tryz.underlying68 (hval 0 68 v0 rfl rfl)
 obtain ⟨u0, u1, u2, u3, u4, rfl⟩ := array5 (hcs.trans cells5)
 obtain ⟨fuel, hf⟩ := h0
 obtain ⟨y0, y1, y2, y3, y4, m, hd, t0, t1, t2, t3, t4⟩ := parts hf
 simp only at hd
 have hz : ∀ n ∈ (DataW.agg [y0.1, y1.1, y2.1, y3.1, y4.1]).weights Tryz.prog 68, n ≤ reachBytes := by rw [← hd]; exact weights_first hsz
 simp only [DataW.weights, Tryz.underlying68] at hz
 obtain ⟨a2, e2, _, w2⟩ := DataW.trod_int Tryz.underlying24 t2
 simp at e2
 subst e2
 obtain ⟨oo, on, oc, oss, rfl, s0, n0, _, _⟩ := keys_in t0 (fun n hn => hz n (DataW.weights_mem_each (j := 0) (t := 31) rfl rfl n hn))
 obtain ⟨po, pn, pc, pss, rfl, s1, n1, _, _⟩ := keys_in t1 (fun n hn => hz n (DataW.weights_mem_each (j := 1) (t := 31) rfl rfl n hn))
 obtain ⟨io, im, ic, izs, rfl, s3, _, _, c3⟩ := bytes_in t3 (fun n hn => hz n (DataW.weights_mem_each (j := 3) (t := 32) rfl rfl n hn))
 obtain ⟨to, tm, tc, tzs, rfl, s4, _, _, c4⟩ := bytes_in t4 (fun n hn => hz n (DataW.weights_mem_each (j := 4) (t := 32) rfl rfl n hn))
 clear hA0 hval0 hf t0 t1 t2 t3 t4 hz hd
 refine (back_any oss pss a2 oo po io to on oc pn pc im ic tm tc izs tzs (u64_of_wf w2) W s0 n0 s1 n1 s3 c3 s4 c4 (ktab_of_laid hL)).mono fun e W' ⟨he, bel⟩ => ?_
 subst he
 exact ⟨_, rfl, _, _, _, [], _, [], hW', trodAll_mk1 (shut_bool Tryz.underlying4 _), (trodAll_cons_mk (Below.trod laidOut (by kernel_rfl) (of_decide_eq_true (by kernel_rfl)) k0 bel lt0) trodAll_mk0), rfl, bel.frame _, fun h => by cases h⟩
theorem over : Rows.OnionBackSaid :=
 OpenClaim.holds_of_wide_leaving 7 Tryz.f7 rfl rfl rfl rfl rfl rfl rfl ⟨rfl, rfl, rfl, rfl, rfl⟩ rfl rfl rfl rfl rfl (by kernel_rfl) Tryz.func7 (by kernel_rfl)
  (of_decide_eq_true (by kernel_rfl)) (by unfold Func.isWrapper; first | (rw [if_pos (by decide +kernel)]; kernel_rfl) | (rw [if_neg (by decide +kernel)]; exact ⟨rfl, rfl⟩))
  (fun os started H enc _ => leaving_of (lifted os started H enc))
theorem plain (f : FuncId) (fn : Func) (hf : Tryz.pinned.checked.prog.funcNamed "tryst/trystlaw10.OnionBack" = some f) (hfn : Tryz.pinned.checked.prog.funcs[f]? = some fn) :
  Rows.onionBackCard.stood.looks = Tryz.pinned.checked.prog.looks [] ∧ ∀ (j : Nat) t, fn.params[j]? = some t → Tryz.pinned.checked.prog.wantsStandIn t = false := by
 obtain rfl : f = 7 := Option.some.inj ((show Tryz.prog.funcNamed "tryst/trystlaw10.OnionBack" = some 7 by kernel_rfl).symm.trans hf) |>.symm
 obtain rfl : fn = Tryz.f7 := (Option.some.inj (Tryz.func7.symm.trans hfn)).symm
 refine ⟨by kernel_rfl, fun j t ht => ?_⟩
 rw [Tryz.params7] at ht
 have hm : t ∈ [68] := by simpa using Array.mem_of_getElem? ht
 have hall : ([68].all fun u => !Tryz.prog.wantsStandIn u) = true := by kernel_rfl
 exact (show Tryz.prog.wantsStandIn t = false by simpa using List.all_eq_true.1 hall t hm)
theorem proved : Rows.OnionBackCardSaid :=
 tied_goes [.data] true Rows.onionBackCard.stood.harness Rows.onionBackCard.stood.looks
  over (by kernel_rfl) onionBack_row_tie rfl ⟨rfl, rfl⟩ (by kernel_rfl) rfl plain (by kernel_rfl)
end Go.Proofs.YthlbjkfjkggdoaaGreatDoor.onionBack
namespace Go.Proofs.YthlbjkfjkggdoaaGreatDoor
theorem onionBack_holds : Rows.OnionBackCardSaid := onionBack.proved
#print axioms onionBack_holds
end Go.Proofs.YthlbjkfjkggdoaaGreatDoor
