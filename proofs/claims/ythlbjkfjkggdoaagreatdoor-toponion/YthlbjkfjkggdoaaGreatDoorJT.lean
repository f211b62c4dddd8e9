/- For every private keys of one to eight servers, private keys of the client, round and texts that are not too long: what is wrapped for the servers is peeled by one after the other, each valid, with the keys that were told, and at last is what was within; what the last one answers, sealed by each, is unwrapped as what was said: trysttop.TopOnion returns true. Conditions: none but the table of words as the program's text lays it (tied). -/
import Derived.Test.YthlbjkfjkggdoaaGreatDoorJA
import Derived.Test.YthlbjkfjkggdoaaGreatDoorJL
import Derived.Test.YthlbjkfjkggdoaaGreatDoorJN
import Derived.Test.YthlbjkfjkggdoaaGreatDoorCards
import Derived.Test.YthlbjkfjkggdoaaGreatDoorTie
import Derived.Deep.DeepHandedRow
import Derived.JoinedCond
set_option maxRecDepth 100000
set_option maxHeartbeats 8000000
namespace Go.Proofs.YthlbjkfjkggdoaaGreatDoor
open Go.RowKit
set_option linter.unusedVariables false
set_option linter.unusedSimpArgs false
theorem ySl_later (n : Nat) (zs : List Int) : ∀ v w w', Below w.heap.size w w' → ySl n zs v w → ySl n zs v w' := fun _ _ _ hb ⟨a, c, h1, h2, h3⟩ => ⟨a, c, h1, h2.later hb (Nat.le_refl _), h3⟩
def repsF (rd : Int) (l : List (List Int × List Int)) : List Int := (l.map fun x => repO rd x.1 x.2).flatten
theorem repO_length (rd : Int) (s p : List Int) : (repO rd s p).length = 32 := repL_length _ _ _ _
theorem repO_bytes (rd : Int) (s p : List Int) : Bytes (repO rd s p) := repL_bytes _ _ _ _
def isW (B n : Nat) (zs rep : List Int) (x : Int) (v : Value) (w : World) : Prop := ∃ ao c, v = .tuple #[.slice ao n c, .agg (u8s rep).toArray, .int .u64 x] ∧ isO B n zs (.slice ao n c) w
theorem isW_later (B n : Nat) (zs rep : List Int) (x : Int) : ∀ v w w', Below w.heap.size w w' → isW B n zs rep x v w → isW B n zs rep x v w' := fun _ _ _ hb ⟨ao, c, h1, h2⟩ => ⟨ao, c, h1, isO_later _ _ _ _ _ _ hb h2⟩
theorem rangeAt_keptG {S : Nat → Prop} {w w' : World} {b o : Nat} {cs : List Value} (h : w.rangeAt b o cs) (hk : Kept S w w') (hS : ¬ S b) : w'.rangeAt b o cs := fun j v hv => (hk.cell (p := ⟨b, o + j, none⟩) (World.block_lt_of_cell? w _ (h j v hv)) hS).trans (h j v hv)
theorem isO_keptB {g B n : Nat} {zs : List Int} {v : Value} {w w' : World} (h : isO B n zs v w) (hk : Kept (fun k => k = g) w w') (hS : ∀ k, v.ownBlock = some k → k ≠ g) : isO B n zs v w' := by
 refine ⟨h.1, ?_⟩
 rcases h.2 with h0 | ⟨q, cap, cur, rfl, hg, hh, r⟩
 ·exact .inl h0
 ·exact .inr ⟨q, cap, cur, rfl, hg, by rw [hk.block q (Array.getElem?_eq_some_iff.1 hh).1 (hS q rfl)]; exact hh, r⟩
theorem made_keys (m : Nat) : madeCells (u8s (zer 32)).toArray (m * 32) = (u8s (List.replicate (32 * m) 0)).toArray := by
 rw [made32, Nat.mul_comm m 32]; rfl
theorem pair_at (ss ps : List (List Int)) (n j : Nat) (hs : ss.length = n) (hp : ps.length = n) (hj : j < n) : (ss.zip ps).drop j = (ss.getD j [], ps.getD j []) :: (ss.zip ps).drop (j + 1) := by
 have h : j < (ss.zip ps).length := by rw [List.length_zip]; omega
 rw [List.drop_eq_getElem_cons h]
 simp [List.getD, hs, hp, hj]
theorem wrap_servers (so po : Option Addr) (sn sc pn pc : Nat) (rd : Int) (ao : Option Addr) (m c : Nat) (hs : sn ≤ 140737488355328) (hp : pn ≤ 140737488355328) (h : ¬ (1 ≤ sn ∧ sn ≤ 8 ∧ pn = sn)) (w : World) :
  Calls Tryz.prog 17 #[.slice so sn sc, .slice po pn pc, .int .u64 rd, .slice ao m c] w fun e w' => e = .returned (.tuple #[.slice none 0 0, .slice none 0 0, .int .i64 100]) ∧ w = w' := by
 have CM := mayServe_any sn hs
 by_cases h1 : 1 ≤ sn ∧ sn ≤ 8
 ·rw [show decide (1 ≤ sn ∧ sn ≤ 8) = true by simp; omega] at CM
  have hne : pn ≠ sn := fun e => h ⟨h1.1, h1.2, e⟩
  have i1 : ¬ ((pn : Int) = (sn : Int)) := by omega
  clear h h1 hne
  go_enter Tryz.func17, Tryz.ntmps17
  go_wp2_with (go_at_call 60; refine (CM _).mono ?_; rintro e _ ⟨rfl, rfl⟩)
  go_ret3
  exact ⟨rfl, rfl⟩
 ·rw [show decide (1 ≤ sn ∧ sn ≤ 8) = false by simp; omega] at CM
  clear h h1
  go_enter Tryz.func17, Tryz.ntmps17
  go_wp2_with (go_at_call 60; refine (CM _).mono ?_; rintro e _ ⟨rfl, rfl⟩)
  go_ret3
  exact ⟨rfl, rfl⟩
theorem wrap_any (ss ps : List (List Int)) (rd : Int) (so po : Option Addr) (n sc pc : Nat) (ao : Option Addr) (m c : Nat) (zs : List Int) (hn : 1 ≤ n ∧ n ≤ 8) (hr : 0 ≤ rd ∧ rd < 18446744073709551616) (hm : m + 48 * n ≤ 1048576) (hV : ∀ i, i < n → prodN (ps.getD i []) (ss.getD i []) ≠ 0) (w : World) (hs : KeysS w so n ss) (hp : KeysS w po n ps) (hx : Seen w ao m zs) (hc : m ≤ c) (hK : KTab w) :
  Calls Tryz.prog 17 #[.slice so n sc, .slice po n pc, .int .u64 rd, .slice ao m c] w fun e w' => ∃ qo qc G, e = .returned (.tuple #[.slice qo (m + 48 * n) qc, .slice (some ⟨G, 0, none⟩) n n, .int .i64 0]) ∧ isO w.heap.size (m + 48 * n) (wrapL rd (ss.zip ps) zs) (.slice qo (m + 48 * n) qc) w' ∧ w.heap.size ≤ G ∧ Blk w' G 23 (u8s (repsF rd (ss.zip ps))) ∧ Below w.heap.size w w' := by
 have CM := mayServe_any n (by omega)
 rw [show decide (1 ≤ n ∧ n ≤ 8) = true by simp; omega] at CM
 obtain ⟨i0, hi0, hz0, hz1, hz2⟩ := info_parts info_Key
 have hmk : ∀ w1 : World, _ := fun w1 => run_make (P := Tryz.prog) w1 31 23 i0 _ Tryz.underlying31 hi0 hz0 .i64 .i64 (n : Int) (n : Int) (by omega) (Int.le_refl _) (by rw [hz2]; omega) (by omega)
 simp only [hz1, Int.toNat_natCast, Value.cells, made_keys] at hmk
 have HX : Hid (KeysS w so n ss ∧ KeysS w po n ps ∧ Seen w ao m zs ∧ m ≤ c ∧ KTab w ∧ m + 48 * n ≤ 1048576 ∧ (∀ i, i < n → prodN (ps.getD i []) (ss.getD i []) ≠ 0)) := ⟨hs, hp, hx, hc, hK, hm, hV⟩
 have HR : Hid (0 ≤ rd ∧ rd < 18446744073709551616) := hr
 obtain ⟨h1, h8⟩ := hn
 have v1 : IntKind.i64.wrap ((n : Int) * 48) = (n : Int) * 48 := by simp only [IntKind.wrap, IntKind.bits, IntKind.signed]; simp; omega
 have v2 : IntKind.i64.wrap (1048576 - (n : Int) * 48) = 1048576 - (n : Int) * 48 := by simp only [IntKind.wrap, IntKind.bits, IntKind.signed]; simp; omega
 have i1 : ¬ (1048576 - (n : Int) * 48 < (m : Int)) := by omega
 have HG : Hid (∀ l : List (List Int × List Int), True) := fun _ => trivial
 clear hs hp hx hc hK hm hV hr hi0 hz0 hz1 hz2 HG
 go_enter Tryz.func17, Tryz.ntmps17
 go_wp2_with (go_at_call 60; refine (CM _).mono ?_; rintro e _ ⟨rfl, rfl⟩)
 clear v1 v2 i1 CM
 refine wp_region_noPanic (wp_region_any (by kernel_rfl) ?_)
 refine take_op 0 (some 35) (.slice ao m c) rfl rfl (by kernel_rfl) (by kernel_rfl) (by kernel_rfl) (fun _ _ _ h => h) (by rfl) (fun W' => by rfl) ?_
 simp only [Act.put, sA, sB, sC]
 refine take_op 1 (some 36) (.slice so n sc) rfl rfl (by kernel_rfl) (by kernel_rfl) (by kernel_rfl) (fun _ _ _ h => h) (by rfl) (fun W' => by rfl) ?_
 simp only [Act.put, sA, sB, sC]
 refine take_op 2 (some 37) (.int .i64 (n : Int)) rfl rfl (by kernel_rfl) (by kernel_rfl) (by kernel_rfl) (fun _ _ _ h => h) (by rfl) (fun W' => by go_simp) ?_
 simp only [Act.put, sA, sB, sC]
 refine take_op 4 (some 11) (.slice ao m c) rfl rfl (by kernel_rfl) (by kernel_rfl) (by kernel_rfl) (fun _ _ _ h => h) (by rfl) (fun W' => by rfl) ?_
 simp only [Act.put, sA, sB, sC]
 refine wpAny_ready (rs := [3]) (by kernel_rfl) (by simp) (AllReady.cons rfl (fun K hK => ?_) AllReady.nil)
 have hmk2 := hmk w.drew
 rw [if_pos (by rfl)]
 refine Does.wp (base := 0) (E := .any (fun v W => v = .slice (some ⟨w.heap.size, 0, none⟩) n n ∧ Blk W w.heap.size 23 (u8s (List.replicate (32 * n) 0))) (fun v W W' hb h => ⟨h.1, h.2.later hb h.2.lt⟩)) ?_ (fun v3 x3 p3 l3 => ?_)
 ·refine Does.run (.slice (some ⟨w.heap.size, 0, none⟩) n n) (w' := w.drew.alloc (.cells (u8s (List.replicate (32 * n) 0)).toArray 23)) ?_ ⟨rfl, heap_alloc_new w.drew _⟩ ((Below.refl _ _).alloc (Nat.le_refl _) _)
  clear hK K
  go_simp
 change K (Act.put _ (some 38) v3) x3
 refine hK _ _ ?_
 clear hK K hmk2
 obtain ⟨rfl, b3⟩ := p3
 simp only [Act.put, sA, sB, sC]
 refine take_op 5 (some 12) (.slice (some ⟨w.heap.size, 0, none⟩) n n) rfl rfl (by kernel_rfl) (by kernel_rfl) (by kernel_rfl) (fun _ _ _ h => h) (by rfl) (fun W' => by rfl) ?_
 simp only [Act.put, sA, sB, sC]
 refine wpAny_done (by kernel_rfl) (NoPanic.normal ?_) _
 have B3 : Hid (Below w.heap.size w x3 ∧ Blk x3 w.heap.size 23 (u8s (List.replicate (32 * n) 0))) := ⟨below_chain (below_dn (Below.refl _ _) 1) l3 (Nat.le_refl _), b3⟩
 clear l3 b3 hmk
 go_wp2_with fail
 go_loopw [11, 13] (fun v i wr => ∃ k : Nat, k ≤ n ∧ i = .int .i64 ((k : Int) - 1) ∧ ySl (m + 48 * (n - k)) (wrapL rd ((ss.zip ps).drop k) zs) v wr ∧ (k < n → isO w.heap.size (m + 48 * (n - k)) (wrapL rd ((ss.zip ps).drop k) zs) v wr) ∧ Blk wr w.heap.size 23 (u8s (List.replicate (32 * k) 0 ++ repsF rd ((ss.zip ps).drop k))) ∧ Below w.heap.size w wr) (fun _ i _ => (intOf i + 1).toNat)
 case atStart =>
  have hl : (ss.zip ps).length = n := by rw [List.length_zip, HX.out.1.len, HX.out.2.1.len, Nat.min_self]
  refine ⟨n, Nat.le_refl _, by first | rfl | go_num, ⟨ao, c, by rw [Nat.sub_self]; rfl, ?_, ?_⟩, fun h => absurd h (Nat.lt_irrefl _), ?_, B3.out.1⟩
  ·rw [Nat.sub_self, Nat.mul_zero, Nat.add_zero, List.drop_of_length_le (by omega), wrapL]
   exact HX.out.2.2.1.later B3.out.1 (Nat.le_refl _)
  ·have := HX.out.2.2.2.1; omega
  ·rw [List.drop_of_length_le (by omega), repsF, List.map_nil, List.flatten_nil, List.append_nil]; exact B3.out.2
 case round =>
  obtain ⟨k, hk, rfl, hv, hvo, hG, hbel⟩ := hrel
  obtain ⟨vo, vc, rfl, hvs, hvc⟩ := hv
  by_cases hlt : 0 < k
  ·obtain ⟨j, rfl⟩ : ∃ j, k = j + 1 := ⟨k - 1, by omega⟩
   have hj : j < n := by omega
   have e1 : ((j + 1 : Nat) : Int) - 1 = (j : Int) := by omega
   rw [e1]
   obtain ⟨b1, o1, rfl, hb1, hr1⟩ := HX.out.1.cells j hj
   obtain ⟨b2, o2, rfl, hb2, hr2⟩ := HX.out.2.1.cells j hj
   obtain ⟨g1, y1⟩ := HX.out.1.good j hj
   obtain ⟨g2, y2⟩ := HX.out.2.1.good j hj
   have hP := pair_at ss ps n j HX.out.1.len HX.out.2.1.len hj
   have hVj := HX.out.2.2.2.2.2.2 j hj
   obtain ⟨s, hs⟩ : ∃ q, ss.getD j [] = q := ⟨_, rfl⟩
   obtain ⟨p, hp⟩ : ∃ q, ps.getD j [] = q := ⟨_, rfl⟩
   rw [hs] at hr1 g1 y1 hP hVj
   rw [hp] at hr2 g2 y2 hP hVj
   obtain ⟨T, hT⟩ : ∃ q, wrapL rd ((ss.zip ps).drop (j + 1)) zs = q := ⟨_, rfl⟩
   obtain ⟨F, hF⟩ : ∃ q, repsF rd ((ss.zip ps).drop (j + 1)) = q := ⟨_, rfl⟩
   obtain ⟨L, hL⟩ : ∃ q, m + 48 * (n - (j + 1)) = q := ⟨_, rfl⟩
   have hm6 := HX.out.2.2.2.2.2.1
   rw [hT, hL] at hvs
   rw [hL] at hvc ⊢
   rw [hF] at hG
   have CP := fun (W : World) (hw : Seen W vo L T) (hk' : KTab W) => putOn_any s p rd vo L vc T g1 y1 g2 y2 HR.out (by omega) W hw hvc hk'
   rw [valid_yes hVj] at CP
   have hA1 : wrapL rd ((ss.zip ps).drop j) zs = layL rd s p T := by rw [hP, wrapL, hT]
   have hA2 : repsF rd ((ss.zip ps).drop j) = repO rd s p ++ F := by rw [hP, repsF, List.map_cons, List.flatten_cons, ← hF, repsF]
   obtain ⟨kb, hkb⟩ : ∃ q, repO rd s p = q := ⟨_, rfl⟩
   obtain ⟨LY, hLY⟩ : ∃ q, layL rd s p T = q := ⟨_, rfl⟩
   have hTb : Bytes T := hvs.bytes
   have HY : Hid (LY.length = L + 48 ∧ Bytes LY ∧ kb.length = 32 ∧ wrapL rd ((ss.zip ps).drop j) zs = LY ∧ repsF rd ((ss.zip ps).drop j) = kb ++ F ∧ m + 48 * (n - j) = L + 48 ∧ L + 48 ≤ 1048576) := by
    refine ⟨?_, ?_, ?_, ?_, ?_, by omega, by omega⟩
    ·rw [← hLY, layL_length, hvs.len]
    ·rw [← hLY]; exact layL_bytes _ _ _ hTb
    ·rw [← hkb]; exact repO_length _ _ _
    ·rw [hA1, hLY]
    ·rw [hA2, hkb]
   rw [hkb, hLY] at CP
   have hGx : Blk wr w.heap.size 23 (u8s (List.replicate (j * 32) 0) ++ (u8s (List.replicate 32 0) ++ u8s F)) := by
    have e : List.replicate (32 * (j + 1)) (0 : Int) ++ F = List.replicate (j * 32) 0 ++ (List.replicate 32 0 ++ F) := by
     rw [← List.append_assoc, List.replicate_append_replicate, show j * 32 + 32 = 32 * (j + 1) by omega]
    rw [e] at hG
    simpa [u8s] using hG
   have HB : Hid (Below w.heap.size w wr ∧ Seen wr vo L T ∧ Blk wr w.heap.size 23 (u8s (List.replicate (j * 32) 0) ++ (u8s (List.replicate 32 0) ++ u8s F)) ∧ wr.rangeAt b1 (o1 + j * 32) (u8s s) ∧ wr.rangeAt b2 (o2 + j * 32) (u8s p) ∧ s.length = 32 ∧ p.length = 32 ∧ b1 < w.heap.size ∧ b2 < w.heap.size ∧ KTab wr) := ⟨hbel, hvs, hGx, rangeAt_below hr1 hbel hb1, rangeAt_below hr2 hbel hb2, g1, g2, hb1, hb2, HX.out.2.2.2.2.1.below hbel HX.out.2.2.2.2.1.lt⟩
   have i1 : (0 : Int) ≤ (j : Int) := by omega
   have i2 : (j : Int) < (n : Int) := by omega
   have hsw := hbel.size
   have hsw2 : w.heap.size < wr.heap.size := hGx.lt
   clear hr1 hr2 g1 g2 y1 y2 hb1 hb2 hP hVj hs hp hT hF hL hvs hvc hG hA1 hA2 hkb hLY hTb hGx hbel hvo hm6 e1
   go_wp2_with fail
   have BD : Below wr.heap.size wr wr.drew := below_dn (Below.refl _ _) 1
   have sD : wr.drew.heap.size = wr.heap.size := rfl
   have q1 := HB.out.2.2.2.2.2.2.2.1
   have q2 := HB.out.2.2.2.2.2.2.2.2.1
   refine wp_region_noPanic (wp_region_held_drew (S := fun W => W.rangeAt b1 (o1 + j * 32) (u8s s) ∧ W.rangeAt b2 (o2 + j * 32) (u8s p)) (by kernel_rfl) ⟨HB.out.2.2.2.1, HB.out.2.2.2.2.1⟩ (fun hH => ?_))
   refine hTake 0 (some 47) (.slice (some ⟨b1, o1, none⟩) n sc) rfl rfl (by kernel_rfl) (by kernel_rfl) (by kernel_rfl) (fun _ _ _ h => h) (by rfl) (fun W' hS' => by go_simp) hH ?_
   simp only [Act.put, sA, sB, sC]
   refine hTake 1 (some 48) (.int .i64 (j : Int)) rfl rfl (by kernel_rfl) (by kernel_rfl) (by kernel_rfl) (fun _ _ _ h => h) (by rfl) (fun W' hS' => by go_simp) hH ?_
   simp only [Act.put, sA, sB, sC]
   refine hTake 2 (some 49) (.pointer (some ⟨b1, o1 + j * 32, none⟩)) rfl rfl (by kernel_rfl) (by kernel_rfl) (by kernel_rfl) (fun _ _ _ h => h) (by rfl) (fun W' hS' => by go_simp) hH ?_
   simp only [Act.put, sA, sB, sC]
   refine hLoad 3 (some 50) (u8s s) rfl rfl (by kernel_rfl) (by kernel_rfl) (by kernel_rfl) (fun _ _ _ h => h) (by rfl) 23 (.tmp 49) rfl b1 (o1 + j * 32) rfl _ (fun _ h => h.1) Tryz.underlying23 rfl (sizeU s HB.out.2.2.2.2.2.1) hH ?_
   simp only [Act.put, sA, sB, sC]
   refine hTake 4 (some 51) (.slice (some ⟨b2, o2, none⟩) n pc) rfl rfl (by kernel_rfl) (by kernel_rfl) (by kernel_rfl) (fun _ _ _ h => h) (by rfl) (fun W' hS' => by go_simp) hH ?_
   simp only [Act.put, sA, sB, sC]
   refine hTake 5 (some 52) (.int .i64 (j : Int)) rfl rfl (by kernel_rfl) (by kernel_rfl) (by kernel_rfl) (fun _ _ _ h => h) (by rfl) (fun W' hS' => by go_simp) hH ?_
   simp only [Act.put, sA, sB, sC]
   refine hTake 6 (some 53) (.pointer (some ⟨b2, o2 + j * 32, none⟩)) rfl rfl (by kernel_rfl) (by kernel_rfl) (by kernel_rfl) (fun _ _ _ h => h) (by rfl) (fun W' hS' => by go_simp) hH ?_
   simp only [Act.put, sA, sB, sC]
   refine hLoad 7 (some 54) (u8s p) rfl rfl (by kernel_rfl) (by kernel_rfl) (by kernel_rfl) (fun _ _ _ h => h) (by rfl) 23 (.tmp 53) rfl b2 (o2 + j * 32) rfl _ (fun _ h => h.2) Tryz.underlying23 rfl (sizeU p HB.out.2.2.2.2.2.2.1) hH ?_
   simp only [Act.put, sA, sB, sC]
   refine hTake 8 (some 55) (.int .u64 rd) rfl rfl (by kernel_rfl) (by kernel_rfl) (by kernel_rfl) (fun _ _ _ h => h) (by rfl) (fun W' hS' => by go_simp) hH ?_
   simp only [Act.put, sA, sB, sC]
   refine hTake 9 (some 56) (.slice vo L vc) rfl rfl (by kernel_rfl) (by kernel_rfl) (by kernel_rfl) (fun _ _ _ h => h) (by rfl) (fun W' hS' => by go_simp) hH ?_
   simp only [Act.put, sA, sB, sC]
   refine wpAnyH_ready (rs := [10, 15]) (by kernel_rfl) (by simp) (AllReadyH.cons rfl (fun K hK => ?_) (AllReadyH.cons rfl (fun K hK => ?_) AllReadyH.nil))
   ·rw [if_pos (by rfl)]
    refine Does.wp (base := wr.heap.size) (E := .any (isW wr.heap.size (L + 48) LY kb 18446744073709551615) (isW_later _ _ _ _ _)) ?_ (fun v10 x10 p10 l10 => ?_)
    ·refine Does.call 61 #[.agg (u8s s).toArray, .agg (u8s p).toArray, .int .u64 rd, .slice vo L vc] (by go_simp) ?_
     refine (CP wr.drew (HB.out.2.1.later BD (Nat.le_refl _)) (HB.out.2.2.2.2.2.2.2.2.2.below BD HB.out.2.2.2.2.2.2.2.2.2.lt)).mono ?_
     rintro z w' ⟨r, rfl, ho, l⟩
     obtain ⟨qo, qc, rfl⟩ := isO_form ho HY.out.1
     exact ⟨_, rfl, ⟨qo, qc, rfl, isO_base ho (by omega)⟩, l⟩
    change K (Act.put _ (some 57) v10) x10
    refine hK.out _ _ ⟨rangeAt_below hH.1 l10 (by omega), rangeAt_below hH.2 l10 (by omega)⟩ (fun hH => ?_)
    clear hK K
    simp only [Act.put, sA, sB, sC]
    obtain ⟨qo, qc, rfl, oK⟩ := p10
    have s10 := l10.size
    refine hTake 11 (some 46) (.tuple #[.slice qo (L + 48) qc, .agg (u8s kb).toArray, .int .u64 18446744073709551615]) rfl rfl (by kernel_rfl) (by kernel_rfl) (by kernel_rfl) (fun _ _ _ h => h) (by rfl) (fun W' hS' => by go_simp) hH ?_
    simp only [Act.put, sA, sB, sC]
    refine hTake 12 (some 58) (.slice qo (L + 48) qc) rfl rfl (by kernel_rfl) (by kernel_rfl) (by kernel_rfl) (fun _ _ _ h => h) (by rfl) (fun W' hS' => by go_simp) hH ?_
    simp only [Act.put, sA, sB, sC]
    refine hTake 13 (some 59) (.agg (u8s kb).toArray) rfl rfl (by kernel_rfl) (by kernel_rfl) (by kernel_rfl) (fun _ _ _ h => h) (by rfl) (fun W' hS' => by go_simp) hH ?_
    simp only [Act.put, sA, sB, sC]
    refine hTake 14 (some 60) (.int .u64 18446744073709551615) rfl rfl (by kernel_rfl) (by kernel_rfl) (by kernel_rfl) (fun _ _ _ h => h) (by rfl) (fun W' hS' => by go_simp) hH ?_
    simp only [Act.put, sA, sB, sC]
    refine wpAnyH_ready (rs := [15]) (by kernel_rfl) (by simp) (AllReadyH.cons rfl (fun K hK => ?_) AllReadyH.nil)
    rw [if_pos (by rfl)]
    refine Does.wp (base := x10.heap.size) (E := .blk 23 (u8s (List.replicate 32 0))) ?_ (fun v15 x15 p15 l15 => ?_)
    ·exact Does.alloc 23 rfl 32 _ zeroKey (by omega)
    change K (Act.put _ (some 15) v15) x15
    refine hK.out _ _ ⟨rangeAt_below hH.1 l15 (by omega), rangeAt_below hH.2 l15 (by omega)⟩ (fun hH => ?_)
    clear hK K
    simp only [Act.put, sA, sB, sC]
    obtain ⟨g15, rfl, hg15, bg⟩ := p15
    have s15 := l15.size
    have hg15n : g15 < x15.heap.size := bg.lt
    have hgA : ∀ k, (Value.slice qo (L + 48) qc).ownBlock = some k → k ≠ g15 := fun k hk => by have := (oK.lt k hk).2; omega
    have oK := isO_later _ _ _ _ _ _ l15 oK
    refine hTake 16 (some 14) (.slice qo (L + 48) qc) rfl rfl (by kernel_rfl) (by kernel_rfl) (by kernel_rfl) (fun _ _ _ h => h) (by rfl) (fun W' hS' => by go_simp) hH ?_
    simp only [Act.put, sA, sB, sC]
    refine wpAnyH_ready (rs := [17]) (by kernel_rfl) (by simp) (AllReadyH.cons rfl (fun K hK => ?_) AllReadyH.nil)
    rw [if_pos (by rfl)]
    refine last_store 23 (.tmp 15) (.tmp 59) rfl rfl g15 rfl 23 _ (u8s kb) rfl bg (lenU _ _ HY.out.2.2.1 len0) (sizeU kb HY.out.2.2.1) (u8s_one _) ?_
    intro w17 b17 s17 k17
    refine hK.out _ _ ⟨rangeAt_keptG hH.1 k17 (by omega), rangeAt_keptG hH.2 k17 (by omega)⟩ (fun hH => ?_)
    clear hK K
    refine hTake 18 (some 16) (.int .u64 18446744073709551615) rfl rfl (by kernel_rfl) (by kernel_rfl) (by kernel_rfl) (fun _ _ _ h => h) (by rfl) (fun W' hS' => by go_simp) hH ?_
    simp only [Act.put, sA, sB, sC]
    refine wpAnyH_done (by kernel_rfl) (NoPanic.normal ?_) _
    clear hH
    have V : Hid (Below w.heap.size w w17 ∧ Blk w17 w.heap.size 23 (u8s (List.replicate (j * 32) 0) ++ (u8s (List.replicate 32 0) ++ u8s F)) ∧ Blk w17 g15 23 (u8s kb) ∧ isO wr.heap.size (L + 48) LY (.slice qo (L + 48) qc) w17 ∧ wr.heap.size ≤ g15) := ⟨below_kept (below_chain (below_chain (below_dn HB.out.1 1) l10 (by omega)) l15 (by omega)) k17 (by omega) (fun i hi => by omega), ((HB.out.2.2.1.drew.later l10 (by omega)).later l15 (by omega)).kept k17 (by omega), b17, isO_keptB oK k17 hgA, by omega⟩
    clear HB q1 q2
    go_wp2_with fail
    have qG := V.out.1.size
    have qg := V.out.2.2.1.lt
    refine wp_region_noPanic (wp_region_held_drew (S := fun W => Blk W g15 23 (u8s kb)) (by kernel_rfl) (V.out.2.2.1.drew) (fun hH => ?_))
    refine hLoad 3 (some 66) (u8s kb) rfl rfl (by kernel_rfl) (by kernel_rfl) (by kernel_rfl) (fun _ _ _ h => h) (by rfl) 23 (.tmp 15) rfl g15 0 rfl _ (fun _ h => h.whole) Tryz.underlying23 rfl (sizeU kb HY.out.2.2.1) hH ?_
    simp only [Act.put, sA, sB, sC]
    refine hTake 0 (some 63) (.slice (some ⟨w.heap.size, 0, none⟩) n n) rfl rfl (by kernel_rfl) (by kernel_rfl) (by kernel_rfl) (fun _ _ _ h => h) (by rfl) (fun W' hS' => by go_simp) hH ?_
    simp only [Act.put, sA, sB, sC]
    refine hTake 1 (some 64) (.int .i64 (j : Int)) rfl rfl (by kernel_rfl) (by kernel_rfl) (by kernel_rfl) (fun _ _ _ h => h) (by rfl) (fun W' hS' => by go_simp) hH ?_
    simp only [Act.put, sA, sB, sC]
    refine hTake 2 (some 65) (.slice qo (L + 48) qc) rfl rfl (by kernel_rfl) (by kernel_rfl) (by kernel_rfl) (fun _ _ _ h => h) (by rfl) (fun W' hS' => by go_simp) hH ?_
    simp only [Act.put, sA, sB, sC]
    refine hTake 4 (some 11) (.slice qo (L + 48) qc) rfl rfl (by kernel_rfl) (by kernel_rfl) (by kernel_rfl) (fun _ _ _ h => h) (by rfl) (fun W' hS' => by go_simp) hH ?_
    simp only [Act.put, sA, sB, sC]
    refine hTake 5 (some 67) (.pointer (some ⟨w.heap.size, j * 32, none⟩)) rfl rfl (by kernel_rfl) (by kernel_rfl) (by kernel_rfl) (fun _ _ _ h => h) (by rfl) (fun W' hS' => by go_simp) hH ?_
    simp only [Act.put, sA, sB, sC]
    refine wpAnyH_ready (rs := [6]) (by kernel_rfl) (by simp) (AllReadyH.cons rfl (fun K hK => ?_) AllReadyH.nil)
    have hGd := V.out.2.1.drew
    refine step_store rfl (by rfl) 23 (.tmp 67) (.tmp 66) rfl w.heap.size (j * 32) rfl (u8s kb) rfl (hGd.there (by simp only [List.length_append, u8s_length, List.length_replicate, HY.out.2.2.1]; omega)) (sizeU kb HY.out.2.2.1) (u8s_one _) ?_
    have hb7 := Blk.setCells (u8s kb) (u8s (List.replicate 32 0)) (lenU _ _ HY.out.2.2.1 len0) hGd
    rw [show (u8s (List.replicate (j * 32) (0 : Int))).length = j * 32 by rw [u8s_length, List.length_replicate]] at hb7
    have hk7 : Kept (fun b => b = w.heap.size) w17.drew (w17.drew.setCells w.heap.size (j * 32) (u8s kb)) := (Kept.refl _ _).setCells (S := fun b => b = w.heap.size) rfl _ _
    have hs7 : (w17.drew.setCells w.heap.size (j * 32) (u8s kb)).heap.size = w17.heap.size := setCells_size _ _ _ _
    generalize w17.drew.setCells w.heap.size (j * 32) (u8s kb) = x7 at hb7 hk7 hs7 ⊢
    refine hK.out _ _ (hH.kept hk7 (by omega)) (fun hH => ?_)
    clear hK K
    refine wpAnyH_done (by kernel_rfl) (NoPanic.normal ?_) _
    clear hH
    have R : Hid (ySl (m + 48 * (n - j)) (wrapL rd ((ss.zip ps).drop j) zs) (.slice qo (L + 48) qc) x7 ∧ isO w.heap.size (m + 48 * (n - j)) (wrapL rd ((ss.zip ps).drop j) zs) (.slice qo (L + 48) qc) x7 ∧ Blk x7 w.heap.size 23 (u8s (List.replicate (32 * j) 0 ++ repsF rd ((ss.zip ps).drop j))) ∧ Below w.heap.size w x7) := by
     have o7 : isO wr.heap.size (L + 48) LY (.slice qo (L + 48) qc) x7 := isO_kept (isO_later _ _ _ _ _ _ (below_dn (Below.refl _ _) 1) V.out.2.2.2.1) hk7 (fun k hk => by omega)
     rw [HY.out.2.2.2.2.2.1, HY.out.2.2.2.1, HY.out.2.2.2.2.1]
     refine ⟨ySl_own HY.out.1 HY.out.2.1 (by have := HY.out.2.2.2.2.2.2; omega) o7, isO_base o7 hsw, ?_, below_kept (below_dn V.out.1 1) hk7 V.out.1.size (fun i hi => by omega)⟩
     rw [Nat.mul_comm 32 j]
     simpa [u8s] using hb7
    clear V hb7 hk7 hs7 hGd
    have e2 : IntKind.i64.wrap ((j : Int) - 1) = (j : Int) - 1 := by simp only [IntKind.wrap, IntKind.bits, IntKind.signed]; simp; omega
    go_wp2
    go_roundw
    case rel => exact ⟨j, by omega, by first | rfl | go_num, R.out.1, fun _ => R.out.2.1, R.out.2.2.1, R.out.2.2.2⟩
    case measure => simp [intOf] <;> omega
   ·rw [if_pos (by rfl)]
    refine Does.wp (base := wr.heap.size) (E := .blk 23 (u8s (List.replicate 32 0))) ?_ (fun v15 x15 p15 l15 => ?_)
    ·exact Does.alloc 23 rfl 32 _ zeroKey (by omega)
    change K (Act.put _ (some 15) v15) x15
    refine hK.out _ _ ⟨rangeAt_below hH.1 l15 (by omega), rangeAt_below hH.2 l15 (by omega)⟩ (fun hH => ?_)
    clear hK K
    simp only [Act.put, sA, sB, sC]
    obtain ⟨g15, rfl, hg15, bg0⟩ := p15
    have s15 := l15.size
    have hg15n : g15 < x15.heap.size := bg0.lt
    refine wpAnyH_ready (rs := [10]) (by kernel_rfl) (by simp) (AllReadyH.cons rfl (fun K hK => ?_) AllReadyH.nil)
    rw [if_pos (by rfl)]
    refine Does.wp (base := wr.heap.size) (E := .any (isW x15.heap.size (L + 48) LY kb 18446744073709551615) (isW_later _ _ _ _ _)) ?_ (fun v10 x10 p10 l10 => ?_)
    ·refine Does.call 61 #[.agg (u8s s).toArray, .agg (u8s p).toArray, .int .u64 rd, .slice vo L vc] (by go_simp) ?_
     refine (CP x15 (HB.out.2.1.later (below_chain BD l15 (by omega)) (Nat.le_refl _)) (HB.out.2.2.2.2.2.2.2.2.2.below (below_chain BD l15 (by omega)) HB.out.2.2.2.2.2.2.2.2.2.lt)).mono ?_
     rintro z w' ⟨r, rfl, ho, l⟩
     obtain ⟨qo, qc, rfl⟩ := isO_form ho HY.out.1
     exact ⟨_, rfl, ⟨qo, qc, rfl, isO_base ho (by omega)⟩, l⟩
    change K (Act.put _ (some 57) v10) x10
    refine hK.out _ _ ⟨rangeAt_below hH.1 l10 (by omega), rangeAt_below hH.2 l10 (by omega)⟩ (fun hH => ?_)
    clear hK K
    simp only [Act.put, sA, sB, sC]
    obtain ⟨qo, qc, rfl, oK⟩ := p10
    have s10 := l10.size
    have bg := bg0.later l10 bg0.lt
    refine hTake 11 (some 46) (.tuple #[.slice qo (L + 48) qc, .agg (u8s kb).toArray, .int .u64 18446744073709551615]) rfl rfl (by kernel_rfl) (by kernel_rfl) (by kernel_rfl) (fun _ _ _ h => h) (by rfl) (fun W' hS' => by go_simp) hH ?_
    simp only [Act.put, sA, sB, sC]
    refine hTake 12 (some 58) (.slice qo (L + 48) qc) rfl rfl (by kernel_rfl) (by kernel_rfl) (by kernel_rfl) (fun _ _ _ h => h) (by rfl) (fun W' hS' => by go_simp) hH ?_
    simp only [Act.put, sA, sB, sC]
    refine hTake 13 (some 59) (.agg (u8s kb).toArray) rfl rfl (by kernel_rfl) (by kernel_rfl) (by kernel_rfl) (fun _ _ _ h => h) (by rfl) (fun W' hS' => by go_simp) hH ?_
    simp only [Act.put, sA, sB, sC]
    refine hTake 14 (some 60) (.int .u64 18446744073709551615) rfl rfl (by kernel_rfl) (by kernel_rfl) (by kernel_rfl) (fun _ _ _ h => h) (by rfl) (fun W' hS' => by go_simp) hH ?_
    simp only [Act.put, sA, sB, sC]
    refine hTake 16 (some 14) (.slice qo (L + 48) qc) rfl rfl (by kernel_rfl) (by kernel_rfl) (by kernel_rfl) (fun _ _ _ h => h) (by rfl) (fun W' hS' => by go_simp) hH ?_
    simp only [Act.put, sA, sB, sC]
    refine wpAnyH_ready (rs := [17]) (by kernel_rfl) (by simp) (AllReadyH.cons rfl (fun K hK => ?_) AllReadyH.nil)
    rw [if_pos (by rfl)]
    refine last_store 23 (.tmp 15) (.tmp 59) rfl rfl g15 rfl 23 _ (u8s kb) rfl bg (lenU _ _ HY.out.2.2.1 len0) (sizeU kb HY.out.2.2.1) (u8s_one _) ?_
    intro w17 b17 s17 k17
    refine hK.out _ _ ⟨rangeAt_keptG hH.1 k17 (by omega), rangeAt_keptG hH.2 k17 (by omega)⟩ (fun hH => ?_)
    clear hK K
    refine hTake 18 (some 16) (.int .u64 18446744073709551615) rfl rfl (by kernel_rfl) (by kernel_rfl) (by kernel_rfl) (fun _ _ _ h => h) (by rfl) (fun W' hS' => by go_simp) hH ?_
    simp only [Act.put, sA, sB, sC]
    refine wpAnyH_done (by kernel_rfl) (NoPanic.normal ?_) _
    clear hH
    have V : Hid (Below w.heap.size w w17 ∧ Blk w17 w.heap.size 23 (u8s (List.replicate (j * 32) 0) ++ (u8s (List.replicate 32 0) ++ u8s F)) ∧ Blk w17 g15 23 (u8s kb) ∧ isO wr.heap.size (L + 48) LY (.slice qo (L + 48) qc) w17 ∧ wr.heap.size ≤ g15) := ⟨below_kept (below_chain (below_chain (below_dn HB.out.1 1) l15 (by omega)) l10 (by omega)) k17 (by omega) (fun i hi => by omega), ((HB.out.2.2.1.drew.later l15 (by omega)).later l10 (by omega)).kept k17 (by omega), b17, isO_base (isO_kept oK k17 (fun k hk => by omega)) (by omega), by omega⟩
    clear HB q1 q2
    go_wp2_with fail
    have qG := V.out.1.size
    have qg := V.out.2.2.1.lt
    refine wp_region_noPanic (wp_region_held_drew (S := fun W => Blk W g15 23 (u8s kb)) (by kernel_rfl) (V.out.2.2.1.drew) (fun hH => ?_))
    refine hLoad 3 (some 66) (u8s kb) rfl rfl (by kernel_rfl) (by kernel_rfl) (by kernel_rfl) (fun _ _ _ h => h) (by rfl) 23 (.tmp 15) rfl g15 0 rfl _ (fun _ h => h.whole) Tryz.underlying23 rfl (sizeU kb HY.out.2.2.1) hH ?_
    simp only [Act.put, sA, sB, sC]
    refine hTake 0 (some 63) (.slice (some ⟨w.heap.size, 0, none⟩) n n) rfl rfl (by kernel_rfl) (by kernel_rfl) (by kernel_rfl) (fun _ _ _ h => h) (by rfl) (fun W' hS' => by go_simp) hH ?_
    simp only [Act.put, sA, sB, sC]
    refine hTake 1 (some 64) (.int .i64 (j : Int)) rfl rfl (by kernel_rfl) (by kernel_rfl) (by kernel_rfl) (fun _ _ _ h => h) (by rfl) (fun W' hS' => by go_simp) hH ?_
    simp only [Act.put, sA, sB, sC]
    refine hTake 2 (some 65) (.slice qo (L + 48) qc) rfl rfl (by kernel_rfl) (by kernel_rfl) (by kernel_rfl) (fun _ _ _ h => h) (by rfl) (fun W' hS' => by go_simp) hH ?_
    simp only [Act.put, sA, sB, sC]
    refine hTake 4 (some 11) (.slice qo (L + 48) qc) rfl rfl (by kernel_rfl) (by kernel_rfl) (by kernel_rfl) (fun _ _ _ h => h) (by rfl) (fun W' hS' => by go_simp) hH ?_
    simp only [Act.put, sA, sB, sC]
    refine hTake 5 (some 67) (.pointer (some ⟨w.heap.size, j * 32, none⟩)) rfl rfl (by kernel_rfl) (by kernel_rfl) (by kernel_rfl) (fun _ _ _ h => h) (by rfl) (fun W' hS' => by go_simp) hH ?_
    simp only [Act.put, sA, sB, sC]
    refine wpAnyH_ready (rs := [6]) (by kernel_rfl) (by simp) (AllReadyH.cons rfl (fun K hK => ?_) AllReadyH.nil)
    have hGd := V.out.2.1.drew
    refine step_store rfl (by rfl) 23 (.tmp 67) (.tmp 66) rfl w.heap.size (j * 32) rfl (u8s kb) rfl (hGd.there (by simp only [List.length_append, u8s_length, List.length_replicate, HY.out.2.2.1]; omega)) (sizeU kb HY.out.2.2.1) (u8s_one _) ?_
    have hb7 := Blk.setCells (u8s kb) (u8s (List.replicate 32 0)) (lenU _ _ HY.out.2.2.1 len0) hGd
    rw [show (u8s (List.replicate (j * 32) (0 : Int))).length = j * 32 by rw [u8s_length, List.length_replicate]] at hb7
    have hk7 : Kept (fun b => b = w.heap.size) w17.drew (w17.drew.setCells w.heap.size (j * 32) (u8s kb)) := (Kept.refl _ _).setCells (S := fun b => b = w.heap.size) rfl _ _
    have hs7 : (w17.drew.setCells w.heap.size (j * 32) (u8s kb)).heap.size = w17.heap.size := setCells_size _ _ _ _
    generalize w17.drew.setCells w.heap.size (j * 32) (u8s kb) = x7 at hb7 hk7 hs7 ⊢
    refine hK.out _ _ (hH.kept hk7 (by omega)) (fun hH => ?_)
    clear hK K
    refine wpAnyH_done (by kernel_rfl) (NoPanic.normal ?_) _
    clear hH
    have R : Hid (ySl (m + 48 * (n - j)) (wrapL rd ((ss.zip ps).drop j) zs) (.slice qo (L + 48) qc) x7 ∧ isO w.heap.size (m + 48 * (n - j)) (wrapL rd ((ss.zip ps).drop j) zs) (.slice qo (L + 48) qc) x7 ∧ Blk x7 w.heap.size 23 (u8s (List.replicate (32 * j) 0 ++ repsF rd ((ss.zip ps).drop j))) ∧ Below w.heap.size w x7) := by
     have o7 : isO wr.heap.size (L + 48) LY (.slice qo (L + 48) qc) x7 := isO_kept (isO_later _ _ _ _ _ _ (below_dn (Below.refl _ _) 1) V.out.2.2.2.1) hk7 (fun k hk => by omega)
     rw [HY.out.2.2.2.2.2.1, HY.out.2.2.2.1, HY.out.2.2.2.2.1]
     refine ⟨ySl_own HY.out.1 HY.out.2.1 (by have := HY.out.2.2.2.2.2.2; omega) o7, isO_base o7 hsw, ?_, below_kept (below_dn V.out.1 1) hk7 V.out.1.size (fun i hi => by omega)⟩
     rw [Nat.mul_comm 32 j]
     simpa [u8s] using hb7
    clear V hb7 hk7 hs7 hGd
    have e2 : IntKind.i64.wrap ((j : Int) - 1) = (j : Int) - 1 := by simp only [IntKind.wrap, IntKind.bits, IntKind.signed]; simp; omega
    go_wp2
    go_roundw
    case rel => exact ⟨j, by omega, by first | rfl | go_num, R.out.1, fun _ => R.out.2.1, R.out.2.2.1, R.out.2.2.2⟩
    case measure => simp [intOf] <;> omega
  ·obtain rfl : k = 0 := by omega
   rw [Nat.sub_zero] at hvs hvc
   have hvo := hvo (by omega)
   rw [Nat.sub_zero] at hvo
   rw [Nat.sub_zero]
   rw [List.drop_zero] at hvo
   rw [List.drop_zero, Nat.mul_zero, List.replicate_zero, List.nil_append] at hG
   have HE : Hid (isO w.heap.size (m + 48 * n) (wrapL rd (ss.zip ps) zs) (.slice vo (m + 48 * n) vc) wr ∧ Blk wr w.heap.size 23 (u8s (repsF rd (ss.zip ps))) ∧ Below w.heap.size w wr) := ⟨hvo, hG, hbel⟩
   clear hvs hvc hvo hG hbel
   have e0 : ((0 : Nat) : Int) - 1 = -1 := rfl
   rw [e0]
   go_wp2
   go_ret3
   exact ⟨vo, vc, w.heap.size, rfl, HE.out.1, Nat.le_refl _, HE.out.2.1, HE.out.2.2⟩
end Go.Proofs.YthlbjkfjkggdoaaGreatDoor
namespace Go.Proofs.YthlbjkfjkggdoaaGreatDoor
open Go.RowKit Go.Joins
set_option linter.unusedVariables false
set_option linter.unusedSimpArgs false
theorem bsK1 (l : List Int) (h : l.length = 32) (w : World) : (Instr.buildSlice 31 1 #[(0, .agg (u8s l).toArray)]).run Tryz.prog w = .ok (.slice (some ⟨w.heap.size, 0, none⟩) 1 1) (w.alloc (.cells (u8s l).toArray 23)) := by
 obtain ⟨a0, a1, a2, a3, a4, a5, a6, a7, a8, a9, b0, b1, b2, b3, b4, b5, b6, b7, b8, b9, c0, c1, c2, c3, c4, c5, c6, c7, c8, c9, d0, d1, rfl⟩ := list32 l h
 kernel_rfl
theorem wpList_keys1 {ops : Array Oper} {rest : List Oper} {o : Oper} {a : Act} {Q : Exit → Act → World → Prop} {w : World} (hgd : o.guard = none) (x : Operand) (ho : o.op = .buildSlice 31 1 #[(0, x)]) (l : List Int) (hl : l.length = 32) (hx : a.eval x = .agg (u8s l).toArray)
  (h : ∀ w', Blk w' w.heap.size 23 (u8s l) → w'.heap.size = w.heap.size + 1 → Below w.heap.size w w' → wpList Tryz.prog ops Q rest (a.put o.dst (.slice (some ⟨w.heap.size, 0, none⟩) 1 1)) w') : wpList Tryz.prog ops Q (o :: rest) a w := by
 refine wpList_plain hgd fun K hK => ?_
 unfold Oper.wp execOp
 simp only [ho, hx, List.map_toArray, List.map_cons, List.map_nil, Sem.run_bind, bsK1 l hl, Sem.run_pure, Result.andThen_ok]
 exact hK _ _ (h _ (heap_alloc_new w _) (by simp) ((Below.refl _ _).alloc (Nat.le_refl _) _))
theorem peelC_33 (v : Value) (rep : List Int) (x : Int) (h : rep.length = 32) : (peelC v rep x)[33]? = some (.int .u64 x) := by
 rw [peelC, List.getElem?_cons_succ, List.getElem?_append_right (by rw [u8s_length]; omega), u8s_length, h]; rfl
theorem peel_range {w : World} {g : Nat} {v : Value} {rep : List Int} {x : Int} (h : Blk w g 56 (peelC v rep x)) : w.rangeAt g 1 (u8s rep) := Blk.range (xs := [v]) (ys := u8s rep) (zs := [.int .u64 x]) h
end Go.Proofs.YthlbjkfjkggdoaaGreatDoor
namespace Go.Proofs.YthlbjkfjkggdoaaGreatDoor
open Go.RowKit
set_option linter.unusedVariables false
set_option linter.unusedSimpArgs false
def flatK (kss : List (List Int)) : List Int := kss.flatten
theorem flatK_length (kss : List (List Int)) (h : ∀ k ∈ kss, k.length = 32) : (flatK kss).length = 32 * kss.length := by
 induction kss with
 | nil => rfl
 | cons a r ih =>
  rw [flatK, List.flatten_cons, List.length_append, h a (by simp)]
  have := ih (fun k hk => h k (by simp [hk]))
  rw [flatK] at this
  rw [this, List.length_cons]; omega
theorem flatK_at (kss : List (List Int)) (h : ∀ k ∈ kss, k.length = 32) (i : Nat) (hi : i < kss.length) : ∃ xs zs, flatK kss = xs ++ (kss.getD i [] ++ zs) ∧ xs.length = i * 32 := by
 refine ⟨flatK (kss.take i), flatK (kss.drop (i + 1)), ?_, ?_⟩
 ·have e : kss = kss.take i ++ (kss.getD i [] :: kss.drop (i + 1)) := by
   conv => lhs; rw [← List.take_append_drop i kss, List.drop_eq_getElem_cons hi]
   simp [List.getD, hi]
  conv => lhs; rw [e]
  simp [flatK]
 ·rw [flatK_length _ (fun k hk => h k (List.mem_of_mem_take hk)), List.length_take]
  omega
theorem keys_own {w : World} {B n : Nat} {v : Value} {kss : List (List Int)} (h : w.ownsRow B 23 32 v n (u8s (flatK kss))) (hl : kss.length = n) (hg : ∀ k ∈ kss, k.length = 32 ∧ Bytes k) : ∃ vo c, v = .slice vo n c ∧ KeysS w vo n kss ∧ n ≤ c := by
 have good : ∀ i, i < n → (kss.getD i []).length = 32 ∧ Bytes (kss.getD i []) := fun i hi => by
  have hi' : i < kss.length := by omega
  have e : kss.getD i [] = kss[i] := by simp [List.getD, hi']
  rw [e]
  exact hg _ (List.getElem_mem hi')
 rcases h.2 with ⟨rfl, rfl⟩ | ⟨g, cap, cur, rfl, hB, hh, hc, hm, hs, ht⟩
 ·exact ⟨none, 0, rfl, ⟨hl, good, fun i hi => by omega⟩, Nat.le_refl _⟩
 ·refine ⟨_, cap, rfl, ⟨hl, good, fun i hi => ⟨g, 0, rfl, (Array.getElem?_eq_some_iff.1 hh).1, ?_⟩⟩, hc⟩
  obtain ⟨xs, zs, e, hx⟩ := flatK_at kss (fun k hk => (hg k hk).1) i (by omega)
  intro j u hu
  have hj : j < (kss.getD i []).length := by
   have := (List.getElem?_eq_some_iff.1 hu).1
   rwa [u8s_length] at this
  rw [cell_of_row w g _ _ 23 (0, 0) hh]
  have q : (cur.toList.take (n * 32))[i * 32 + j]? = (u8s (flatK kss))[i * 32 + j]? := by rw [ht]
  rw [List.getElem?_take, if_pos (by have := (good i hi).1; omega)] at q
  rw [Nat.zero_add, ← Array.getElem?_toList, q, e]
  rw [← hu]
  simp only [u8s, List.map_append]
  rw [List.getElem?_append_right (by simp; omega), List.length_map, hx, Nat.add_sub_cancel_left, List.getElem?_append_left (by simpa using hj)]
theorem flatK_snoc (kss : List (List Int)) (k : List Int) : u8s (flatK kss) ++ u8s k = u8s (flatK (kss ++ [k])) := by simp [flatK, u8s]
end Go.Proofs.YthlbjkfjkggdoaaGreatDoor
namespace Go.Proofs.YthlbjkfjkggdoaaGreatDoor
open Go.RowKit
set_option linter.unusedVariables false
set_option linter.unusedSimpArgs false
def bsK (o : List Int) : List Int := prodL o nineL
theorem bsK_good (oss : List (List Int)) : ∀ k ∈ oss.map bsK, k.length = 32 ∧ Bytes k := by
 intro k hk
 obtain ⟨o, _, rfl⟩ := List.mem_map.1 hk
 exact ⟨prodL_length _ _, prodL_bytes _ _⟩
theorem keys_blk {w : World} {g n : Nat} {t : TypeId} {kss : List (List Int)} (h : Blk w g t (u8s (flatK kss))) (hl : kss.length = n) (hg : ∀ k ∈ kss, k.length = 32 ∧ Bytes k) : KeysS w (some ⟨g, 0, none⟩) n kss := by
 have good : ∀ i, i < n → (kss.getD i []).length = 32 ∧ Bytes (kss.getD i []) := fun i hi => by
  have hi' : i < kss.length := by omega
  have e : kss.getD i [] = kss[i] := by simp [List.getD, hi']
  rw [e]
  exact hg _ (List.getElem_mem hi')
 refine ⟨hl, good, fun i hi => ⟨g, 0, rfl, h.lt, ?_⟩⟩
 obtain ⟨xs, zs, e, hx⟩ := flatK_at kss (fun k hk => (hg k hk).1) i (by omega)
 have hu : u8s (flatK kss) = u8s xs ++ (u8s (kss.getD i []) ++ u8s zs) := by rw [e]; simp [u8s]
 rw [hu] at h
 have q := h.range
 rw [u8s_length, hx] at q
 rw [Nat.zero_add]
 exact q
def repsK (rd : Int) (l : List (List Int × List Int)) : List (List Int) := l.map fun x => repO rd x.1 x.2
theorem repsK_good (rd : Int) (l : List (List Int × List Int)) : ∀ k ∈ repsK rd l, k.length = 32 ∧ Bytes k := by
 intro k hk
 obtain ⟨x, _, rfl⟩ := List.mem_map.1 hk
 exact ⟨repO_length _ _ _, repO_bytes _ _ _⟩
theorem repsK_at (rd : Int) (ss ps : List (List Int)) (n j : Nat) (hs : ss.length = n) (hp : ps.length = n) (hj : j < n) : (repsK rd (ss.zip ps)).getD j [] = repO rd (ss.getD j []) (ps.getD j []) := by
 have h : j < (ss.zip ps).length := by rw [List.length_zip]; omega
 simp [repsK, List.getD, hs, hp, hj, h]
end Go.Proofs.YthlbjkfjkggdoaaGreatDoor
namespace Go.Proofs.YthlbjkfjkggdoaaGreatDoor
open Go.RowKit
set_option linter.unusedVariables false
set_option linter.unusedSimpArgs false
theorem tcopied_any (ao : Option Addr) (n c : Nat) (zs : List Int) (w : World) (hx : Seen w ao n zs) (hc : ao = none → c = 0) :
  Calls Tryz.prog 43 #[.slice ao n c] w fun e w' => ∃ v, e = .returned v ∧ isO w.heap.size n zs v w' ∧ Below w.heap.size w w' := by
 have t1 := hx.top
 have HX : Hid (Seen w ao n zs ∧ (ao = none → c = 0)) := ⟨hx, hc⟩
 obtain ⟨i0, hi, hz0, hz1, hz2⟩ := info_parts info_byte
 obtain ⟨w0, hmk, ho1, hg0⟩ := run_make_own (P := Tryz.prog) w w.heap.size 32 5 i0 (.int .u8 0) 1 Tryz.underlying32 hi hz0 hz1 .i64 .i64 n (by rw [hz2]; omega) (by unfold maxLen; omega) (Nat.le_refl _)
 have hb1 : Below w.heap.size w w0 := (Below.refl _ _).grown hg0 (Nat.le_refl _) (fun j hj => by cases hj)
 have HB : Hid (Below w.heap.size w w0) := hb1
 clear hx hc hg0 hb1
 go_enter Tryz.func43, Tryz.ntmps43
 go_wp2_with (at_builtin; refine wpList_append_seen rfl _ _ rfl w.heap.size _ 0 [] rfl ho1 ao n c zs rfl (HX.out.1.later HB.out (Nat.le_refl _)) HX.out.2 (by omega) HB.out.size ?_; intro v' w1 ho2 hg2)
 have R : Hid (isO w.heap.size n zs v' w1 ∧ Below w.heap.size w w1) := by
  refine ⟨?_, below_grown HB.out ho1 hg2⟩
  have h := ho2
  rw [Nat.zero_add, List.nil_append] at h
  exact h
 clear ho2 hg2
 go_ret
 exact ⟨_, rfl, R.out⟩
theorem publics_any (oss : List (List Int)) (oo : Option Addr) (on oc : Nat) (hon : on ≤ 1000) (w : World) (ho : KeysS w oo on oss) :
  Calls Tryz.prog 42 #[.slice oo on oc] w fun e w' => ∃ vo vc, e = .returned (.slice vo on vc) ∧ KeysS w' vo on (oss.map bsK) ∧ Below w.heap.size w w' := by
 have HX : Hid (KeysS w oo on oss) := ho
 obtain ⟨i0, hi0, hz0, hz1, hz2⟩ := info_parts info_Key
 have HI : Hid (Tryz.prog.info? 23 = some i0 ∧ i0.zero = some (.agg (u8s (zer 32)).toArray) ∧ i0.size = 32 ∧ i0.bytes = 32) := ⟨hi0, hz0, hz1, hz2⟩
 clear ho hi0 hz0 hz1 hz2
 go_enter Tryz.func42, Tryz.ntmps42
 go_wp2
 go_loopw [3, 8] (fun v i wr => ∃ k : Nat, k ≤ on ∧ i = .int .i64 k ∧ wr.ownsRow w.heap.size 23 32 v k (u8s (flatK ((oss.map bsK).take k))) ∧ Below w.heap.size w wr) (fun _ i _ => on - (intOf i).toNat)
 case atStart => exact ⟨0, Nat.zero_le _, rfl, World.ownsRow_nil _ _ _ _, Below.refl _ _⟩
 case round =>
  obtain ⟨k, hk, rfl, hown, hbel⟩ := hrel
  have hwr := hbel.size
  by_cases hlt : k < on
  ·obtain ⟨b, o, hoo, hb, hrg⟩ := HX.out.cells k hlt
   obtain ⟨g1, y1⟩ := HX.out.good k hlt
   have hl : k < oss.length := by rw [HX.out.len]; exact hlt
   have hT : oss.take (k + 1) = oss.take k ++ [oss.getD k []] := by
    rw [List.take_succ_eq_append_getElem hl]
    simp [List.getD, hl]
   obtain ⟨O, hO⟩ : ∃ q, oss.getD k [] = q := ⟨_, rfl⟩
   rw [hO] at hrg g1 y1 hT
   have CB := base_any O g1 y1
   obtain ⟨S, hS⟩ : ∃ q, prodL O nineL = q := ⟨_, rfl⟩
   rw [hS] at CB
   subst hoo
   have HS : Hid (S.length = 32 ∧ u8s (flatK ((oss.map bsK).take k)) ++ u8s S = u8s (flatK ((oss.map bsK).take (k + 1))) ∧ wr.rangeAt b (o + k * 32) (u8s O) ∧ O.length = 32) := ⟨by rw [← hS]; exact prodL_length _ _, by rw [← List.map_take, ← List.map_take, hT, List.map_append, ← hS, flatK_snoc]; rfl, rangeAt_below hrg hbel hb, g1⟩
   have HB : Hid (wr.ownsRow w.heap.size 23 32 u3 k (u8s (flatK ((oss.map bsK).take k))) ∧ Below w.heap.size w wr) := ⟨hown, hbel⟩
   have i1 : (0 : Int) ≤ (k : Int) := by omega
   have i2 : (k : Int) < (on : Int) := by omega
   clear hb hrg g1 y1 hl hT hO hS hown hbel
   go_wp2_with (first | (refine wpList_load_mid rfl 23 (.tmp 10) rfl b (o + k * 32) rfl (u8s O) _ HS.out.2.2.1 Tryz.underlying23 rfl (sizeU O HS.out.2.2.2) ?_) | (refine wpList_alloc_new rfl 23 rfl 32 _ zeroKey ?_; intro w1 b1 s1 l1) | (refine wpList_store_blk rfl 23 23 (.tmp 5) _ rfl _ rfl _ (u8s O) rfl b1 (lenU _ _ HS.out.2.2.2 len0) (sizeU O HS.out.2.2.2) (u8s_one _) ?_; intro w6 b6 s6 k6; have B6 : Below wr.heap.size wr w6 := below_kept l1 k6 (by omega) (fun j hj => by omega)) | (refine wpList_load_blk rfl 23 (.tmp 5) rfl _ rfl (u8s O) _ b6 Tryz.underlying23 rfl (sizeU O HS.out.2.2.2) ?_) | (go_at_call 39; refine (CB _).mono ?_; rintro e w2 ⟨rfl, l2⟩) | (refine wpList_keys1 rfl (.tmp 14) rfl S HS.out.1 rfl ?_; intro w3 b3 s3 l3; have B3 : Below wr.heap.size wr w3 := below_chain (below_chain B6 l2 B6.size) l3 (by have := B6.size; have := l2.size; omega)) | (at_builtin; refine wpList_append_own _ rfl _ _ 31 rfl w.heap.size 23 i0 _ 32 32 Tryz.underlying31 HI.out.1 HI.out.2.1 HI.out.2.2.1 HI.out.2.2.2 rfl (by decide) _ k _ rfl (ownsRow_below HB.out.1 B3) ⟨w2.heap.size, 0, none⟩ 1 1 (u8s S) rfl (by rw [u8s_length, HS.out.1]) (fun j u hu => by rw [add_mid, Nat.zero_add]; exact (b3.cell j).trans hu) (u8s_one _) (by unfold maxLen; omega) (by omega) (by have := B3.size; omega) ?_; intro v' w4 ho4 hg4 _))
   have R : Hid (w4.ownsRow w.heap.size 23 32 v' (k + 1) (u8s (flatK ((oss.map bsK).take (k + 1)))) ∧ Below w.heap.size w w4) := by
    rw [HS.out.2.1] at ho4
    have q := B3.size
    exact ⟨ho4, (below_chain HB.out.2 B3 hwr).grown hg4 (by omega) (fun j hj => ((ownsRow_below HB.out.1 B3).lt j hj).1)⟩
   clear ho4 hg4 b3 s3 l3 l2 B3 CB b1 s1 l1 b6 s6 k6 B6
   go_wp2
   go_roundw
   case rel => exact ⟨k + 1, by omega, by go_num, R.out.1, R.out.2⟩
   case measure => simp [intOf] <;> omega
  ·obtain rfl : k = on := by omega
   obtain ⟨vo, vc, rfl, hKS, hvc⟩ := keys_own hown (by rw [List.length_take, List.length_map, HX.out.len]; omega) (fun q hq => bsK_good oss q (List.mem_of_mem_take hq))
   rw [List.take_of_length_le (by rw [List.length_map, HX.out.len]; exact Nat.le_refl _)] at hKS
   have HE : Hid (KeysS wr vo k (oss.map bsK) ∧ Below w.heap.size w wr) := ⟨hKS, hbel⟩
   have j0 : ¬ ((k : Int) < (k : Int)) := by omega
   clear hKS hbel hown hvc
   go_wp2
   go_ret
   exact ⟨vo, ⟨vc, rfl⟩, HE.out⟩
theorem tsame_yes (ao bo : Option Addr) (n c d : Nat) (zs : List Int) (w : World) (hx : Seen w ao n zs) (hy : Seen w bo n zs) :
  Calls Tryz.prog 44 #[.slice ao n c, .slice bo n d] w fun e w' => e = .returned (.bool true) ∧ ∃ q, w' = w.drewN q := by
 have t1 := hx.top
 go_enter Tryz.func44, Tryz.ntmps44
 go_wp2
 go_loopw [13] (fun i wr => ∃ k : Nat, k ≤ n ∧ i = .int .i64 k ∧ ∃ q, wr = w.drewN q) (fun i _ => n - (intOf i).toNat)
 case atStart => exact ⟨0, Nat.zero_le _, rfl, 0, rfl⟩
 case round =>
  obtain ⟨k, hk, rfl, q, rfl⟩ := hrel
  by_cases hlt : k < n
  ·obtain ⟨b, o, rfl, hb, hc⟩ := hx.cells (by omega)
   obtain ⟨b2, o2, rfl, hb2, hc2⟩ := hy.cells (by omega)
   have c1 : (w.drewN q).cell? ⟨b, o + k, none⟩ = some (.int .u8 (zs.getD k 0)) := hc k hlt
   have c2 : (w.drewN q).cell? ⟨b2, o2 + k, none⟩ = some (.int .u8 (zs.getD k 0)) := hc2 k hlt
   obtain ⟨Z, hZ⟩ : ∃ Z, zs.getD k 0 = Z := ⟨_, rfl⟩
   rw [hZ] at c1 c2
   obtain ⟨wr, hwr⟩ : ∃ wr, w.drewN q = wr := ⟨_, rfl⟩
   rw [hwr] at c1 c2 ⊢
   have HW : Hid (w.drewN q = wr) := hwr
   have i1 : (0 : Int) ≤ (k : Int) := by omega
   have i2 : (k : Int) < (n : Int) := by omega
   clear hZ hc hc2 hx hy hwr
   go_wp2
   go_quiet (fail)
   go_wp2
   refine ⟨⟨k + 1, by omega, by go_num, q + nq, ?_⟩, by simp [intOf]; omega⟩
   rw [← HW.out, World.drewN_drewN]
  ·obtain rfl : k = n := by omega
   have i2 : ¬ ((k : Int) < (k : Int)) := by omega
   clear hx hy
   go_wp2
   go_ret
   exact ⟨rfl, q, rfl⟩
theorem slk_h (ao : Option Addr) (n c h : Nat) (hh : h ≤ c) (w : World) : (Instr.sliceAt 31 (.slice ao n c) none (some (.int .i64 h)) none).run Tryz.prog w = .ok (.slice (subA ao 0 c) h c) w := by
 rw [run_sliceAt_slice w 31 _ _ _ _ Tryz.underlying31, run_slice_h w 31 ao n c Tryz.underlying31 .i64 h (by omega) (by omega)]
 rw [show Tryz.prog.elem 31 = 23 by kernel_rfl]
 have hs : (sizeOf 23).run Tryz.prog w = .ok 32 w := by
  have h := ksizeKey
  cases hq : Tryz.prog.info? 23 with
  | none => simp [hq] at h
  | some i => simp [hq] at h; simp [sizeOf, typeInfo, hq, h]
 simp [hs, Result.andThen, sliced, subA]
theorem bsK0 (w : World) : (Instr.buildSlice 31 0 #[]).run Tryz.prog w = .ok (.slice (some ⟨w.heap.size, 0, none⟩) 0 0) (w.alloc (.cells #[] 23)) := by kernel_rfl
end Go.Proofs.YthlbjkfjkggdoaaGreatDoor
namespace Go.Proofs.YthlbjkfjkggdoaaGreatDoor
open Go.RowKit
set_option linter.unusedVariables false
set_option linter.unusedSimpArgs false
def isK (n : Nat) (kss : List (List Int)) (v : Value) (w : World) : Prop := ∃ ao c, v = .slice ao n c ∧ KeysS w ao n kss
theorem isK_later (n : Nat) (kss : List (List Int)) : ∀ v w w', Below w.heap.size w w' → isK n kss v w → isK n kss v w' := fun _ _ _ hb ⟨a, c, h1, h2⟩ => ⟨a, c, h1, h2.later hb⟩
def isE0 (v : Value) (w : World) : Prop := ∃ g, v = .slice (some ⟨g, 0, none⟩) 0 0
theorem isE0_later : ∀ v w w', Below w.heap.size w w' → isE0 v w → isE0 v w' := fun _ _ _ _ h => h
def isWr (n LB : Nat) (zs : List Int) (kss : List (List Int)) (v : Value) (w : World) : Prop := ∃ qo qc G, v = .tuple #[.slice qo LB qc, .slice (some ⟨G, 0, none⟩) n n, .int .i64 0] ∧ Seen w qo LB zs ∧ LB ≤ qc ∧ KeysS w (some ⟨G, 0, none⟩) n kss
theorem isWr_later (n LB : Nat) (zs : List Int) (kss : List (List Int)) : ∀ v w w', Below w.heap.size w w' → isWr n LB zs kss v w → isWr n LB zs kss v w' := fun _ _ _ hb ⟨a, c, G, h1, h2, h3, h4⟩ => ⟨a, c, G, h1, h2.later hb (Nat.le_refl _), h3, h4.later hb⟩
theorem KeysS.take {w : World} {ao : Option Addr} {n m : Nat} {kss : List (List Int)} (h : KeysS w ao n kss) (hm : m ≤ n) : KeysS w ao m (kss.take m) := by
 have e : ∀ i, i < m → (kss.take m).getD i [] = kss.getD i [] := fun i hi => by simp [List.getD, List.getElem?_take, hi]
 refine ⟨by rw [List.length_take, h.len]; omega, fun i hi => ?_, fun i hi => ?_⟩
 ·rw [e i hi]; exact h.good i (by omega)
 ·rw [e i hi]; exact h.cells i (by omega)
theorem KeysS.flat {w : World} {b o n : Nat} {kss : List (List Int)} (h : KeysS w (some ⟨b, o, none⟩) n kss) : ∀ j u, (u8s (flatK kss))[j]? = some u → w.cell? ((⟨b, o, none⟩ : Addr).add j) = some u := by
 intro j u hu
 have hg : ∀ k ∈ kss, k.length = 32 := fun k hk => by
  obtain ⟨i, hi, rfl⟩ := List.mem_iff_getElem.1 hk
  have := (h.good i (by rw [← h.len]; exact hi)).1
  simpa [List.getD, hi] using this
 have hj : j < 32 * n := by
  have := (List.getElem?_eq_some_iff.1 hu).1
  rw [u8s_length, flatK_length _ hg, h.len] at this
  exact this
 have hi : j / 32 < n := by omega
 obtain ⟨xs, zs, e, hx⟩ := flatK_at kss hg (j / 32) (by rw [h.len]; exact hi)
 obtain ⟨b', o', e', hb, hr⟩ := h.cells (j / 32) hi
 simp only [Option.some.injEq, Addr.mk.injEq, and_true] at e'
 obtain ⟨rfl, rfl⟩ := e'
 have hl := (h.good (j / 32) hi).1
 have hu2 : (u8s (kss.getD (j / 32) []))[j % 32]? = some u := by
  have e2 : (u8s (flatK kss))[xs.length + j % 32]? = some u := by rw [hx, show j / 32 * 32 + j % 32 = j by omega]; exact hu
  rw [e] at e2
  simp only [u8s, List.map_append] at e2
  rw [List.getElem?_append_right (by simp), List.length_map, Nat.add_sub_cancel_left, List.getElem?_append_left (by rw [List.length_map, hl]; omega)] at e2
  exact e2
 have q := hr (j % 32) u hu2
 rw [add_mid]
 rw [show o + j / 32 * 32 + j % 32 = o + j by omega] at q
 exact q
theorem Blk.grown {w w' : World} {g : Nat} {t : TypeId} {vs : List Value} {ob : Option Nat} (h : Blk w g t vs) (hg : w.grownBy w' ob) (hne : ob ≠ some g) : Blk w' g t vs := h.block (hg.block g h.lt (fun e => hne e.symm))
theorem isO_grown {B n : Nat} {zs : List Int} {v : Value} {w w' : World} {ob : Option Nat} (h : isO B n zs v w) (hg : w.grownBy w' ob) (hne : ∀ k, B ≤ k → ob ≠ some k) : isO B n zs v w' := by
 refine ⟨h.1, ?_⟩
 rcases h.2 with h0 | ⟨q, cap, cur, rfl, hB, hh, r⟩
 ·exact .inl h0
 ·exact .inr ⟨q, cap, cur, rfl, hB, by rw [hg.block q (Array.getElem?_eq_some_iff.1 hh).1 (fun e => hne q hB e.symm)]; exact hh, r⟩
theorem Does.appK {base : Nat} {ρ : Operand → Value} {o : Oper} {w : World} (s x : Operand) (ho : o.op = .call { callee := .builtin .append, args := #[s, x], argTypes := #[31, 31] }) (g : Nat) (hs : ρ s = .slice (some ⟨g, 0, none⟩) 0 0) (b off n c : Nat) (hx : ρ x = .slice (some ⟨b, off, none⟩) n c) (kss : List (List Int)) (hk : KeysS w (some ⟨b, off, none⟩) n kss) (hn : 1 ≤ n ∧ n ≤ 8) :
  Does base (.any (isK n kss) (isK_later _ _)) ρ o w := by
 obtain ⟨i0, hi0, hz0, hz1, hz2⟩ := info_parts info_Key
 have hg : ∀ k ∈ kss, k.length = 32 ∧ Bytes k := fun k hk' => by
  obtain ⟨i, hi, rfl⟩ := List.mem_iff_getElem.1 hk'
  have := hk.good i (by rw [← hk.len]; exact hi)
  simpa [List.getD, hi] using this
 have hlen : (u8s (flatK kss)).length = n * 32 := by rw [u8s_length, flatK_length _ (fun k h => (hg k h).1), hk.len]; omega
 have hcap : Builtin.nextslicecap (0 + n) 0 * i0.bytes ≤ 281474976710656 := by
  rw [hz2]
  have h : Builtin.nextslicecap (0 + n) 0 ≤ 16 := by
   rcases (by omega : n = 1 ∨ n = 2 ∨ n = 3 ∨ n = 4 ∨ n = 5 ∨ n = 6 ∨ n = 7 ∨ n = 8) with rfl | rfl | rfl | rfl | rfl | rfl | rfl | rfl <;> decide
  omega
 have hgr := run_append_grow (P := Tryz.prog) w 31 o.type 23 i0 _ Tryz.underlying31 hi0 hz0 ⟨g, 0, none⟩ 0 0 [] (by simp) (fun j v h => by simp at h) ⟨b, off, none⟩ n c (u8s (flatK kss)) (by rw [hz1]; exact hlen) hk.flat (by omega) (by omega) hcap
 rw [Nat.zero_add] at hgr
 have hblk : (w.drew.alloc (.cells ((#[] : Array Value) ++ (u8s (flatK kss)).toArray ++ Builtin.zeroCells (Value.agg (u8s (zer 32)).toArray).cells (grownCap w n 0 23 - n)) 23)).heap[w.heap.size]? = some (.cells ((#[] : Array Value) ++ (u8s (flatK kss)).toArray ++ Builtin.zeroCells (Value.agg (u8s (zer 32)).toArray).cells (grownCap w n 0 23 - n)) 23 (0, 0)) := heap_alloc_new w.drew _
 have hB : Below w.heap.size w (w.drew.alloc (.cells ((#[] : Array Value) ++ (u8s (flatK kss)).toArray ++ Builtin.zeroCells (Value.agg (u8s (zer 32)).toArray).cells (grownCap w n 0 23 - n)) 23)) := below_chain (below_dn (Below.refl _ _) 1) ((Below.refl _ _).alloc (Nat.le_refl _) _) (Nat.le_refl _)
 have hgr' : (Builtin.append_ #[31, 31] o.type #[.slice (some ⟨g, 0, none⟩) 0 0, .slice (some ⟨b, off, none⟩) n c]).run Tryz.prog w = .ok (.slice (some ⟨w.heap.size, 0, none⟩) n (grownCap w n 0 23)) (w.drew.alloc (.cells ((#[] : Array Value) ++ (u8s (flatK kss)).toArray ++ Builtin.zeroCells (Value.agg (u8s (zer 32)).toArray).cells (grownCap w n 0 23 - n)) 23)) := hgr
 clear hgr
 generalize w.drew.alloc (.cells ((#[] : Array Value) ++ (u8s (flatK kss)).toArray ++ Builtin.zeroCells (Value.agg (u8s (zer 32)).toArray).cells (grownCap w n 0 23 - n)) 23) = wz at hgr' hblk hB
 refine Does.run (.slice (some ⟨w.heap.size, 0, none⟩) n (grownCap w n 0 23)) (w' := wz) ?_ ⟨_, _, rfl, ?_⟩ hB
 ·unfold execOp
  simp only [ho, resolve, invoke, builtin, Sem.run_bind, Sem.run_pure, Result.andThen_ok, List.map_toArray, List.map_cons, List.map_nil, hs, hx, hgr']
 ·refine ⟨hk.len, hk.good, fun i hi => ⟨w.heap.size, 0, rfl, (Array.getElem?_eq_some_iff.1 hblk).1, ?_⟩⟩
  obtain ⟨xs, zs, e, hx'⟩ := flatK_at kss (fun k h => (hg k h).1) i (by rw [hk.len]; exact hi)
  intro j u hu
  rw [cell_of_row _ _ _ _ _ _ hblk]
  have hj : j < (kss.getD i []).length := by
   have := (List.getElem?_eq_some_iff.1 hu).1
   rwa [u8s_length] at this
  have hl := (hk.good i hi).1
  have hfl : (u8s (flatK kss))[i * 32 + j]? = some u := by
   rw [e]
   simp only [u8s, List.map_append]
   rw [List.getElem?_append_right (by simp; omega), List.length_map, hx', Nat.add_sub_cancel_left, List.getElem?_append_left (by simpa using hj)]
   exact hu
  have hlt : i * 32 + j < (u8s (flatK kss)).length := (List.getElem?_eq_some_iff.1 hfl).1
  rw [Nat.zero_add, Array.empty_append, Array.getElem?_append_left (by simpa using hlt)]
  simpa using hfl
theorem top_any (oss pss : List (List Int)) (rd : Int) (oo po io to : Option Addr) (on oc pn pc im ic tm tc : Nat) (izs tzs : List Int) (hr : 0 ≤ rd ∧ rd < 18446744073709551616) (w : World) (ho : KeysS w oo on oss) (hon : on ≤ 140737488355328) (hp : KeysS w po pn pss) (hpn : pn ≤ 140737488355328) (hpc : pn ≤ pc) (hi : Seen w io im izs) (hic : io = none → ic = 0) (ht : Seen w to tm tzs) (htc : to = none → tc = 0) (hK : KTab w) :
  Calls Tryz.prog 10 #[.agg #[.slice oo on oc, .slice po pn pc, .int .u64 rd, .slice io im ic, .slice to tm tc]] w fun e w' => e = .returned (.bool true) ∧ Below w.heap.size w w' := by
 have HX : Hid (KeysS w oo on oss ∧ KeysS w po pn pss ∧ Seen w io im izs ∧ (io = none → ic = 0) ∧ Seen w to tm tzs ∧ (to = none → tc = 0) ∧ KTab w ∧ pn ≤ pc) := ⟨ho, hp, hi, hic, ht, htc, hK, hpc⟩
 have HR : Hid (0 ≤ rd ∧ rd < 18446744073709551616) := hr
 have n1 := hon
 have n2 := hpn
 have n3 := hi.top
 have n4 := ht.top
 obtain ⟨i0, hi0, hz0, hz1, hz2⟩ := info_parts info_Key
 have HI : Hid (Tryz.prog.info? 23 = some i0 ∧ i0.zero = some (.agg (u8s (zer 32)).toArray) ∧ i0.size = 32 ∧ i0.bytes = 32) := ⟨hi0, hz0, hz1, hz2⟩
 clear ho hon hp hpn hpc hi hic ht htc hK hr hi0 hz0 hz1 hz2
 go_enter Tryz.func10, Tryz.ntmps10
 go_wp2_with (first | (refine wpList_box_new rfl 76 (.tmp 0) rfl [.slice oo on oc, .slice po pn pc, .int .u64 rd, .slice io im ic, .slice to tm tc] rfl ?_; intro w1 b1 s1 l1))
 have HW : Hid (Below w.heap.size w w1 ∧ Blk w1 w.heap.size 76 [.slice oo on oc, .slice po pn pc, .int .u64 rd, .slice io im ic, .slice to tm tc]) := ⟨l1, b1⟩
 clear b1 s1 l1
 refine wp_region_noPanic (wp_region_held_drew (S := fun W => Blk W w.heap.size 76 [.slice oo on oc, .slice po pn pc, .int .u64 rd, .slice io im ic, .slice to tm tc]) (by kernel_rfl) (HW.out.2.drew) (fun hH => ?_))
 refine hTake 0 (some 21) (.pointer (some ⟨w.heap.size, 0, none⟩)) rfl rfl (by kernel_rfl) (by kernel_rfl) (by kernel_rfl) (fun _ _ _ h => h) (by rfl) (fun W' hS' => by go_simp) hH ?_
 simp only [Act.put, sA, sB, sC]
 refine hTake 1 (some 22) (.slice oo on oc) rfl rfl (by kernel_rfl) (by kernel_rfl) (by kernel_rfl) (fun _ _ _ h => h) (by rfl) (fun W' hS' => by have cx : W'.cell? ⟨w.heap.size, 0, none⟩ = some (.slice oo on oc) := hS'.cell 0; go_simp) hH ?_
 simp only [Act.put, sA, sB, sC]
 refine hTake 2 (some 23) (.pointer (some ⟨w.heap.size, 2, none⟩)) rfl rfl (by kernel_rfl) (by kernel_rfl) (by kernel_rfl) (fun _ _ _ h => h) (by rfl) (fun W' hS' => by go_simp) hH ?_
 simp only [Act.put, sA, sB, sC]
 refine hTake 3 (some 24) (.int .u64 rd) rfl rfl (by kernel_rfl) (by kernel_rfl) (by kernel_rfl) (fun _ _ _ h => h) (by rfl) (fun W' hS' => by have cx : W'.cell? ⟨w.heap.size, 2, none⟩ = some (.int .u64 rd) := hS'.cell 2; go_simp) hH ?_
 simp only [Act.put, sA, sB, sC]
 refine hTake 4 (some 25) (.pointer (some ⟨w.heap.size, 3, none⟩)) rfl rfl (by kernel_rfl) (by kernel_rfl) (by kernel_rfl) (fun _ _ _ h => h) (by rfl) (fun W' hS' => by go_simp) hH ?_
 simp only [Act.put, sA, sB, sC]
 refine hTake 5 (some 26) (.slice io im ic) rfl rfl (by kernel_rfl) (by kernel_rfl) (by kernel_rfl) (fun _ _ _ h => h) (by rfl) (fun W' hS' => by have cx : W'.cell? ⟨w.heap.size, 3, none⟩ = some (.slice io im ic) := hS'.cell 3; go_simp) hH ?_
 simp only [Act.put, sA, sB, sC]
 refine hTake 6 (some 27) (.pointer (some ⟨w.heap.size, 4, none⟩)) rfl rfl (by kernel_rfl) (by kernel_rfl) (by kernel_rfl) (fun _ _ _ h => h) (by rfl) (fun W' hS' => by go_simp) hH ?_
 simp only [Act.put, sA, sB, sC]
 refine hTake 7 (some 28) (.slice to tm tc) rfl rfl (by kernel_rfl) (by kernel_rfl) (by kernel_rfl) (fun _ _ _ h => h) (by rfl) (fun W' hS' => by have cx : W'.cell? ⟨w.heap.size, 4, none⟩ = some (.slice to tm tc) := hS'.cell 4; go_simp) hH ?_
 simp only [Act.put, sA, sB, sC]
 refine hTake 8 (some 3) (.slice oo on oc) rfl rfl (by kernel_rfl) (by kernel_rfl) (by kernel_rfl) (fun _ _ _ h => h) (by rfl) (fun W' hS' => by go_simp) hH ?_
 simp only [Act.put, sA, sB, sC]
 refine hTake 9 (some 4) (.int .u64 rd) rfl rfl (by kernel_rfl) (by kernel_rfl) (by kernel_rfl) (fun _ _ _ h => h) (by rfl) (fun W' hS' => by go_simp) hH ?_
 simp only [Act.put, sA, sB, sC]
 refine hTake 10 (some 5) (.slice io im ic) rfl rfl (by kernel_rfl) (by kernel_rfl) (by kernel_rfl) (fun _ _ _ h => h) (by rfl) (fun W' hS' => by go_simp) hH ?_
 simp only [Act.put, sA, sB, sC]
 refine hTake 11 (some 6) (.slice to tm tc) rfl rfl (by kernel_rfl) (by kernel_rfl) (by kernel_rfl) (fun _ _ _ h => h) (by rfl) (fun W' hS' => by go_simp) hH ?_
 simp only [Act.put, sA, sB, sC]
 refine wpAnyH_done (by kernel_rfl) (NoPanic.normal ?_) _
 clear hH
 have HD : Hid (Below w.heap.size w w1.drew ∧ Blk w1.drew w.heap.size 76 [.slice oo on oc, .slice po pn pc, .int .u64 rd, .slice io im ic, .slice to tm tc]) := ⟨below_dn HW.out.1 1, HW.out.2.drew⟩
 generalize w1.drew = wd at HD ⊢
 clear HW
 have c1 : wd.cell? ⟨w.heap.size, 1, none⟩ = some (.slice po pn pc) := HD.out.2.cell 1
 by_cases hP : 1 ≤ on ∧ on ≤ 8 ∧ on ≤ pn ∧ im + on * 48 ≤ 1048576 ∧ tm + on * 16 ≤ 1048576
 ·obtain ⟨h1, h8, hpn', hmi, hmt⟩ := hP
  have a1 : ¬ (on : Int) < 1 := by omega
  have a2 : ¬ (8 : Int) < (on : Int) := by omega
  have a3 : ¬ (pn : Int) < (on : Int) := by omega
  have e1 : IntKind.i64.wrap ((on : Int) * 48) = (on : Int) * 48 := by simp only [IntKind.wrap, IntKind.bits, IntKind.signed]; simp; omega
  have e2 : IntKind.i64.wrap ((on : Int) * 16) = (on : Int) * 16 := by simp only [IntKind.wrap, IntKind.bits, IntKind.signed]; simp; omega
  obtain ⟨LB, hLB⟩ : ∃ q, im + 48 * on = q := ⟨_, rfl⟩
  have e3 : IntKind.i64.wrap ((im : Int) + (on : Int) * 48) = (LB : Int) := by rw [← hLB]; simp only [IntKind.wrap, IntKind.bits, IntKind.signed]; simp; omega
  have e5 : (im : Int) + (on : Int) * 48 = (LB : Int) := by omega
  have e4 : IntKind.i64.wrap ((tm : Int) + (on : Int) * 16) = (tm : Int) + (on : Int) * 16 := by simp only [IntKind.wrap, IntKind.bits, IntKind.signed]; simp; omega
  have a4 : ¬ (1048576 : Int) < (LB : Int) := by omega
  have a5 : ¬ (1048576 : Int) < (tm : Int) + (on : Int) * 16 := by omega
  obtain ⟨pb, pf, hpo, hpbl, _⟩ := HX.out.2.1.cells 0 (by omega)
  have hsl : ∀ W, (Instr.sliceAt 31 (.slice po pn pc) none (some (.int .i64 (on : Int))) none).run Tryz.prog W = .ok (.slice (some ⟨pb, pf, none⟩) on pc) W := fun W => by
   have q := slk_h po pn pc on (by have := HX.out.2.2.2.2.2.2.2; omega) W
   rw [hpo, show subA (some ⟨pb, pf, none⟩) 0 pc = some ⟨pb, pf, none⟩ by unfold subA; split <;> simp [add_mid]] at q
   rw [hpo]
   exact q
  have hps := HX.out.2.1.take hpn'
  rw [hpo] at hps
  obtain ⟨ps, hpse⟩ : ∃ q, pss.take on = q := ⟨_, rfl⟩
  rw [hpse] at hps
  have HP : Hid (KeysS w (some ⟨pb, pf, none⟩) on ps ∧ im + 48 * on = LB) := ⟨hps, hLB⟩
  clear hps hpse hLB hpbl hpo
  go_wp2_with fail
  refine region_invP 13 ((.val (.slice oo on oc)) :: (.any (isK on (oss.map bsK)) (isK_later _ _)) :: (.any (isE0) (isE0_later)) :: (.val (.pointer (some ⟨w.heap.size, 1, none⟩))) :: (.val (.slice po pn pc)) :: (.val (.int .i64 (on : Int))) :: (.val (.slice (some ⟨pb, pf, none⟩) on pc)) :: (.any (isK on ps) (isK_later _ _)) :: (.val (.int .u64 rd)) :: (.val (.slice io im ic)) :: (.any (ySl im izs) (ySl_later _ _)) :: (.any (isWr on LB (wrapL rd ((oss.map bsK).zip ps) izs) (repsK rd ((oss.map bsK).zip ps))) (isWr_later _ _ _ _)) :: (.any (isWr on LB (wrapL rd ((oss.map bsK).zip ps) izs) (repsK rd ((oss.map bsK).zip ps))) (isWr_later _ _ _ _)) :: []) (by kernel_rfl) (by kernel_rfl) (by kernel_rfl) [] ⟨.inl rfl, .inl rfl, .inl rfl, .inl rfl, .inl rfl, .inl rfl, .inl rfl, .inl rfl, .inl rfl, .inl rfl, .inl rfl, .inl rfl, .inl rfl, trivial⟩ (by kernel_rfl) ?_ ?_
  ·refine Steps'.cons ?_ (Steps'.cons ?_ (Steps'.cons ?_ (Steps'.cons ?_ (Steps'.cons ?_ (Steps'.cons ?_ (Steps'.cons ?_ (Steps'.cons ?_ (Steps'.cons ?_ (Steps'.cons ?_ (Steps'.cons ?_ (Steps'.cons ?_ (Steps'.cons ?_ (Steps'.one _ _ _ _ _ _ _)))))))))))))
   ·intro ax wx hb hs hd
    have h3 : ax.tmps.getD 3 undef = (.slice oo on oc) := hs 3 (by kernel_rfl)
    exact Does.value _ (by clear hs hd; go_simp) rfl
   ·intro ax wx hb hs hd
    have h61 := vOf (hd 0 61 rfl (by kernel_rfl) (by decide))
    refine Does.call 42 #[.slice oo on oc] (by clear hs hd; go_simp) ?_
    refine (publics_any oss oo on oc (by omega) wx (HX.out.1.later (below_chain HD.out.1 hb HD.out.1.size))).mono ?_
    rintro z w' ⟨vo, vc, rfl, hk, l⟩
    exact ⟨_, rfl, ⟨vo, vc, rfl, hk⟩, l⟩
   ·intro ax wx hb hs hd
    refine Does.run (.slice (some ⟨wx.heap.size, 0, none⟩) 0 0) (w' := wx.alloc (.cells #[] 23)) ?_ ⟨_, rfl⟩ ((Below.refl _ _).alloc (Nat.le_refl _) _)
    have hq := bsK0 wx
    unfold execOp
    simp only [List.map_toArray, List.map_nil, Sem.run_bind, hq, Sem.run_pure, Result.andThen_ok]
   ·intro ax wx hb hs hd
    have h1 : ax.tmps.getD 1 undef = (.pointer (some ⟨w.heap.size, 0, none⟩)) := hs 1 (by kernel_rfl)
    exact Does.value _ (by clear hs hd; go_simp) rfl
   ·intro ax wx hb hs hd
    have h64 := vOf (hd 3 64 rfl (by kernel_rfl) (by decide))
    have cx : wx.cell? ⟨w.heap.size, 1, none⟩ = some (.slice po pn pc) := (HD.out.2.later hb HD.out.2.lt).cell 1
    exact Does.value _ (by clear hs hd; go_simp) rfl
   ·intro ax wx hb hs hd
    have h7 : ax.tmps.getD 7 undef = (.int .i64 (on : Int)) := hs 7 (by kernel_rfl)
    exact Does.value _ (by clear hs hd; go_simp) rfl
   ·intro ax wx hb hs hd
    have h65 := vOf (hd 4 65 rfl (by kernel_rfl) (by decide))
    have h66 := vOf (hd 5 66 rfl (by kernel_rfl) (by decide))
    exact Does.value _ (by clear hs hd; go_simp) rfl
   ·intro ax wx hb hs hd
    obtain ⟨g63, h63⟩ : isE0 (ax.tmps.getD 63 undef) wx := hd 2 63 rfl (by kernel_rfl) (by decide)
    have h67 := vOf (hd 6 67 rfl (by kernel_rfl) (by decide))
    exact Does.appK (.tmp 63) (.tmp 67) rfl g63 h63 pb pf on pc h67 ps (HP.out.1.later (below_chain HD.out.1 hb HD.out.1.size)) ⟨h1, h8⟩
   ·intro ax wx hb hs hd
    have h4 : ax.tmps.getD 4 undef = (.int .u64 rd) := hs 4 (by kernel_rfl)
    exact Does.value _ (by clear hs hd; go_simp) rfl
   ·intro ax wx hb hs hd
    have h5 : ax.tmps.getD 5 undef = (.slice io im ic) := hs 5 (by kernel_rfl)
    exact Does.value _ (by clear hs hd; go_simp) rfl
   ·intro ax wx hb hs hd
    have h70 := vOf (hd 9 70 rfl (by kernel_rfl) (by decide))
    refine Does.call 43 #[.slice io im ic] (by clear hs hd; go_simp) ?_
    refine (tcopied_any io im ic izs wx (HX.out.2.2.1.later (below_chain HD.out.1 hb HD.out.1.size) (Nat.le_refl _)) HX.out.2.2.2.1).mono ?_
    rintro z w' ⟨r, rfl, ho, l⟩
    exact ⟨_, rfl, ySl_own HX.out.2.2.1.len HX.out.2.2.1.bytes n3 ho, l⟩
   ·intro ax wx hb hs hd
    obtain ⟨a62, c62, h62, k62⟩ : isK on (oss.map bsK) (ax.tmps.getD 62 undef) wx := hd 1 62 rfl (by kernel_rfl) (by decide)
    obtain ⟨a68, c68, h68, k68⟩ : isK on ps (ax.tmps.getD 68 undef) wx := hd 7 68 rfl (by kernel_rfl) (by decide)
    have h69 := vOf (hd 8 69 rfl (by kernel_rfl) (by decide))
    obtain ⟨a71, c71, h71, s71, l71⟩ : ySl im izs (ax.tmps.getD 71 undef) wx := hd 10 71 rfl (by kernel_rfl) (by decide)
    refine Does.call 17 #[.slice a62 on c62, .slice a68 on c68, .int .u64 rd, .slice a71 im c71] (by clear hs hd; go_simp) ?_
    have CW := wrap_any (oss.map bsK) ps rd a62 a68 on c62 c68 a71 im c71 izs ⟨h1, h8⟩ HR.out (by omega) (fun i hi => by
     obtain ⟨x1, x2⟩ := HX.out.1.good i hi
     obtain ⟨x3, x4⟩ := HP.out.1.good i hi
     have e : (oss.map bsK).getD i [] = prodL (oss.getD i []) nineL := by
      have hl : i < oss.length := by rw [HX.out.1.len]; exact hi
      simp [List.getD, hl, bsK]
     rw [e]
     exact prod_strong _ _ x3 x4 x1 x2) wx k62 k68 s71 l71 (HX.out.2.2.2.2.2.2.1.below (below_chain HD.out.1 hb HD.out.1.size) HX.out.2.2.2.2.2.2.1.lt)
    rw [HP.out.2] at CW
    refine CW.mono ?_
    rintro z w' ⟨qo, qc, G, rfl, ho, hG, bG, l⟩
    obtain ⟨xo, xc, hxe, sx, hxc⟩ := ySl_own (by rw [wrapL_length, List.length_zip, List.length_map, HX.out.1.len, HP.out.1.len, Nat.min_self, HX.out.2.2.1.len]; have := HP.out.2; omega) (wrapL_bytes _ _ HX.out.2.2.1.bytes) (by omega) ho
    rw [hxe]
    exact ⟨_, rfl, ⟨xo, xc, G, rfl, sx, hxc, keys_blk (n := on) (kss := repsK rd ((oss.map bsK).zip ps)) bG (by rw [repsK, List.length_map, List.length_zip, List.length_map, HX.out.1.len, HP.out.1.len, Nat.min_self]) (repsK_good _ _)⟩, l⟩
   ·intro ax wx hb hs hd
    have hq : isWr on LB (wrapL rd ((oss.map bsK).zip ps) izs) (repsK rd ((oss.map bsK).zip ps)) (ax.tmps.getD 72 undef) wx := hd 11 72 rfl (by kernel_rfl) (by decide)
    exact Does.value (ax.tmps.getD 72 undef) (by clear hs hd; go_simp) hq
  ·intro wx hb
   refine @EndsP.val _ _ _ _ _ _ _ _ (.slice oo on oc) rfl ?_
   refine @EndsP.any _ _ _ _ _ _ _ _ (isK on (oss.map bsK)) (isK_later _ _) rfl ?_
   intro v1 p1
   refine @EndsP.any _ _ _ _ _ _ _ _ (isE0) (isE0_later) rfl ?_
   intro v2 p2
   iterate 4 refine @EndsP.val _ _ _ _ _ _ _ _ _ rfl ?_
   refine @EndsP.any _ _ _ _ _ _ _ _ (isK on ps) (isK_later _ _) rfl ?_
   intro v7 p7
   iterate 2 refine @EndsP.val _ _ _ _ _ _ _ _ _ rfl ?_
   refine @EndsP.any _ _ _ _ _ _ _ _ (ySl im izs) (ySl_later _ _) rfl ?_
   intro v10 p10
   refine @EndsP.any _ _ _ _ _ _ _ _ (isWr on LB (wrapL rd ((oss.map bsK).zip ps) izs) (repsK rd ((oss.map bsK).zip ps))) (isWr_later _ _ _ _) rfl ?_
   intro v11 p11
   refine @EndsP.any _ _ _ _ _ _ _ _ (isWr on LB (wrapL rd ((oss.map bsK).zip ps) izs) (repsK rd ((oss.map bsK).zip ps))) (isWr_later _ _ _ _) rfl ?_
   intro v12 p12
   intro hD nf hn
   obtain ⟨qo, qc, G, rfl, hqs, hql, hqk⟩ := p12
   obtain ⟨mf, rfl⟩ : ∃ mf, nf = mf + 6 := ⟨nf - 6, by have h3 : 6 ≤ nf := hn; omega⟩
   clear hD hn
   simp only [Act.put, sA, sB, sC]
   refine take_op 13 (some 73) (.slice qo LB qc) rfl rfl (by kernel_rfl) (by kernel_rfl) (by kernel_rfl) (fun _ _ _ h => h) (by rfl) (fun W' => by go_simp) ?_
   simp only [Act.put, sA, sB, sC]
   refine take_op 14 (some 74) (.slice (some ⟨G, 0, none⟩) on on) rfl rfl (by kernel_rfl) (by kernel_rfl) (by kernel_rfl) (fun _ _ _ h => h) (by rfl) (fun W' => by go_simp) ?_
   simp only [Act.put, sA, sB, sC]
   refine take_op 15 (some 75) (.int .i64 0) rfl rfl (by kernel_rfl) (by kernel_rfl) (by kernel_rfl) (fun _ _ _ h => h) (by rfl) (fun W' => by go_simp) ?_
   simp only [Act.put, sA, sB, sC]
   refine take_op 16 (some 8) (.slice qo LB qc) rfl rfl (by kernel_rfl) (by kernel_rfl) (by kernel_rfl) (fun _ _ _ h => h) (by rfl) (fun W' => by go_simp) ?_
   simp only [Act.put, sA, sB, sC]
   refine take_op 17 (some 9) (.slice (some ⟨G, 0, none⟩) on on) rfl rfl (by kernel_rfl) (by kernel_rfl) (by kernel_rfl) (fun _ _ _ h => h) (by rfl) (fun W' => by go_simp) ?_
   simp only [Act.put, sA, sB, sC]
   refine take_op 18 (some 10) (.int .i64 0) rfl rfl (by kernel_rfl) (by kernel_rfl) (by kernel_rfl) (fun _ _ _ h => h) (by rfl) (fun W' => by go_simp) ?_
   simp only [Act.put, sA, sB, sC]
   refine wpAny_done (by kernel_rfl) (NoPanic.normal ?_) _
   have V6 : Hid (Below w.heap.size w wx ∧ Seen wx qo LB (wrapL rd ((oss.map bsK).zip ps) izs) ∧ LB ≤ qc ∧ KeysS wx (some ⟨G, 0, none⟩) on (repsK rd ((oss.map bsK).zip ps)) ∧ KTab wx ∧ im + 48 * on = LB) := ⟨(below_chain HD.out.1 hb HD.out.1.size), hqs, hql, hqk, HX.out.2.2.2.2.2.2.1.below (below_chain HD.out.1 hb HD.out.1.size) HX.out.2.2.2.2.2.2.1.lt, HP.out.2⟩
   obtain ⟨w6, rfl⟩ : ∃ q, q = wx := ⟨_, rfl⟩
   clear hqs hql hqk hb p1 p2 p7 p10 p11 c1 hsl HD
   go_wp2
   go_loopw [8, 11, 95] (fun v b i wr => ∃ j : Nat, j ≤ on ∧ i = .int .i64 j ∧ ySl (im + 48 * (on - j)) (wrapL rd (((oss.map bsK).zip ps).drop j) izs) v wr ∧ wr.ownsRow w6.heap.size 23 32 b j (u8s (flatK ((repsK rd ((oss.map bsK).zip ps)).take j))) ∧ Below w6.heap.size w6 wr) (fun _ _ i _ => on - (intOf i).toNat)
   case atStart => exact ⟨0, Nat.zero_le _, rfl, ⟨qo, qc, by rw [Nat.sub_zero, V6.out.2.2.2.2.2], by rw [Nat.sub_zero, V6.out.2.2.2.2.2]; exact V6.out.2.1, by rw [Nat.sub_zero, V6.out.2.2.2.2.2]; exact V6.out.2.2.1⟩, World.ownsRow_nil _ _ _ _, Below.refl _ _⟩
   case round =>
    obtain ⟨j, hj, rfl, hv, hbk, hbel⟩ := hrel
    obtain ⟨vo', vc', rfl, hvs, hvc⟩ := hv
    have h6s := V6.out.1.size
    have BW : Below w.heap.size w wr := below_chain V6.out.1 hbel h6s
    have hlZ : (repsK rd ((oss.map bsK).zip ps)).length = on := V6.out.2.2.2.1.len
    by_cases hlt : j < on
    ·obtain ⟨b1, o1, hoo, hb1, hr1⟩ := HX.out.1.cells j hlt
     obtain ⟨g1, y1⟩ := HX.out.1.good j hlt
     obtain ⟨g2, y2⟩ := HP.out.1.good j hlt
     have hPr := pair_at (oss.map bsK) ps on j (by rw [List.length_map, HX.out.1.len]) HP.out.1.len hlt
     have eS : (oss.map bsK).getD j [] = prodL (oss.getD j []) nineL := by
      have hl : j < oss.length := by rw [HX.out.1.len]; exact hlt
      simp [List.getD, hl, bsK]
     have hRa := repsK_at rd (oss.map bsK) ps on j (by rw [List.length_map, HX.out.1.len]) HP.out.1.len hlt
     obtain ⟨bg, og, hgo, hbg, hrg⟩ := V6.out.2.2.2.1.cells j hlt
     simp only [Option.some.injEq, Addr.mk.injEq, and_true] at hgo
     obtain ⟨hgo1, hgo2⟩ := hgo
     subst hgo1 hgo2
     have hTk : (repsK rd ((oss.map bsK).zip ps)).take (j + 1) = (repsK rd ((oss.map bsK).zip ps)).take j ++ [(repsK rd ((oss.map bsK).zip ps)).getD j []] := by
      have hl : j < (repsK rd ((oss.map bsK).zip ps)).length := by rw [hlZ]; exact hlt
      rw [List.take_succ_eq_append_getElem hl]
      simp [List.getD, hl]
     rw [hRa] at hrg hTk
     rw [eS] at hPr hrg hTk
     obtain ⟨O, hO⟩ : ∃ q, oss.getD j [] = q := ⟨_, rfl⟩
     obtain ⟨p, hp⟩ : ∃ q, ps.getD j [] = q := ⟨_, rfl⟩
     rw [hO] at hr1 g1 y1 hPr hrg hTk
     rw [hp] at g2 y2 hPr hrg hTk
     obtain ⟨T, hT⟩ : ∃ q, wrapL rd (((oss.map bsK).zip ps).drop (j + 1)) izs = q := ⟨_, rfl⟩
     have hTb : Bytes T := by rw [← hT]; exact wrapL_bytes _ _ HX.out.2.2.1.bytes
     have hA : wrapL rd (((oss.map bsK).zip ps).drop j) izs = layL rd (prodL O nineL) p T := by rw [hPr, wrapL, hT]
     have OFF := off_lay rd O p T g1 y1 g2 y2 hTb
     obtain ⟨M, hM⟩ : ∃ q, im + 48 * (on - (j + 1)) = q := ⟨_, rfl⟩
     have hLM : im + 48 * (on - j) = M + 48 := by omega
     have h66 := V6.out.2.2.2.2.2
     rw [hA, hLM] at hvs
     rw [hLM] at hvc ⊢
     have CP := fun (W : World) (hs : Seen W vo' (M + 48) (layL rd (prodL O nineL) p T)) (hk' : KTab W) => peel_any O rd vo' M vc' _ g1 y1 HR.out (by omega) W hs hvc hk'
     rw [OFF.1, OFF.2.1, OFF.2.2, mk_true] at CP
     obtain ⟨kb, hkb⟩ : ∃ q, repO rd (prodL O nineL) p = q := ⟨_, rfl⟩
     rw [hkb] at CP hrg hTk
     have hkl : kb.length = 32 := by rw [← hkb]; exact repO_length _ _ _
     have hTl : T.length = M := by rw [← hT, wrapL_length, List.length_drop, List.length_zip, List.length_map, HX.out.1.len, HP.out.1.len, Nat.min_self, HX.out.2.2.1.len, ← hM]
     have HB : Hid (Below w.heap.size w wr ∧ Below w6.heap.size w6 wr ∧ Seen wr vo' (M + 48) (layL rd (prodL O nineL) p T) ∧ KTab wr ∧ wr.rangeAt b1 (o1 + j * 32) (u8s O) ∧ wr.rangeAt G (0 + j * 32) (u8s kb) ∧ O.length = 32 ∧ T.length = M ∧ Bytes T ∧ wrapL rd (((oss.map bsK).zip ps).drop (j + 1)) izs = T ∧ im + 48 * (on - (j + 1)) = M ∧ M ≤ 1048576 ∧ wr.ownsRow w6.heap.size 23 32 u11 j (u8s (flatK ((repsK rd ((oss.map bsK).zip ps)).take j))) ∧ u8s (flatK ((repsK rd ((oss.map bsK).zip ps)).take j)) ++ u8s kb = u8s (flatK ((repsK rd ((oss.map bsK).zip ps)).take (j + 1)))) := ⟨BW, hbel, hvs, V6.out.2.2.2.2.1.below hbel V6.out.2.2.2.2.1.lt, rangeAt_below hr1 BW hb1, rangeAt_below hrg hbel hbg, g1, hTl, hTb, hT, hM, by omega, hbk, by rw [hTk, flatK_snoc]⟩
     have heq : ∀ wx, (Op.equalIn 10000 23 (.agg (u8s kb).toArray) (.agg (u8s kb).toArray)).run Tryz.prog wx = .ok true wx := equal32A 23 32 Tryz.underlying23 9998 _ hkl
     have HK : Hid (kb.length = 32) := hkl
     have i1 : (0 : Int) ≤ (j : Int) := by omega
     have i2 : (j : Int) < (on : Int) := by omega
     have hGl : G < wr.heap.size := by have := hbel.size; omega
     have hwr6 := hbel.size
     subst hoo
     clear hr1 g1 y1 g2 y2 hPr eS hRa hbg hrg hTk hO hp hT hTb hA OFF hM hLM h66 hvs hvc hkb hTl BW hbel hkl hb1 hbk hlZ
     go_wp2_with (first | (refine wpList_load_mid rfl 23 (.tmp 101) rfl b1 (o1 + j * 32) rfl (u8s O) _ HB.out.2.2.2.2.1 Tryz.underlying23 rfl (sizeU O HB.out.2.2.2.2.2.2.1) ?_) | (go_at_call 31; refine (CP _ HB.out.2.2.1 HB.out.2.2.2.1).mono ?_; rintro e w2 ⟨qo2, qc2, rfl, oK, l2⟩; have z2 : Hid (wr.heap.size ≤ w2.heap.size) := l2.size) | (refine wpList_alloc_new rfl 56 rfl 34 _ zeroPeeled ?_; intro w3 b3 s3 l3; have z3 : Hid (w3.heap.size = w2.heap.size + 1) := s3; clear s3) | (refine wpList_store_blk rfl 56 56 (.tmp 13) (.tmp 106) rfl _ rfl _ (peelC (.slice qo2 M qc2) kb 18446744073709551615) rfl b3 (by rw [peelC_length _ _ _ HK.out]; rfl) (by rw [peelC_length _ _ _ HK.out]; exact sizePeeled) (peelC_one _ _ _ _ _) ?_; intro w13 b13 s13 k13; have z13 : Hid (w13.heap.size = w3.heap.size) := s13; clear s13))
     have V : Hid (Below wr.heap.size wr w13 ∧ Blk w13 w2.heap.size 56 (peelC (.slice qo2 M qc2) kb 18446744073709551615) ∧ isO wr.heap.size M T (.slice qo2 M qc2) w13) := by
      have y2 := z2.out; have y3 := z3.out; have y13 := z13.out
      have BX : Below wr.heap.size wr w13 := below_kept (below_chain l2 l3 (by omega)) k13 (by omega) (fun i hi => by omega)
      have oK2 : isO wr.heap.size M T (.slice qo2 M qc2) w13 := isO_keptB (isO_later _ _ _ _ _ _ l3 oK) k13 (fun q hq => by have := (oK.lt q hq).2; omega)
      exact ⟨BX, b13, oK2⟩
     obtain ⟨g12, hg12⟩ : ∃ q, w2.heap.size = q := ⟨_, rfl⟩
     have hge : Hid (wr.heap.size ≤ g12) := by have := z2.out; show _ ≤ _; omega
     rw [hg12] at V ⊢
     clear oK l2 b3 l3 b13 k13 CP hg12 z2 z3 z13
     have hrgG : w13.rangeAt G (0 + j * 32) (u8s kb) := rangeAt_below HB.out.2.2.2.2.2.1 V.out.1 hGl
     refine wp_region_noPanic (wp_region_held_drew (S := fun W => Blk W g12 56 (peelC (.slice qo2 M qc2) kb 18446744073709551615) ∧ W.rangeAt G (0 + j * 32) (u8s kb)) (by kernel_rfl) ⟨V.out.2.1.drew, hrgG⟩ (fun hH => ?_))
     refine hTake 0 (some 108) (.int .i64 0) rfl rfl (by kernel_rfl) (by kernel_rfl) (by kernel_rfl) (fun _ _ _ h => h) (by rfl) (fun W' hS' => by go_simp) hH ?_
     simp only [Act.put, sA, sB, sC]
     refine hTake 1 (some 109) (.bool false) rfl rfl (by kernel_rfl) (by kernel_rfl) (by kernel_rfl) (fun _ _ _ h => h) (by rfl) (fun W' hS' => by go_simp) hH ?_
     simp only [Act.put, sA, sB, sC]
     refine hTake 2 (some 110) (.bool false) rfl rfl (by kernel_rfl) (by kernel_rfl) (by kernel_rfl) (fun _ _ _ h => h) (by rfl) (fun W' hS' => by go_simp) hH ?_
     simp only [Act.put, sA, sB, sC]
     refine hTake 3 (some 111) (.pointer (some ⟨g12, 33, none⟩)) rfl rfl (by kernel_rfl) (by kernel_rfl) (by kernel_rfl) (fun _ _ _ h => h) (by rfl) (fun W' hS' => by go_simp) hH ?_
     simp only [Act.put, sA, sB, sC]
     refine hTake 4 (some 112) (.int .u64 18446744073709551615) rfl rfl (by kernel_rfl) (by kernel_rfl) (by kernel_rfl) (fun _ _ _ h => h) (by rfl) (fun W' hS' => by have cx := (hS'.1.cell 33).trans (peelC_33 _ _ _ HK.out); go_simp) hH ?_
     simp only [Act.put, sA, sB, sC]
     refine hTake 5 (some 113) (.bool false) rfl rfl (by kernel_rfl) (by kernel_rfl) (by kernel_rfl) (fun _ _ _ h => h) (by rfl) (fun W' hS' => by go_simp) hH ?_
     simp only [Act.put, sA, sB, sC]
     refine hTake 6 (some 114) (.bool false) rfl rfl (by kernel_rfl) (by kernel_rfl) (by kernel_rfl) (fun _ _ _ h => h) (by rfl) (fun W' hS' => by go_simp) hH ?_
     simp only [Act.put, sA, sB, sC]
     refine hTake 7 (some 115) (.bool false) rfl rfl (by kernel_rfl) (by kernel_rfl) (by kernel_rfl) (fun _ _ _ h => h) (by rfl) (fun W' hS' => by go_simp) hH ?_
     simp only [Act.put, sA, sB, sC]
     refine hTake 8 (some 116) (.pointer (some ⟨g12, 1, none⟩)) rfl rfl (by kernel_rfl) (by kernel_rfl) (by kernel_rfl) (fun _ _ _ h => h) (by rfl) (fun W' hS' => by go_simp) hH ?_
     simp only [Act.put, sA, sB, sC]
     refine hLoad 9 (some 117) (u8s kb) rfl rfl (by kernel_rfl) (by kernel_rfl) (by kernel_rfl) (fun _ _ _ h => h) (by rfl) 23 (.tmp 116) rfl g12 1 rfl _ (fun _ h => peel_range h.1) Tryz.underlying23 rfl (sizeU kb HK.out) hH ?_
     simp only [Act.put, sA, sB, sC]
     refine hTake 10 (some 118) (.slice (some ⟨G, 0, none⟩) on on) rfl rfl (by kernel_rfl) (by kernel_rfl) (by kernel_rfl) (fun _ _ _ h => h) (by rfl) (fun W' hS' => by go_simp) hH ?_
     simp only [Act.put, sA, sB, sC]
     refine hTake 11 (some 119) (.int .i64 (j : Int)) rfl rfl (by kernel_rfl) (by kernel_rfl) (by kernel_rfl) (fun _ _ _ h => h) (by rfl) (fun W' hS' => by go_simp) hH ?_
     simp only [Act.put, sA, sB, sC]
     refine hTake 12 (some 120) (.pointer (some ⟨G, 0 + j * 32, none⟩)) rfl rfl (by kernel_rfl) (by kernel_rfl) (by kernel_rfl) (fun _ _ _ h => h) (by rfl) (fun W' hS' => by go_simp) hH ?_
     simp only [Act.put, sA, sB, sC]
     refine hLoad 13 (some 121) (u8s kb) rfl rfl (by kernel_rfl) (by kernel_rfl) (by kernel_rfl) (fun _ _ _ h => h) (by rfl) 23 (.tmp 120) rfl G (0 + j * 32) rfl _ (fun _ h => h.2) Tryz.underlying23 rfl (sizeU kb HK.out) hH ?_
     simp only [Act.put, sA, sB, sC]
     refine hTake 14 (some 122) (.bool false) rfl rfl (by kernel_rfl) (by kernel_rfl) (by kernel_rfl) (fun _ _ _ h => h) (by rfl) (fun W' hS' => by go_simp) hH ?_
     simp only [Act.put, sA, sB, sC]
     refine hTake 15 (some 123) (.bool false) rfl rfl (by kernel_rfl) (by kernel_rfl) (by kernel_rfl) (fun _ _ _ h => h) (by rfl) (fun W' hS' => by go_simp) hH ?_
     simp only [Act.put, sA, sB, sC]
     refine wpAnyH_done (by kernel_rfl) (NoPanic.normal ?_) _
     clear hH
     have VD : Hid (Below wr.heap.size wr w13.drew ∧ Blk w13.drew g12 56 (peelC (.slice qo2 M qc2) kb 18446744073709551615) ∧ isO wr.heap.size M T (.slice qo2 M qc2) w13.drew) := ⟨below_dn V.out.1 1, V.out.2.1.drew, isO_later _ _ _ _ _ _ (below_dn (Below.refl _ _) 1) V.out.2.2⟩
     generalize w13.drew = wz at VD ⊢
     clear V hrgG
     have HNE : Hid (∀ k, wr.heap.size ≤ k → u11.ownBlock ≠ some k) := fun k hk e => by have := (HB.out.2.2.2.2.2.2.2.2.2.2.2.2.1.lt k e).2; omega
     go_wp2_with (first | (refine wpList_load_mid rfl 23 (.tmp 125) rfl g12 1 rfl (u8s kb) _ (peel_range VD.out.2.1) Tryz.underlying23 rfl (sizeU kb HK.out) ?_) | (refine wpList_keys1 rfl (.tmp 126) rfl kb HK.out rfl ?_; intro w3 b3 s3 l3; have B3 : Below wr.heap.size wr w3 := below_chain VD.out.1 l3 VD.out.1.size) | (at_builtin; refine wpList_append_own _ rfl _ _ 31 rfl w6.heap.size 23 i0 _ 32 32 Tryz.underlying31 HI.out.1 HI.out.2.1 HI.out.2.2.1 HI.out.2.2.2 rfl (by decide) _ j _ rfl (ownsRow_below HB.out.2.2.2.2.2.2.2.2.2.2.2.2.1 B3) ⟨wz.heap.size, 0, none⟩ 1 1 (u8s kb) rfl (by rw [u8s_length, HK.out]) (fun q u hu => by rw [add_mid, Nat.zero_add]; exact (b3.cell q).trans hu) (u8s_one _) (by unfold maxLen; omega) (by omega) (by have := B3.size; omega) ?_; intro v' w4 ho4 hg4 _; have c0 : w4.cell? ⟨g12, 0, none⟩ = some (.slice qo2 M qc2) := ((VD.out.2.1.later l3 VD.out.2.1.lt).grown hg4 (HNE.out g12 hge.out)).cell 0))
     have R : Hid (ySl (im + 48 * (on - (j + 1))) (wrapL rd (((oss.map bsK).zip ps).drop (j + 1)) izs) (.slice qo2 M qc2) w4 ∧ w4.ownsRow w6.heap.size 23 32 v' (j + 1) (u8s (flatK ((repsK rd ((oss.map bsK).zip ps)).take (j + 1)))) ∧ Below w6.heap.size w6 w4) := by
      rw [HB.out.2.2.2.2.2.2.2.2.2.2.2.2.2] at ho4
      have q := B3.size
      have BB : Below w6.heap.size w6 w4 := (below_chain HB.out.2.1 B3 hwr6).grown hg4 (by omega) (fun i hi => ((ownsRow_below HB.out.2.2.2.2.2.2.2.2.2.2.2.2.1 B3).lt i hi).1)
      have oz : isO wr.heap.size M T (.slice qo2 M qc2) w4 := isO_grown (isO_later _ _ _ _ _ _ l3 VD.out.2.2) hg4 HNE.out
      rw [HB.out.2.2.2.2.2.2.2.2.2.2.1, HB.out.2.2.2.2.2.2.2.2.2.1]
      exact ⟨ySl_own HB.out.2.2.2.2.2.2.2.1 HB.out.2.2.2.2.2.2.2.2.1 (by have := HB.out.2.2.2.2.2.2.2.2.2.2.2.1; omega) oz, ho4, BB⟩
     clear ho4 hg4 b3 s3 l3 B3 VD HNE hge
     go_wp2
     go_roundw
     case rel => exact ⟨j + 1, by omega, by go_num, R.out.1, R.out.2.1, R.out.2.2⟩
     case measure => simp [intOf] <;> omega
    ·obtain rfl : j = on := by omega
     rw [Nat.sub_self, Nat.mul_zero, Nat.add_zero] at hvs hvc
     rw [Nat.sub_self, Nat.mul_zero, Nat.add_zero]
     rw [List.drop_of_length_le (by rw [List.length_zip, List.length_map, HX.out.1.len, HP.out.1.len, Nat.min_self]; exact Nat.le_refl _), wrapL] at hvs
     rw [List.take_of_length_le (by rw [hlZ]; exact Nat.le_refl _)] at hbk
     obtain ⟨ko, kc, hke, hKS, _⟩ := keys_own hbk hlZ (repsK_good _ _)
     subst hke
     obtain ⟨RK, hRK⟩ : ∃ q, repsK rd ((oss.map bsK).zip ps) = q := ⟨_, rfl⟩
     have i2 : ¬ ((j : Int) < (j : Int)) := by omega
     have HE : Hid (Seen wr vo' im izs ∧ Seen wr io im izs ∧ Seen wr to tm tzs ∧ KeysS wr (some ⟨G, 0, none⟩) j RK ∧ KeysS wr ko j RK ∧ Below w.heap.size w wr) := ⟨hvs, HX.out.2.2.1.later BW (Nat.le_refl _), HX.out.2.2.2.2.1.later BW (Nat.le_refl _), by rw [← hRK]; exact V6.out.2.2.2.1.later hbel, by rw [← hRK]; exact hKS, BW⟩
     clear hvs BW hbel hbk hKS hRK hlZ V6
     go_wp2_with (first | (go_at_call 44; refine (tsame_yes vo' io im vc' ic izs _ HE.out.1 HE.out.2.1).mono ?_; rintro e w7 ⟨rfl, q7, rfl⟩; have B7 : Hid (Below wr.heap.size wr (wr.drewN q7)) := below_dn (Below.refl _ _) q7) | (go_at_call 43; refine (tcopied_any to tm tc tzs _ (HE.out.2.2.1.later B7.out (Nat.le_refl _)) HX.out.2.2.2.2.2.1).mono ?_; rintro e w8 ⟨v8, rfl, o8, l8⟩))
     obtain ⟨bo, bc, rfl, sb, hbc⟩ := ySl_own HX.out.2.2.2.2.1.len HX.out.2.2.2.2.1.bytes n4 o8
     have V8 : Hid (Below wr.heap.size wr w8 ∧ Seen w8 bo tm tzs ∧ tm ≤ bc) := ⟨below_chain B7.out l8 B7.out.size, sb, hbc⟩
     clear o8 l8 sb hbc
     obtain ⟨wo, rfl⟩ : ∃ q, q = wr := ⟨_, rfl⟩
     go_loopw [15, 16] (fun v i wr => ∃ k : Nat, k ≤ j ∧ i = .int .i64 ((k : Int) - 1) ∧ ySl (tm + 16 * (j - k)) (anssL rd (RK.drop k) tzs) v wr ∧ Below wo.heap.size wo wr) (fun _ i _ => (intOf i + 1).toNat)
     case atStart =>
      refine ⟨j, Nat.le_refl _, by first | rfl | go_num, ⟨bo, bc, by rw [Nat.sub_self]; rfl, ?_, ?_⟩, V8.out.1⟩
      ·rw [Nat.sub_self, Nat.mul_zero, Nat.add_zero, List.drop_of_length_le (by rw [HE.out.2.2.2.1.len]; exact Nat.le_refl _), anssL]
       exact V8.out.2.1
      ·have := V8.out.2.2; omega
     case round =>
      obtain ⟨k, hk, rfl, hv, hbel⟩ := hrel
      obtain ⟨vo2, vc2, rfl, hvs, hvc⟩ := hv
      by_cases hlt2 : 0 < k
      ·obtain ⟨jj, rfl⟩ : ∃ q, k = q + 1 := ⟨k - 1, by omega⟩
       have hjj : jj < j := by omega
       have e1 : ((jj + 1 : Nat) : Int) - 1 = (jj : Int) := by omega
       rw [e1]
       obtain ⟨b1, o1, hkoo, hb1, hr1⟩ := HE.out.2.2.2.2.1.cells jj hjj
       obtain ⟨g1, y1⟩ := HE.out.2.2.2.2.1.good jj hjj
       have hD : RK.drop jj = RK.getD jj [] :: RK.drop (jj + 1) := by
        have hl : jj < RK.length := by rw [HE.out.2.2.2.2.1.len]; exact hjj
        rw [List.drop_eq_getElem_cons hl]
        simp [List.getD, hl]
       obtain ⟨K, hK⟩ : ∃ q, RK.getD jj [] = q := ⟨_, rfl⟩
       rw [hK] at hr1 g1 y1 hD
       obtain ⟨T, hT⟩ : ∃ q, anssL rd (RK.drop (jj + 1)) tzs = q := ⟨_, rfl⟩
       obtain ⟨L, hL⟩ : ∃ q, tm + 16 * (j - (jj + 1)) = q := ⟨_, rfl⟩
       rw [hT, hL] at hvs
       rw [hL] at hvc ⊢
       have i1 : (0 : Int) ≤ (jj : Int) := by omega
       have i3 : (jj : Int) < (j : Int) := by omega
       have CA := fun (W : World) (hs : Seen W vo2 L T) => answer_any K rd vo2 L vc2 T g1 y1 HR.out (by omega) W hs hvc
       have HB : Hid (Below wo.heap.size wo wr ∧ wr.rangeAt b1 (o1 + jj * 32) (u8s K) ∧ K.length = 32 ∧ Seen wr vo2 L T ∧ anssL rd (RK.drop jj) tzs = ansL rd K T ∧ tm + 16 * (j - jj) = L + 16 ∧ L ≤ 1048576 ∧ Bytes T ∧ T.length = L) := ⟨hbel, rangeAt_below hr1 hbel hb1, g1, hvs, by rw [hD, anssL, hT], by omega, by omega, hvs.bytes, hvs.len⟩
       subst hkoo
       have e2' : IntKind.i64.wrap ((jj : Int) - 1) = (jj : Int) - 1 := by simp only [IntKind.wrap, IntKind.bits, IntKind.signed]; simp; omega
       have e3' : IntKind.i64.wrap ((L : Int) + 16) = (L : Int) + 16 := by have := HB.out.2.2.2.2.2.2.1; simp only [IntKind.wrap, IntKind.bits, IntKind.signed]; simp; omega
       have e4' : ((L + 16 : Nat) : Int) = (L : Int) + 16 := by omega
       clear hr1 hb1 g1 y1 hD hK hT hL hvs hvc hbel e1
       go_wp2_with (first | (refine wpList_load_mid rfl 23 (.tmp 147) rfl b1 (o1 + jj * 32) rfl (u8s K) _ HB.out.2.1 Tryz.underlying23 rfl (sizeU K HB.out.2.2.1) ?_) | (go_at_call 37; refine (CA _ HB.out.2.2.2.1).mono ?_; rintro e w2 ⟨qo3, qc3, rfl, o2, l2⟩))
       obtain ⟨xo, xc, hxe, sx, hxc⟩ := ySl_own (zs := ansL rd K T) (by rw [ansL, boxL_length, HB.out.2.2.2.2.2.2.2.2]) (boxL_bytes _ _ _ HB.out.2.2.2.2.2.2.2.1) (by have := HB.out.2.2.2.2.2.2.1; omega) o2
       rw [hxe]
       have R : Hid (ySl (tm + 16 * (j - jj)) (anssL rd (RK.drop jj) tzs) (.slice xo (L + 16) xc) w2 ∧ Below wo.heap.size wo w2) := by
        rw [HB.out.2.2.2.2.2.1, HB.out.2.2.2.2.1]
        exact ⟨⟨xo, xc, rfl, sx, hxc⟩, below_chain HB.out.1 l2 HB.out.1.size⟩
       clear hxe o2 l2 sx hxc HB CA
       go_roundw
       case rel => exact ⟨jj, by omega, by first | rfl | go_num, R.out.1, R.out.2⟩
       case measure => simp [intOf] <;> omega
      ·obtain rfl : k = 0 := by omega
       rw [Nat.sub_zero] at hvs hvc
       rw [Nat.sub_zero]
       rw [List.drop_zero] at hvs
       have CU := fun (W : World) (hkk : KeysS W (some ⟨G, 0, none⟩) j RK) (hs : Seen W vo2 (tm + 16 * j) (anssL rd RK tzs)) => unwrap_any RK rd (some ⟨G, 0, none⟩) j j vo2 (tm + 16 * j) vc2 tzs ⟨h1, h8⟩ HR.out (by rw [HX.out.2.2.2.2.1.len]) (by rw [HX.out.2.2.2.2.1.len]; omega) HX.out.2.2.2.2.1.bytes W hkk hs hvc
       rw [HX.out.2.2.2.2.1.len] at CU
       have HF : Hid (Below wo.heap.size wo wr ∧ KeysS wr (some ⟨G, 0, none⟩) j RK ∧ Seen wr vo2 (tm + 16 * j) (anssL rd RK tzs)) := ⟨hbel, HE.out.2.2.2.1.later hbel, hvs⟩
       clear hvs hvc hbel
       have e0 : ((0 : Nat) : Int) - 1 = -1 := rfl
       rw [e0]
       go_wp2_with (first | (go_at_call 38; refine (CU _ HF.out.2.1 HF.out.2.2).mono ?_; rintro e w2 ⟨ro, rc, rfl, hrs, hrc, l2⟩; have B2 : Hid (Below wo.heap.size wo w2) := below_chain HF.out.1 l2 HF.out.1.size) | (go_at_call 44; refine (tsame_yes ro to tm rc tc tzs _ hrs (HE.out.2.2.1.later B2.out (Nat.le_refl _))).mono ?_; rintro e w3 ⟨rfl, q, rfl⟩))
       go_ret
       exact ⟨rfl, below_dn (below_chain HE.out.2.2.2.2.2 B2.out HE.out.2.2.2.2.2.size) q⟩
 ·rcases (by omega : on < 1 ∨ 8 < on ∨ (1 ≤ on ∧ on ≤ 8)) with q1 | q1 | q1
  ·have a1 : (on : Int) < 1 := by omega
   go_wp2
   go_ret
   exact ⟨rfl, HD.out.1⟩
  ·have a1 : ¬ (on : Int) < 1 := by omega
   have a2 : (8 : Int) < (on : Int) := by omega
   go_wp2
   go_ret
   exact ⟨rfl, HD.out.1⟩
  ·have a1 : ¬ (on : Int) < 1 := by omega
   have a2 : ¬ (8 : Int) < (on : Int) := by omega
   have e1 : IntKind.i64.wrap ((on : Int) * 48) = (on : Int) * 48 := by simp only [IntKind.wrap, IntKind.bits, IntKind.signed]; simp; omega
   have e2 : IntKind.i64.wrap ((on : Int) * 16) = (on : Int) * 16 := by simp only [IntKind.wrap, IntKind.bits, IntKind.signed]; simp; omega
   have e3 : IntKind.i64.wrap ((im : Int) + (on : Int) * 48) = (im : Int) + (on : Int) * 48 := by simp only [IntKind.wrap, IntKind.bits, IntKind.signed]; simp; omega
   have e4 : IntKind.i64.wrap ((tm : Int) + (on : Int) * 16) = (tm : Int) + (on : Int) * 16 := by simp only [IntKind.wrap, IntKind.bits, IntKind.signed]; simp; omega
   rcases (by omega : pn < on ∨ (on ≤ pn ∧ 1048576 < im + on * 48) ∨ (on ≤ pn ∧ im + on * 48 ≤ 1048576 ∧ 1048576 < tm + on * 16)) with q2 | q2 | q2
   ·have a3 : (pn : Int) < (on : Int) := by omega
    go_wp2
    go_ret
    exact ⟨rfl, HD.out.1⟩
   ·have a3 : ¬ (pn : Int) < (on : Int) := by omega
    have a4 : (1048576 : Int) < (im : Int) + (on : Int) * 48 := by omega
    go_wp2
    go_ret
    exact ⟨rfl, HD.out.1⟩
   ·have a3 : ¬ (pn : Int) < (on : Int) := by omega
    have a4 : ¬ (1048576 : Int) < (im : Int) + (on : Int) * 48 := by omega
    have a5 : (1048576 : Int) < (tm : Int) + (on : Int) * 16 := by omega
    go_wp2
    go_ret
    exact ⟨rfl, HD.out.1⟩
end Go.Proofs.YthlbjkfjkggdoaaGreatDoor
namespace Go.Proofs.YthlbjkfjkggdoaaGreatDoor.topOnion
open Go.ChangeShapes Go.WideShapes Go.ChangeAt Go.WideMaps Go.WideElems Go.RowKit Go.Deep
set_option linter.unusedVariables false
set_option linter.unusedSimpArgs false
theorem own : ownKnob Tryz.prog.godebug = none := by kernel_rfl
theorem laidOut : laidOutB Tryz.prog = true := by kernel_rfl
theorem cells5 : Tryz.prog.cellsOf 76 = 5 := by kernel_rfl
theorem array5 {α : Type} {cs : Array α} (h : cs.size = 5) : ∃ c0 c1 c2 c3 c4, cs = #[c0, c1, c2, c3, c4] := by
 obtain ⟨l⟩ := cs
 match l, h with
 | [c0, c1, c2, c3, c4], _ => exact ⟨c0, c1, c2, c3, c4, rfl⟩
theorem parts {H : Type} {enc : TypeId × Value → H} {W : World} {base : Nat} {sp : Nat → Bool} {held : Bool} {fuel : Nat} {v0 v1 v2 v3 v4 : Value} {x : DataW H × List MemPlace}
  (h : DataW.trod enc Tryz.prog W base sp held fuel 76 [v0, v1, v2, v3, v4] = some x) : ∃ (y0 y1 y2 y3 y4 : DataW H × List MemPlace) (n : Nat), x.1 = .agg [y0.1, y1.1, y2.1, y3.1, y4.1] ∧
   DataW.trod enc Tryz.prog W base sp held n 31 [v0] = some y0 ∧ DataW.trod enc Tryz.prog W base sp held n 31 [v1] = some y1 ∧ DataW.trod enc Tryz.prog W base sp held n 24 [v2] = some y2 ∧ DataW.trod enc Tryz.prog W base sp held n 32 [v3] = some y3 ∧ DataW.trod enc Tryz.prog W base sp held n 32 [v4] = some y4 := by
 obtain ⟨xs, n, _, rfl, _, hlen, hf⟩ := DataW.trod_struct Tryz.underlying76 h
 match xs, hlen with
 | [y0, y1, y2, y3, y4], _ =>
  refine ⟨y0, y1, y2, y3, y4, n, by simp, ?_, ?_, ?_, ?_, ?_⟩
  ·simpa [cellsOfKs, cellsOfU, cellsOfL] using hf 0 _ rfl
  ·simpa [cellsOfKs, cellsOfU, cellsOfL] using hf 1 _ rfl
  ·simpa [cellsOfKs, cellsOfU, cellsOfL] using hf 2 _ rfl
  ·simpa [cellsOfKs, cellsOfU, cellsOfL] using hf 3 _ rfl
  ·simpa [cellsOfKs, cellsOfU, cellsOfL] using hf 4 _ rfl
theorem lifted (os : Os) (started : os.Started) (H : Type) (enc : TypeId × Value → H) :
  ReturnsInHanded {} Tryz.checked os 10 .any (fun w args => (Rows.topOnionSpec.pre enc Tryz.prog Tryz.f10 [] false w args ∧ laidMetH Tryz.prog laidK w) ∧ sizedMet enc Tryz.prog Tryz.f10 (OpenSpec.ofChange Rows.topOnionSpec) false w args)
   (Rows.topOnionSpec.post enc Tryz.prog Tryz.f10 false true false false) := by
 refine returnsInHanded_of_change_and (C := Tryz.checked) (X := fun w _ => laidMetH Tryz.prog laidK w) (fun _ _ _ hh h => h.of_heap hh) own started (by kernel_rfl) Tryz.func10
  (ChangeSpec.witness_shaped (enc := enc) (C := Tryz.checked) (os := os) (X := fun w _ => laidMetH Tryz.prog laidK w) false (World.doorLaid Tryz.prog 14 os) #[.agg #[.slice none 0 0, .slice none 0 0, .int .u64 0, .slice none 0 0, .slice none 0 0]] 8 rfl (World.shaped_of_RefB (by kernel_rfl) (by kernel_rfl)) (by kernel_rfl) (by kernel_rfl) (by kernel_rfl) (door_met os _)) ?_
 intro W base args ds gs before hval0 hW _ hsz0 hL _
 have hval : ∀ (j : Nat) t v, Tryz.f10.params[j]? = some t → args[j]? = some v → Value.okWide Tryz.prog W .any base t v := hval0
 have hsz : (DataW.weightsEach Tryz.prog (Tryz.f10.params.toList ++ Rows.topOnionSpec.plain.varTypes Tryz.prog) (ds ++ gs)).all (· ≤ reachBytes) = true := hsz0
 have hW' := hW
 obtain ⟨p, q, hA0, hV, rfl, hfz, hnd⟩ := hW
 have hA : DataW.TrodAll enc Tryz.prog W 0 (fun _ => true) true Tryz.f10.params.toList args.toList ds p := hA0
 rw [Tryz.params10] at hA hval hsz
 obtain ⟨v0, vs0, d0, ds0, p0, q0, hargs, rfl, rfl, h0, r0⟩ := trodAll_cons hA
 obtain ⟨rfl, rfl, rfl⟩ := trodAll_nil r0
 obtain rfl : args = #[v0] := by cases args; simp_all
 obtain ⟨rfl, rfl⟩ := trodVars_none hV
 have k0 := h0
 have lt0 : ∀ x ∈ p0, x.block < W.heap.size := by obtain ⟨m, hm⟩ := k0; exact DataW.trod_lt m _ _ _ hm
 obtain ⟨cs, rfl, hcs⟩ := okWide_struct Tryz.underlying76 (hval 0 76 v0 rfl rfl)
 obtain ⟨u0, u1, u2, u3, u4, rfl⟩ := array5 (hcs.trans cells5)
 obtain ⟨fuel, hf⟩ := h0
 obtain ⟨y0, y1, y2, y3, y4, m, hd, t0, t1, t2, t3, t4⟩ := parts hf
 simp only at hd
 have hz : ∀ n ∈ (DataW.agg [y0.1, y1.1, y2.1, y3.1, y4.1]).weights Tryz.prog 76, n ≤ reachBytes := by rw [← hd]; exact weights_first hsz
 simp only [DataW.weights, Tryz.underlying76] at hz
 obtain ⟨a2, e2, _, w2⟩ := DataW.trod_int Tryz.underlying24 t2
 simp at e2
 subst e2
 obtain ⟨oo, on, oc, oss, rfl, s0, n0, _, _⟩ := keys_in t0 (fun n hn => hz n (DataW.weights_mem_each (j := 0) (t := 31) rfl rfl n hn))
 obtain ⟨po, pn, pc, pss, rfl, s1, n1, _, c1⟩ := keys_in t1 (fun n hn => hz n (DataW.weights_mem_each (j := 1) (t := 31) rfl rfl n hn))
 obtain ⟨io, im, ic, izs, rfl, s3, _, c3, _⟩ := bytes_in t3 (fun n hn => hz n (DataW.weights_mem_each (j := 3) (t := 32) rfl rfl n hn))
 obtain ⟨to, tm, tc, tzs, rfl, s4, _, c4, _⟩ := bytes_in t4 (fun n hn => hz n (DataW.weights_mem_each (j := 4) (t := 32) rfl rfl n hn))
 clear hA0 hval0 hf t0 t1 t2 t3 t4 hz hd
 refine (top_any oss pss a2 oo po io to on oc pn pc im ic tm tc izs tzs (u64_of_wf w2) W s0 n0 s1 n1 c1 s3 c3 s4 c4 (ktab_of_laid hL)).mono fun e W' ⟨he, bel⟩ => ?_
 subst he
 exact ⟨_, rfl, _, _, _, [], _, [], hW', trodAll_mk1 (shut_bool Tryz.underlying4 _), (trodAll_cons_mk (Below.trod laidOut (by kernel_rfl) (of_decide_eq_true (by kernel_rfl)) k0 bel lt0) trodAll_mk0), rfl, bel.frame _, fun h => by cases h⟩
theorem over : Rows.TopOnionSaid :=
 OpenClaim.holds_of_wide_leaving 10 Tryz.f10 rfl rfl rfl rfl rfl rfl rfl ⟨rfl, rfl, rfl, rfl, rfl⟩ rfl rfl rfl rfl rfl (by kernel_rfl) Tryz.func10 (by kernel_rfl)
  (of_decide_eq_true (by kernel_rfl)) (by unfold Func.isWrapper; first | (rw [if_pos (by decide +kernel)]; kernel_rfl) | (rw [if_neg (by decide +kernel)]; exact ⟨rfl, rfl⟩))
  (fun os started H enc _ => leaving_of (lifted os started H enc))
theorem plain (f : FuncId) (fn : Func) (hf : Tryz.pinned.checked.prog.funcNamed "tryst/trysttop.TopOnion" = some f) (hfn : Tryz.pinned.checked.prog.funcs[f]? = some fn) :
  Rows.topOnionCard.stood.looks = Tryz.pinned.checked.prog.looks [] ∧ ∀ (j : Nat) t, fn.params[j]? = some t → Tryz.pinned.checked.prog.wantsStandIn t = false := by
 obtain rfl : f = 10 := Option.some.inj ((show Tryz.prog.funcNamed "tryst/trysttop.TopOnion" = some 10 by kernel_rfl).symm.trans hf) |>.symm
 obtain rfl : fn = Tryz.f10 := (Option.some.inj (Tryz.func10.symm.trans hfn)).symm
 refine ⟨by kernel_rfl, fun j t ht => ?_⟩
 rw [Tryz.params10] at ht
 have hm : t ∈ [76] := by simpa using Array.mem_of_getElem? ht
 have hall : ([76].all fun u => !Tryz.prog.wantsStandIn u) = true := by kernel_rfl
 exact (show Tryz.prog.wantsStandIn t = false by simpa using List.all_eq_true.1 hall t hm)
theorem proved : Rows.TopOnionCardSaid :=
 tied_goes [.data] true Rows.topOnionCard.stood.harness Rows.topOnionCard.stood.looks
  over (by kernel_rfl) topOnion_row_tie rfl ⟨rfl, rfl⟩ (by kernel_rfl) rfl plain (by kernel_rfl)
end Go.Proofs.YthlbjkfjkggdoaaGreatDoor.topOnion
namespace Go.Proofs.YthlbjkfjkggdoaaGreatDoor
theorem topOnion_holds : Rows.TopOnionCardSaid := topOnion.proved
#print axioms topOnion_holds
end Go.Proofs.YthlbjkfjkggdoaaGreatDoor
