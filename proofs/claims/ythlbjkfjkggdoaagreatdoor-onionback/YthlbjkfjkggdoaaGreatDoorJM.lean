/- Joined by program: what the theorem reaches. -/
import Derived.Lib.SmallJoins
import Derived.Test.YthlbjkfjkggdoaaGreatDoorJA
import Derived.Test.YthlbjkfjkggdoaaGreatDoorJC
import Derived.Test.YthlbjkfjkggdoaaGreatDoorJH
import Derived.Test.YthlbjkfjkggdoaaGreatDoorJI
import Derived.Test.YthlbjkfjkggdoaaGreatDoorJL
namespace Go.Proofs.YthlbjkfjkggdoaaGreatDoor
open Go.RowKit Go.Joins
set_option linter.unusedVariables false
set_option linter.unusedSimpArgs false
set_option maxRecDepth 20000
set_option maxHeartbeats 2000000
def saltL : List Int := [116, 114, 121, 115, 116, 32, 111, 110, 105, 111, 110]
def keysL (sec first server : List Int) (rd : Int) : List Int := exps (mac saltL sec) (first ++ server ++ leB 8 rd) 64
def reqL (sec first server : List Int) (rd : Int) : List Int := (keysL sec first server rd).take 32
def repL (sec first server : List Int) (rd : Int) : List Int := (keysL sec first server rd).drop 32
theorem keysL_length (a b c : List Int) (rd : Int) : (keysL a b c rd).length = 64 := exps_length _ _ _
theorem keysL_bytes (a b c : List Int) (rd : Int) : Bytes (keysL a b c rd) := exps_bytes _ _ _
theorem reqL_length (a b c : List Int) (rd : Int) : (reqL a b c rd).length = 32 := by simp [reqL, keysL_length]
theorem repL_length (a b c : List Int) (rd : Int) : (repL a b c rd).length = 32 := by simp [repL, keysL_length]
theorem reqL_bytes (a b c : List Int) (rd : Int) : Bytes (reqL a b c rd) := bytes_take (keysL_bytes _ _ _ _) _
theorem repL_bytes (a b c : List Int) (rd : Int) : Bytes (repL a b c rd) := fun z hz => keysL_bytes a b c rd z (List.mem_of_mem_drop hz)
theorem keysL_parts (a b c : List Int) (rd : Int) : keysL a b c rd = reqL a b c rd ++ repL a b c rd := (List.take_append_drop 32 _).symm
def layL (rd : Int) (s p z : List Int) : List Int := prodL p nineL ++ boxL (reqL (prodL p s) (prodL p nineL) s rd) (lnonL 0 rd) [] z
def repO (rd : Int) (s p : List Int) : List Int := repL (prodL p s) (prodL p nineL) s rd
theorem layL_length (rd : Int) (s p z : List Int) : (layL rd s p z).length = z.length + 48 := by
 rw [layL, List.length_append, prodL_length, boxL_length]; omega
theorem layL_bytes (rd : Int) (s p : List Int) {z : List Int} (h : Bytes z) : Bytes (layL rd s p z) := bytes_app (prodL_bytes _ _) (boxL_bytes _ _ _ h)
def wrapL (rd : Int) : List (List Int × List Int) → List Int → List Int
 | [], z => z
 | x :: r, z => layL rd x.1 x.2 (wrapL rd r z)
theorem wrapL_length (rd : Int) : ∀ (l : List (List Int × List Int)) (z : List Int), (wrapL rd l z).length = z.length + 48 * l.length
 | [], z => rfl
 | x :: r, z => by rw [wrapL, layL_length, wrapL_length rd r z, List.length_cons]; omega
theorem wrapL_bytes (rd : Int) : ∀ (l : List (List Int × List Int)) {z : List Int}, Bytes z → Bytes (wrapL rd l z)
 | [], _, h => h
 | x :: r, _, h => layL_bytes _ _ _ (wrapL_bytes rd r h)
def offR (rd : Int) (own box : List Int) : List Int := reqL (prodL own (box.take 32)) (box.take 32) (prodL own nineL) rd
def offP (rd : Int) (own box : List Int) : List Int := repL (prodL own (box.take 32)) (box.take 32) (prodL own nineL) rd
def offB (rd : Int) (own box : List Int) : Bool := decide (prodN own (box.take 32) ≠ 0) && opensL (offR rd own box) (lnonL 0 rd) [] (box.drop 32)
def offI (rd : Int) (own box : List Int) : List Int := if offB rd own box then textL (offR rd own box) (lnonL 0 rd) (box.drop 32) else List.replicate (box.length - 48) 0
theorem off_lay (rd : Int) (own p z : List Int) (ho : own.length = 32) (bo : Bytes own) (hp : p.length = 32) (bp : Bytes p) (hz : Bytes z) :
  offB rd own (layL rd (prodL own nineL) p z) = true ∧ offI rd own (layL rd (prodL own nineL) p z) = z ∧ offP rd own (layL rd (prodL own nineL) p z) = repO rd (prodL own nineL) p := by
 have e1 : (layL rd (prodL own nineL) p z).take 32 = prodL p nineL := by
  rw [layL, List.take_append_of_le_length (by rw [prodL_length]; omega), List.take_of_length_le (by rw [prodL_length]; omega)]
 have e2 : (layL rd (prodL own nineL) p z).drop 32 = boxL (reqL (prodL p (prodL own nineL)) (prodL p nineL) (prodL own nineL) rd) (lnonL 0 rd) [] z := by
  rw [layL, ← prodL_length p nineL, List.drop_left]
 have e3 : prodL own (prodL p nineL) = prodL p (prodL own nineL) := prod_meet own p nineL ho bo hp bp
 have e4 : offR rd own (layL rd (prodL own nineL) p z) = reqL (prodL p (prodL own nineL)) (prodL p nineL) (prodL own nineL) rd := by rw [offR, e1, e3]
 have e5 : prodN own (prodL p nineL) ≠ 0 := prod_strong own p ho bo hp bp
 have e6 : offB rd own (layL rd (prodL own nineL) p z) = true := by rw [offB, e1, e2, e4, opens_box]; simp [e5]
 exact ⟨e6, by rw [offI, e6, if_pos rfl, e2, e4, text_box _ _ _ hz], by rw [offP, e1, e3, repO]⟩
def ansL (rd : Int) (k z : List Int) : List Int := boxL k (lnonL 1 rd) [] z
def anssL (rd : Int) : List (List Int) → List Int → List Int
 | [], z => z
 | k :: r, z => ansL rd k (anssL rd r z)
theorem anssL_length (rd : Int) : ∀ (l : List (List Int)) (z : List Int), (anssL rd l z).length = z.length + 16 * l.length
 | [], z => rfl
 | x :: r, z => by rw [anssL, ansL, boxL_length, anssL_length rd r z, List.length_cons]; omega
theorem anssL_bytes (rd : Int) : ∀ (l : List (List Int)) {z : List Int}, Bytes z → Bytes (anssL rd l z)
 | [], _, h => h
 | x :: r, _, h => boxL_bytes _ _ _ (anssL_bytes rd r h)
structure PartsAt (w : World) (ao : Option Addr) (n : Nat) (pss : List (List Int)) : Prop where
 len : pss.length = n
 cells : ∀ i, i < n → ∃ b o so cs, ao = some ⟨b, o, none⟩ ∧ b < w.heap.size ∧ w.cell? ⟨b, o + i, none⟩ = some (.slice so (pss.getD i []).length cs) ∧ Seen w so (pss.getD i []).length (pss.getD i []) ∧ (pss.getD i []).length ≤ cs ∧ (so = none → cs = 0)
theorem parts2 (W : World) (s1 s2 : Option Addr) (n1 n2 c1 c2 : Nat) (z1 z2 : List Int) (h1 : Seen W s1 n1 z1) (h2 : Seen W s2 n2 z2) (l1 : n1 ≤ c1) (l2 : n2 ≤ c2) (m1 : s1 = none → c1 = 0) (m2 : s2 = none → c2 = 0) :
  PartsAt (W.alloc (.cells #[.slice s1 n1 c1, .slice s2 n2 c2] 32)) (some ⟨W.heap.size, 0, none⟩) 2 [z1, z2] := by
 obtain rfl := h1.len
 obtain rfl := h2.len
 have hb : Below W.heap.size W (W.alloc (.cells #[.slice s1 z1.length c1, .slice s2 z2.length c2] 32)) := (Below.refl _ _).alloc (Nat.le_refl _) _
 have hh : (W.alloc (.cells #[.slice s1 z1.length c1, .slice s2 z2.length c2] 32)).heap[W.heap.size]? = some (.cells [.slice s1 z1.length c1, .slice s2 z2.length c2].toArray 32 (0, 0)) := heap_alloc_new W _
 refine ⟨rfl, fun i hi => ?_⟩
 rcases (by omega : i = 0 ∨ i = 1) with rfl | rfl
 ·exact ⟨_, 0, s1, c1, rfl, by simp, by rw [cell_of_row _ _ _ _ _ _ hh]; rfl, h1.later hb (Nat.le_refl _), l1, m1⟩
 ·exact ⟨_, 0, s2, c2, rfl, by simp, by rw [cell_of_row _ _ _ _ _ _ hh]; rfl, h2.later hb (Nat.le_refl _), l2, m2⟩
theorem parts3 (W : World) (s1 s2 s3 : Option Addr) (n1 n2 n3 c1 c2 c3 : Nat) (z1 z2 z3 : List Int) (h1 : Seen W s1 n1 z1) (h2 : Seen W s2 n2 z2) (h3 : Seen W s3 n3 z3) (l1 : n1 ≤ c1) (l2 : n2 ≤ c2) (l3 : n3 ≤ c3) (m1 : s1 = none → c1 = 0) (m2 : s2 = none → c2 = 0) (m3 : s3 = none → c3 = 0) :
  PartsAt (W.alloc (.cells #[.slice s1 n1 c1, .slice s2 n2 c2, .slice s3 n3 c3] 32)) (some ⟨W.heap.size, 0, none⟩) 3 [z1, z2, z3] := by
 obtain rfl := h1.len
 obtain rfl := h2.len
 obtain rfl := h3.len
 have hb : Below W.heap.size W (W.alloc (.cells #[.slice s1 z1.length c1, .slice s2 z2.length c2, .slice s3 z3.length c3] 32)) := (Below.refl _ _).alloc (Nat.le_refl _) _
 have hh : (W.alloc (.cells #[.slice s1 z1.length c1, .slice s2 z2.length c2, .slice s3 z3.length c3] 32)).heap[W.heap.size]? = some (.cells [.slice s1 z1.length c1, .slice s2 z2.length c2, .slice s3 z3.length c3].toArray 32 (0, 0)) := heap_alloc_new W _
 refine ⟨rfl, fun i hi => ?_⟩
 rcases (by omega : i = 0 ∨ i = 1 ∨ i = 2) with rfl | rfl | rfl
 ·exact ⟨_, 0, s1, c1, rfl, by simp, by rw [cell_of_row _ _ _ _ _ _ hh]; rfl, h1.later hb (Nat.le_refl _), l1, m1⟩
 ·exact ⟨_, 0, s2, c2, rfl, by simp, by rw [cell_of_row _ _ _ _ _ _ hh]; rfl, h2.later hb (Nat.le_refl _), l2, m2⟩
 ·exact ⟨_, 0, s3, c3, rfl, by simp, by rw [cell_of_row _ _ _ _ _ _ hh]; rfl, h3.later hb (Nat.le_refl _), l3, m3⟩
theorem joined_any (ao : Option Addr) (n c : Nat) (pss : List (List Int)) (w : World) (hx : PartsAt w ao n pss) (hn : n ≤ 1000) (hm : pss.flatten.length ≤ 35184372088832) (R : List Int) (hR : pss.flatten = R) :
  Calls Tryz.prog 45 #[.slice ao n c] w fun e w' => ∃ v, e = .returned v ∧ isO w.heap.size R.length R v w' ∧ Below w.heap.size w w' := by
 have HR : Hid (pss.flatten = R) := hR
 clear hR
 have HX : Hid (PartsAt w ao n pss) := hx
 have HN : Hid (pss.length = n ∧ pss.flatten.length ≤ 35184372088832) := ⟨hx.len, hm⟩
 obtain ⟨N, hN⟩ : ∃ N, pss.flatten.length = N := ⟨_, rfl⟩
 have HM : Hid (pss.flatten.length = N) := hN
 obtain ⟨i0, hi, hz0, hz1, hz2⟩ := info_parts info_byte
 obtain ⟨w0, hmk, ho1, hg0⟩ := run_make_own (P := Tryz.prog) w w.heap.size 32 5 i0 (.int .u8 0) 1 Tryz.underlying32 hi hz0 hz1 .i64 .i64 N (by rw [hz2]; omega) (by unfold maxLen; omega) (Nat.le_refl _)
 have hb1 : Below w.heap.size w w0 := (Below.refl _ _).grown hg0 (Nat.le_refl _) (fun j hj => by cases hj)
 have H0 : Hid (w0.ownsRow w.heap.size 5 1 (.slice (some ⟨w.heap.size, 0, none⟩) 0 N) 0 [] ∧ Below w.heap.size w w0) ∨ True := .inr trivial
 clear hx hm hN H0
 go_enter Tryz.func45, Tryz.ntmps45
 go_wp2
 go_loopw [3, 11] (fun s i wr => ∃ k : Nat, k ≤ n ∧ i = .int .i64 k ∧ s = .int .i64 ((pss.take k).flatten.length : Nat) ∧ w = wr) (fun _ i _ => n - (intOf i).toNat)
 case atStart => exact ⟨0, Nat.zero_le _, rfl, rfl, rfl⟩
 case round =>
  obtain ⟨k, hk, rfl, rfl, rfl⟩ := hrel
  by_cases hlt : k < n
  ·obtain ⟨b, o, so, cs, rfl, hb, hc, hs, hl, hno⟩ := HX.out.cells k hlt
   have E1 := flat_succ pss k (by have := HN.out.1; omega)
   obtain ⟨p, hp⟩ : ∃ p, pss.getD k [] = p := ⟨_, rfl⟩
   obtain ⟨m, hm⟩ : ∃ m, (pss.take k).flatten = m := ⟨_, rfl⟩
   rw [hp, hm] at E1
   rw [hp] at hc
   rw [hm]
   have M1 : m.length + p.length ≤ 35184372088832 := by
    have h2 := flat_le pss (k + 1)
    rw [E1, List.length_append] at h2
    have := HN.out.2
    omega
   have HE : Hid ((pss.take (k + 1)).flatten.length = m.length + p.length) := by show _ = _; rw [E1, List.length_append]
   have i1 : (0 : Int) ≤ (k : Int) := by omega
   have i2 : (k : Int) < (n : Int) := by omega
   clear hs hl hno hp hm E1 hmk ho1 hg0 hb1
   go_wp2
   go_roundw
   case rel => exact ⟨k + 1, by omega, by go_num, by rw [HE.out]; go_num, by first | rfl | trivial⟩
   case measure => simp [intOf] <;> omega
  ·obtain rfl : k = n := by omega
   rw [List.take_of_length_le (by have := HN.out.1; omega), HM.out]
   have i2 : ¬ ((k : Int) < (k : Int)) := by omega
   go_wp2
   go_loopw [6, 24] (fun v i wr => ∃ j : Nat, j ≤ k ∧ i = .int .i64 j ∧ wr.ownsRow w.heap.size 5 1 v (pss.take j).flatten.length ((pss.take j).flatten.map (Value.int .u8)) ∧ Below w.heap.size w wr) (fun _ i _ => k - (intOf i).toNat)
   case atStart => exact ⟨0, Nat.zero_le _, rfl, ho1, hb1⟩
   case round =>
    clear ho1 hb1 hg0 hmk
    obtain ⟨j, hj, rfl, hown, hbel⟩ := hrel
    by_cases hlt : j < k
    ·obtain ⟨b, o, so, cs, rfl, hb, hc, hs, hl, hno⟩ := HX.out.cells j hlt
     have E1 := flat_succ pss j (by have := HN.out.1; omega)
     have M1 : (pss.take j).flatten.length + (pss.getD j []).length ≤ 35184372088832 := by
      have h2 := flat_le pss (j + 1)
      rw [E1, List.length_append] at h2
      have := HN.out.2
      omega
     obtain ⟨p, hp⟩ : ∃ p, pss.getD j [] = p := ⟨_, rfl⟩
     obtain ⟨m, hm⟩ : ∃ m, (pss.take j).flatten = m := ⟨_, rfl⟩
     rw [hp] at hc hs hl E1 M1
     rw [hm] at E1 M1 hown
     have HE : Hid ((pss.take (j + 1)).flatten = m ++ p ∧ m.length + p.length ≤ 35184372088832) := ⟨E1, M1⟩
     have HS : Hid (Seen wr so p.length p ∧ (so = none → cs = 0)) := ⟨hs.later hbel (Nat.le_refl _), hno⟩
     have c1 := (hbel.cell (p := ⟨b, o + j, none⟩) hb).trans hc
     have HO : Hid (wr.ownsRow w.heap.size 5 1 u6 m.length (m.map (Value.int .u8)) ∧ Below w.heap.size w wr) := ⟨hown, hbel⟩
     have i1 : (0 : Int) ≤ (j : Int) := by omega
     have i2 : (j : Int) < (k : Int) := by omega
     clear E1 M1 hc hs hl hno hown hbel hp hm
     go_wp2_with (at_builtin; refine wpList_append_seen rfl _ _ rfl w.heap.size _ m.length _ rfl HO.out.1 so p.length cs p rfl HS.out.1 HS.out.2 (by have := HE.out.2; omega) HO.out.2.size ?_; intro v' w1 ho2 hg2)
     have R : Hid (w1.ownsRow w.heap.size 5 1 v' (pss.take (j + 1)).flatten.length ((pss.take (j + 1)).flatten.map (Value.int .u8)) ∧ Below w.heap.size w w1) := by
      refine ⟨?_, below_grown HO.out.2 HO.out.1 hg2⟩
      rw [HE.out.1, List.length_append, List.map_append]
      exact ho2
     clear ho2 hg2
     go_roundw
     case rel => exact ⟨j + 1, by omega, by go_num, R.out.1, R.out.2⟩
     case measure => simp [intOf] <;> omega
    ·obtain rfl : j = k := by omega
     rw [List.take_of_length_le (by have := HN.out.1; omega)] at hown
     rw [HR.out] at hown
     have HO : Hid (isO w.heap.size R.length R u6 wr ∧ Below w.heap.size w wr) := ⟨hown, hbel⟩
     have i2 : ¬ ((j : Int) < (j : Int)) := by omega
     clear hown hbel
     go_wp2
     go_ret
     exact ⟨_, rfl, HO.out⟩
theorem mayServe_any (n : Nat) (hn : n ≤ 140737488355328) (w : World) :
  Calls Tryz.prog 60 #[.int .i64 n] w fun e w' => e = .returned (.bool (decide (1 ≤ n ∧ n ≤ 8))) ∧ w = w' := by
 go_enter Tryz.func60, Tryz.ntmps60
 by_cases h : 1 ≤ n
 ·have i1 : (1 : Int) ≤ (n : Int) := by omega
  by_cases h' : n ≤ 8
  ·have i2 : (n : Int) ≤ 8 := by omega
   go_wp2
   go_ret
   exact ⟨by simp [h, h'], rfl⟩
  ·have i2 : ¬ (n : Int) ≤ 8 := by omega
   go_wp2
   go_ret
   exact ⟨by simp [h, h'], rfl⟩
 ·have i1 : ¬ (1 : Int) ≤ (n : Int) := by omega
  go_wp2
  go_ret
  exact ⟨by simp [h], rfl⟩
def peelE (n : Nat) : Int := if n < 48 then 4 else if 1048576 < n then 3 else 0
theorem checkBoxY_any (ao : Option Addr) (n c : Nat) (hn : n ≤ 140737488355328) (w : World) :
  Calls Tryz.prog 65 #[.slice ao n c] w fun e w' => e = .returned (.int .i64 (peelE n)) ∧ w = w' := by
 unfold peelE
 go_enter Tryz.func65, Tryz.ntmps65
 by_cases h : n < 48
 ·have i1 : (n : Int) < 48 := by omega
  rw [if_pos h]
  go_wp2
  go_ret
  exact ⟨rfl, rfl⟩
 ·have i1 : ¬ (n : Int) < 48 := by omega
  rw [if_neg h]
  by_cases h' : 1048576 < n
  ·have i2 : (1048576 : Int) < (n : Int) := by omega
   rw [if_pos h']
   go_wp2
   go_ret
   exact ⟨rfl, rfl⟩
  ·have i2 : ¬ (1048576 : Int) < (n : Int) := by omega
   rw [if_neg h']
   go_wp2
   go_ret
   exact ⟨rfl, rfl⟩
theorem zeroA64b : (Tryz.prog.info? 188).map (fun i => (i.zero, i.size)) = some (some (.agg (u8s (zer 64)).toArray), 64) := by kernel_rfl
theorem vsizeA64b : (Tryz.prog.info? 188).map (·.size) = some 64 := by kernel_rfl
theorem frame_any (ao : Option Addr) (n c : Nat) (zs : List Int) (w : World) (hx : Seen w ao n zs) (hc : n ≤ c) (hK : KTab w) :
  Calls Tryz.prog 230 #[.slice ao n c] w fun e w' => e = .returned (.agg (u8s (frm zs)).toArray) ∧ Below w.heap.size w w' := by
 have HX : Hid (Seen w ao n zs ∧ KTab w) := ⟨hx, hK⟩
 have HL : Hid (zs.length = n) := hx.len
 have ht := hx.top
 clear hx hK
 go_enter Tryz.func230, Tryz.ntmps230
 by_cases hn : 64 < n
 ·have i1 : (64 : Int) < (n : Int) := by omega
  have HF : Hid (frm zs = sha zs ++ zer 32) := by show frm zs = _; unfold frm keyS; rw [if_pos (by rw [HL.out]; exact hn), sha_length]
  go_wp2_with (first | ((with_reducible show wpList _ _ _ _ _ w); refine wpList_alloc_new rfl 188 rfl 64 _ zeroA64b ?_; intro w1 b1 s1 l1; have Z1 : Hid (w1.heap.size = w.heap.size + 1) := s1; clear s1) | (go_at_call 247; refine (dsum_any _ 1 1 [zs] _ (seenP1 w1 ao n c zs (HX.out.1.later l1 (Nat.le_refl _)) hc) (by decide) (by rw [show ([zs] : List (List Int)).flatten = zs by simp, HL.out]; omega) (HX.out.2.below (l1.alloc (by have := Z1.out; omega) _) HX.out.2.lt)).mono ?_; rintro e w2 ⟨rfl, l2⟩; rw [show ([zs] : List (List Int)).flatten = zs by simp]; have Z2 : Hid (w.heap.size + 1 < w2.heap.size) := (by have q := l2.size; have := Z1.out; simp at q; show _ < _; omega)) | (refine wpList_alloc_new rfl 131 rfl 32 _ zeroAH ?_; intro w3 b3 s3 l3; have Z3 : Hid (w3.heap.size = w2.heap.size + 1) := s3; clear s3) | (refine wpList_store_blk rfl 131 131 _ _ rfl _ rfl _ (u8s (sha zs)) rfl b3 (by rw [u8s_length, sha_length, u8s_length, zer_length]) (by rw [u8s_length, sha_length]; exact sizeAH) (u8s_one _) ?_; intro w4 b4 s4 k4; have Z4 : Hid (w4.heap.size = w3.heap.size) := s4; clear s4) | (refine wpList_alloc_new rfl 188 rfl 64 _ zeroA64b ?_; intro w5 b5 s5 l5; have Z5 : Hid (w5.heap.size = w4.heap.size + 1) := s5; clear s5; have S5 : Hid (Seen w5 (some ⟨w2.heap.size, 0, none⟩) 32 (sha zs)) := (by have q := seen_blk (b4.later l5 (by have := Z4.out; have := Z3.out; omega)) (sha_bytes zs) (by rw [sha_length]; decide); rw [sha_length] at q; exact q)) | (refine wpList_copy_seen rfl _ _ rfl w4.heap.size 0 64 64 _ _ 32 32 rfl rfl (sha zs) S5.out 188 [] (u8s (zer 32)) (u8s (zer 32)) b5 rfl 32 (by decide) (by rw [u8s_length, zer_length]) (fun _ => rfl) ?_; intro w6 b6 s6 k6; have B6 : Hid (Blk w6 w4.heap.size 188 (u8s (frm zs))) := (by show Blk w6 _ _ _; rw [HF.out]; rw [List.take_of_length_le (by rw [sha_length]; decide)] at b6; simpa [u8s] using b6); have G6 : Hid (Blk w6 w.heap.size 188 (u8s (zer 64)) ∧ Below w.heap.size w w6) := (by have := Z1.out; have := Z2.out; have := Z3.out; have := Z4.out; have := Z5.out; have lb := below_chain l1 ((Below.refl w1.heap.size w1).alloc (Nat.le_refl _) (.cells #[.slice ao n c] 32)) (by omega); have lc := below_chain lb l2 (by simp; omega); have ld := below_chain lc l3 (by omega); have le := below_kept ld k4 (by omega) (fun j hj => by omega); have lf := below_chain le l5 (by omega); have bb := (((b1.later ((Below.refl w1.heap.size w1).alloc (Nat.le_refl _) (.cells #[.slice ao n c] 32)) (by omega)).later l2 (by simp; omega)).later l3 (by omega)).kept k4 (by omega); exact ⟨(bb.later l5 (by omega)).kept k6 (by omega), below_kept lf k6 (by omega) (fun j hj => by omega)⟩)) | (refine wpList_load_blk rfl 188 _ rfl _ rfl (u8s (frm zs)) _ B6.out Tryz.underlying188 rfl (by rw [u8s_length, frm_length]; exact vsizeA64b) ?_) | (refine wpList_store_blk rfl 188 188 _ _ rfl _ rfl _ (u8s (frm zs)) rfl G6.out.1 (by rw [u8s_length, frm_length, u8s_length, zer_length]) (by rw [u8s_length, frm_length]; exact vsizeA64b) (u8s_one _) ?_; intro w7 b7 s7 k7))
  exact ret_blk rfl w.heap.size (u8s (frm zs)) _ rfl b7 Tryz.underlying188 rfl (by rw [u8s_length, frm_length]; exact vsizeA64b) rfl ⟨rfl, below_kept G6.out.2 k7 G6.out.2.size (fun j hj => by omega)⟩
 ·have i1 : ¬ (64 : Int) < (n : Int) := by omega
  have HB5 : Hid (∀ {W : World} {g : Nat}, Blk W g 188 (u8s (zer 64)) → Blk W g 188 ([] ++ (u8s (zer n) ++ u8s (zer (64 - n))))) := fun {W g} h => by rw [show (64 : Nat) = n + (64 - n) by omega, zer_add] at h; simpa [u8s] using h
  have HF : Hid (frm zs = zs ++ zer (64 - n)) := by show frm zs = _; unfold frm keyS; rw [if_neg (by rw [HL.out]; exact hn), HL.out]
  go_wp2_with (first | ((with_reducible show wpList _ _ _ _ _ w); refine wpList_alloc_new rfl 188 rfl 64 _ zeroA64b ?_; intro w1 b1 s1 l1; have Z1 : Hid (w1.heap.size = w.heap.size + 1) := s1; clear s1) | (refine wpList_alloc_new rfl 188 rfl 64 _ zeroA64b ?_; intro w5 b5 s5 l5; have Z5 : Hid (w5.heap.size = w1.heap.size + 1) := s5; clear s5) | (refine wpList_copy_seen rfl _ _ rfl w1.heap.size 0 64 64 _ _ n c rfl rfl zs ((HX.out.1.later l1 (Nat.le_refl _)).later l5 (Nat.le_refl _)) 188 [] (u8s (zer n)) (u8s (zer (64 - n))) (HB5.out b5) rfl n (Nat.min_eq_left (by omega)) (by rw [u8s_length, zer_length]) (fun _ => rfl) ?_; intro w6 b6 s6 k6; have B6 : Hid (Blk w6 w1.heap.size 188 (u8s (frm zs))) := (by show Blk w6 _ _ _; rw [HF.out]; rw [List.take_of_length_le (by rw [HL.out]; exact Nat.le_refl _)] at b6; simpa [u8s] using b6); have G6 : Hid (Blk w6 w.heap.size 188 (u8s (zer 64)) ∧ Below w.heap.size w w6) := (by have := Z1.out; have := Z5.out; have lf := below_chain l1 l5 (by omega); exact ⟨(b1.later l5 (by omega)).kept k6 (by omega), below_kept lf k6 (by omega) (fun j hj => by omega)⟩)) | (refine wpList_load_blk rfl 188 _ rfl _ rfl (u8s (frm zs)) _ B6.out Tryz.underlying188 rfl (by rw [u8s_length, frm_length]; exact vsizeA64b) ?_) | (refine wpList_store_blk rfl 188 188 _ _ rfl _ rfl _ (u8s (frm zs)) rfl G6.out.1 (by rw [u8s_length, frm_length, u8s_length, zer_length]) (by rw [u8s_length, frm_length]; exact vsizeA64b) (u8s_one _) ?_; intro w7 b7 s7 k7))
  exact ret_blk rfl w.heap.size (u8s (frm zs)) _ rfl b7 Tryz.underlying188 rfl (by rw [u8s_length, frm_length]; exact vsizeA64b) rfl ⟨rfl, below_kept G6.out.2 k7 G6.out.2.size (fun j hj => by omega)⟩
theorem begun_any (fr : List Int) (hl : fr.length = 64) (hb : Bytes fr) (c : Int) (w : World) (hK : KTab w) :
  Calls Tryz.prog 231 #[.agg (u8s fr).toArray, .int .u8 c] w fun e w' => ∃ g, e = .returned (.pointer (some ⟨g, 0, none⟩)) ∧ w.heap.size ≤ g ∧ Holds w' g (turn c fr) ∧ Below w.heap.size w w' := by
 have HL : Hid (fr.length = 64 ∧ Bytes fr) := ⟨hl, hb⟩
 have HK : Hid (KTab w) := hK
 clear hl hb hK
 go_enter Tryz.func231, Tryz.ntmps231
 go_wp2_with (first | (refine wpList_box_new rfl 188 _ rfl (u8s fr) rfl ?_; intro w1 b1 s1 l1; have Z1 : Hid (w1.heap.size = w.heap.size + 1) := s1; clear s1))
 go_loopw [7] (fun i wr => ∃ k : Nat, k ≤ 64 ∧ i = .int .i64 k ∧ Blk wr w.heap.size 188 (u8s (turn c (fr.take k) ++ fr.drop k)) ∧ Kept (fun b => b = w.heap.size) w1 wr) (fun i _ => 64 - (intOf i).toNat)
 case atStart => exact ⟨0, by decide, rfl, b1, Kept.refl _ _⟩
 case round =>
  obtain ⟨k, hk, rfl, hb, hkp⟩ := hrel
  have hfl := HL.out.1
  have hll : (turn c (fr.take k) ++ fr.drop k).length = 64 := by simp [turn_length]; omega
  by_cases hlt : k < 64
  ·have cs := u8s_cell hb k (by omega)
   have fs := hb.frozen k
   have e0 : (turn c (fr.take k) ++ fr.drop k).getD k 0 = fr.getD k 0 := by
    have q : (turn c (fr.take k)).length = k := by simp [turn_length]; omega
    simp [List.getD, List.getElem?_append_right, q]
   rw [e0] at cs
   have E1 : Hid ((turn c (fr.take k) ++ fr.drop k).set k (bits .xor .u8 (fr.getD k 0) c) = turn c (fr.take (k + 1)) ++ fr.drop (k + 1)) := by
    show _ = _
    have q : (turn c (fr.take k)).length = k := by simp [turn_length]; omega
    rw [List.set_append_right _ _ (by omega), q, Nat.sub_self, List.drop_eq_getElem_cons (by omega), List.set_cons_zero, List.take_succ_eq_append_getElem (by omega), turn, turn, List.map_append, List.append_assoc]
    simp [List.getD, show k < fr.length by omega]
   have X0 : Hid (Blk wr w.heap.size 188 (u8s (turn c (fr.take k) ++ fr.drop k)) ∧ Kept (fun b => b = w.heap.size) w1 wr) := ⟨hb, hkp⟩
   obtain ⟨y, hy⟩ : ∃ y, fr.getD k 0 = y := ⟨_, rfl⟩
   rw [hy] at cs E1
   have i1 : (0 : Int) ≤ (k : Int) := by omega
   have i2 : (k : Int) < 64 := by omega
   clear hb hkp hll e0 hy hfl
   go_wp2
   have R1 := X0.out.1.set k (.int .u8 (bits .xor .u8 y c))
   rw [u8s_set, E1.out] at R1
   exact ⟨⟨k + 1, by omega, by go_num, R1, X0.out.2.setCell (S := fun b => b = w.heap.size) rfl _⟩, by simp [intOf]; omega⟩
  ·obtain rfl : k = 64 := by omega
   rw [show ((64 : Nat) : Int) = 64 from rfl]
   rw [List.take_of_length_le (by omega), List.drop_of_length_le (by omega), List.append_nil] at hb
   have X1 : Hid (Blk wr w.heap.size 188 (u8s (turn c fr)) ∧ KTab wr ∧ Below w.heap.size w wr ∧ w.heap.size < wr.heap.size ∧ (turn c fr).length = 64) := by
    have B1 : Below w.heap.size w wr := below_kept l1 hkp (by have := Z1.out; omega) (fun j hj => by omega)
    exact ⟨hb, HK.out.below B1 HK.out.lt, B1, hb.lt, by rw [turn_length, hfl]⟩
   clear hb hkp hll hfl b1 l1
   go_wp2_with (first | (go_at_call 248; refine (new_holds _).mono ?_; rintro e w2 ⟨g, rfl, hg, h2, l2⟩; have S2 : Hid (Seen w2 (some ⟨w.heap.size, 0, none⟩) 64 (turn c fr)) := (by have q := seen_blk (X1.out.1.later l2 X1.out.2.2.2.1) (turn_bytes c fr) (by rw [X1.out.2.2.2.2]; decide); rw [X1.out.2.2.2.2] at q; exact q); have G2 : Hid (Holds w2 g [] ∧ KTab w2 ∧ Below w.heap.size w w2 ∧ wr.heap.size ≤ g) := ⟨h2, X1.out.2.1.below l2 X1.out.2.1.lt, below_chain X1.out.2.2.1 l2 (Nat.le_of_lt X1.out.2.2.2.1), hg⟩; clear h2 l2 hg) | (go_at_call 206; refine (dwrite_any g [] _ 64 64 (turn c fr) _ G2.out.1 S2.out (Nat.le_refl _) (fun b o _ e => by have e2 := e; simp at e2; have := X1.out.2.2.2.1; have := G2.out.2.2.2; omega) G2.out.2.1 (by have := X1.out.2.2.2.1; have := G2.out.2.2.2; omega) (by decide)).mono ?_; rintro e w3 ⟨rfl, h3, k3⟩; have G3 : Hid (Holds w3 g (turn c fr) ∧ Below w.heap.size w w3 ∧ w.heap.size ≤ g) := ⟨h3, below_kept G2.out.2.2.1 k3 G2.out.2.2.1.size (fun j hj => by have := G2.out.2.2.2; have := X1.out.2.2.2.1; omega), by have := G2.out.2.2.2; have := X1.out.2.2.2.1; omega⟩; clear h3 k3))
   go_ret
   exact ⟨g, rfl, G3.out.2.2, G3.out.1, G3.out.2.1⟩
theorem zeroKeyed : (Tryz.prog.info? 247).map (fun i => (i.zero, i.size)) = some (some (.agg [Value.pointer none, .pointer none].toArray), 2) := by kernel_rfl
theorem sizeKeyed : (Tryz.prog.info? 247).map (·.size) = some 2 := by kernel_rfl
theorem keyedBy_any (ao : Option Addr) (n c : Nat) (zs : List Int) (w : World) (hx : Seen w ao n zs) (hc : n ≤ c) (hK : KTab w) :
  Calls Tryz.prog 205 #[.slice ao n c] w fun e w' => ∃ g h, e = .returned (.agg #[.pointer (some ⟨g, 0, none⟩), .pointer (some ⟨h, 0, none⟩)]) ∧ w.heap.size ≤ g ∧ w.heap.size ≤ h ∧ g ≠ h ∧ Holds w' g (turn 54 (frm zs)) ∧ Holds w' h (turn 92 (frm zs)) ∧ Below w.heap.size w w' := by
 have HX : Hid (Seen w ao n zs ∧ KTab w ∧ n ≤ c ∧ Bytes zs) := ⟨hx, hK, hc, hx.bytes⟩
 have HF : Hid ((frm zs).length = 64 ∧ Bytes (frm zs)) := ⟨frm_length _, frm_bytes _ hx.bytes⟩
 clear hx hK hc
 go_enter Tryz.func205, Tryz.ntmps205
 go_wp2_with (first | (refine wpList_alloc_new rfl 247 rfl 2 [.pointer none, .pointer none] zeroKeyed ?_; intro w0 b0 s0 l0; have Z0 : Hid (w0.heap.size = w.heap.size + 1) := s0; clear s0) | (go_at_call 230; refine (frame_any ao n c zs _ (HX.out.1.later l0 (Nat.le_refl _)) HX.out.2.2.1 (HX.out.2.1.below l0 HX.out.2.1.lt)).mono ?_; rintro e w1 ⟨rfl, l1⟩; have G1 : Hid (Below w.heap.size w w1 ∧ Blk w1 w.heap.size 247 [.pointer none, .pointer none] ∧ KTab w1 ∧ w.heap.size < w1.heap.size) := (by have := Z0.out; have q := l1.size; have B1 := below_chain l0 l1 (by omega); exact ⟨B1, b0.later l1 (by omega), HX.out.2.1.below B1 HX.out.2.1.lt, by omega⟩); clear l1 l0 b0) | (refine wpList_alloc_new rfl 188 rfl 64 _ zeroA64b ?_; intro w2 b2 s2 l2; have Z2 : Hid (w2.heap.size = w1.heap.size + 1) := s2; clear s2) | (refine wpList_store_blk rfl 188 188 _ _ rfl _ rfl _ (u8s (frm zs)) rfl b2 (by rw [u8s_length, frm_length, u8s_length, zer_length]) (by rw [u8s_length, frm_length]; exact vsizeA64b) (u8s_one _) ?_; intro w3 b3 s3 k3; have G3 : Hid (Blk w3 w1.heap.size 188 (u8s (frm zs)) ∧ Below w.heap.size w w3 ∧ Blk w3 w.heap.size 247 [.pointer none, .pointer none] ∧ KTab w3 ∧ w.heap.size < w1.heap.size ∧ w1.heap.size < w3.heap.size) := (by have := Z2.out; have q := G1.out.2.2.2; have B3 := below_kept (below_chain G1.out.1 l2 (by omega)) k3 (by omega) (fun j hj => by omega); exact ⟨b3, B3, (G1.out.2.1.later l2 (by omega)).kept k3 (by omega), HX.out.2.1.below B3 HX.out.2.1.lt, q, by omega⟩); clear b3 s3 k3 b2 l2))
 obtain ⟨q1, q2⟩ := G3.out.2.2.2.2
 have HR : Hid (∀ W, Below w3.heap.size w3 W → W.rangeAt w1.heap.size 0 (u8s (frm zs))) := fun W hW j v hv => by rw [Nat.zero_add, (G3.out.1.later hW q2).cell]; exact hv
 have u2 : (Tryz.prog.info? 188).map (·.size) = some (u8s (frm zs)).length := by rw [u8s_length, frm_length]; exact vsizeA64b
 simp only [Act.put, sA, sB, sC]
 refine wp_region_noPanic (wp_region_held_drew (S := fun W => W.rangeAt w1.heap.size 0 (u8s (frm zs))) (by kernel_rfl) (HR.out _ (below_dn (Below.refl _ _) 1)) (fun hH => ?_))
 refine hLoad 0 (some 6) (u8s (frm zs)) rfl rfl (by kernel_rfl) (by kernel_rfl) (by kernel_rfl) (fun _ _ _ h => h) (by rfl) 188 (.tmp 3) rfl w1.heap.size 0 rfl _ (fun _ h => h) Tryz.underlying188 rfl u2 hH ?_
 simp only [Act.put, sA, sB, sC]
 refine hLoad 2 (some 8) (u8s (frm zs)) rfl rfl (by kernel_rfl) (by kernel_rfl) (by kernel_rfl) (fun _ _ _ h => h) (by rfl) 188 (.tmp 3) rfl w1.heap.size 0 rfl _ (fun _ h => h) Tryz.underlying188 rfl u2 hH ?_
 simp only [Act.put, sA, sB, sC]
 refine wpAnyH_ready (rs := [1]) (by kernel_rfl) (by simp) (AllReadyH.cons rfl (fun K hK => ?_) AllReadyH.nil)
 go_simp
 go_wp2_with (go_at_call 231; refine (begun_any (frm zs) HF.out.1 HF.out.2 54 w3.drew G3.out.2.2.2.1).mono ?_; rintro e w4 ⟨g, rfl, hg, h4, l4⟩; have G4 : Hid (Below w3.heap.size w3 w4 ∧ Holds w4 g (turn 54 (frm zs)) ∧ w3.heap.size ≤ g ∧ g < w4.heap.size ∧ KTab w4) := (by have B4 := below_chain (below_dn (Below.refl w3.heap.size w3) 1) l4 (Nat.le_refl _); exact ⟨B4, h4, hg, h4.lt, G3.out.2.2.2.1.below B4 G3.out.2.2.2.1.lt⟩); clear hg h4 l4)
 refine hK.out _ _ (HR.out _ G4.out.1) (fun hH => ?_)
 clear hK K
 refine wpAnyH_ready (rs := [3]) (by kernel_rfl) (by simp) (AllReadyH.cons rfl (fun K hK => ?_) AllReadyH.nil)
 go_simp
 go_wp2_with (go_at_call 231; refine (begun_any (frm zs) HF.out.1 HF.out.2 92 w4 G4.out.2.2.2.2).mono ?_; rintro e w5 ⟨g', rfl, hg, h5, l5⟩; have G5 : Hid (Below w3.heap.size w3 w5 ∧ Holds w5 g (turn 54 (frm zs)) ∧ Holds w5 g' (turn 92 (frm zs)) ∧ w3.heap.size ≤ g ∧ w3.heap.size ≤ g' ∧ g ≠ g') := (by have q4 := G4.out.1.size; have q5 := G4.out.2.2.2.1; exact ⟨below_chain G4.out.1 l5 q4, G4.out.2.1.later l5 G4.out.2.1.lt, h5, G4.out.2.2.1, by omega, by omega⟩); clear hg h5 l5)
 refine hK.out _ _ (HR.out _ G5.out.1) (fun hH => ?_)
 clear hK K
 refine hTake 4 (some 10) (.agg #[.pointer (some ⟨g, 0, none⟩), .pointer (some ⟨g', 0, none⟩)]) rfl rfl (by kernel_rfl) (by kernel_rfl) (by kernel_rfl) (fun _ _ _ h => h) (by rfl) (fun _ _ => by go_simp) hH ?_
 simp only [Act.put, sA, sB, sC]
 refine wpAnyH_ready (rs := [5]) (by kernel_rfl) (by simp) (AllReadyH.cons rfl (fun K hK => ?_) AllReadyH.nil)
 have B5 := G3.out.2.2.1.later G5.out.1 (by omega)
 refine step_store rfl (by rfl) 247 (.tmp 2) (.tmp 10) rfl w.heap.size 0 rfl [.pointer (some ⟨g, 0, none⟩), .pointer (some ⟨g', 0, none⟩)] rfl (B5.there (Nat.le_refl 2)) sizeKeyed (by intro v hv; simp at hv; rcases hv with rfl | rfl <;> rfl) ?_
 have K6 := (Kept.refl (fun b => b = w.heap.size) w5).setCells (S := fun b => b = w.heap.size) rfl 0 [.pointer (some ⟨g, 0, none⟩), .pointer (some ⟨g', 0, none⟩)]
 have B6 := Blk.setCells (w := w5) (g := w.heap.size) (t := 247) (xs := []) (zs := []) [Value.pointer (some ⟨g, 0, none⟩), .pointer (some ⟨g', 0, none⟩)] [Value.pointer none, .pointer none] rfl B5
 obtain ⟨w6, hw6⟩ : ∃ w6, w5.setCells w.heap.size 0 [Value.pointer (some ⟨g, 0, none⟩), .pointer (some ⟨g', 0, none⟩)] = w6 := ⟨_, rfl⟩
 change Blk (w5.setCells w.heap.size 0 [Value.pointer (some ⟨g, 0, none⟩), .pointer (some ⟨g', 0, none⟩)]) _ _ _ at B6
 rw [hw6] at K6 B6 ⊢
 refine hK.out _ _ ?_ (fun hH => ?_)
 ·intro j v hv
  rw [Nat.zero_add, ((G3.out.1.later G5.out.1 q2).kept K6 (by omega)).cell]; exact hv
 clear hK K
 refine wpAnyH_done (by kernel_rfl) (NoPanic.normal ?_) _
 have G6 : Hid (Blk w6 w.heap.size 247 [.pointer (some ⟨g, 0, none⟩), .pointer (some ⟨g', 0, none⟩)] ∧ Holds w6 g (turn 54 (frm zs)) ∧ Holds w6 g' (turn 92 (frm zs)) ∧ Below w.heap.size w w6 ∧ w.heap.size ≤ g ∧ w.heap.size ≤ g' ∧ g ≠ g') := by
  obtain ⟨x1, x2, x3, x4, x5, x6⟩ := G5.out
  exact ⟨B6, x2.kept K6 (by omega), x3.kept K6 (by omega), below_kept (below_chain G3.out.2.1 x1 G3.out.2.1.size) K6 (by have := x1.size; have := G3.out.2.1.size; omega) (fun j hj => by omega), by omega, by omega, x6⟩
 clear B5 K6 B6 hw6 hH
 go_wp2
 exact ret_blk rfl w.heap.size _ _ rfl G6.out.1 Tryz.underlying247 rfl sizeKeyed rfl ⟨g, g', rfl, G6.out.2.2.2.2.1, G6.out.2.2.2.2.2.1, G6.out.2.2.2.2.2.2, G6.out.2.1, G6.out.2.2.1, G6.out.2.2.2.1⟩
structure Keyed (w : World) (g h : Nat) (key text : List Int) : Prop where
 ne : g ≠ h
 inn : Holds w g (turn 54 (frm key) ++ text)
 out : Holds w h (turn 92 (frm key))
theorem copy_holds (g : Nat) (m : List Int) (w : World) (h : Holds w g m) : Calls Tryz.prog 235 #[.pointer (some ⟨g, 0, none⟩)] w fun e w' => ∃ g', e = .returned (.pointer (some ⟨g', 0, none⟩)) ∧ w.heap.size ≤ g' ∧ Holds w' g' m ∧ Below w.heap.size w w' :=
 (copy_any g _ _ _ w h.hash).mono fun _ _ ⟨g', e, h1, h2, h3⟩ => ⟨g', e, h1, ⟨h2⟩, h3⟩
theorem code_any (g h : Nat) (key text : List Int) (w : World) (hk : Keyed w g h key text) (hK : KTab w) :
  Calls Tryz.prog 207 #[.agg #[.pointer (some ⟨g, 0, none⟩), .pointer (some ⟨h, 0, none⟩)]] w fun e w' => e = .returned (.agg (u8s (mac key text)).toArray) ∧ Below w.heap.size w w' := by
 have HX : Hid (Keyed w g h key text ∧ KTab w) := ⟨hk, hK⟩
 obtain ⟨I, hI⟩ : ∃ I, turn 54 (frm key) ++ text = I := ⟨_, rfl⟩
 have HI : Hid (Holds w g I ∧ mac key text = sha (turn 92 (frm key) ++ sha I)) := ⟨by rw [← hI]; exact hk.inn, by rw [mac, hI]⟩
 clear hk hK hI
 go_enter Tryz.func207, Tryz.ntmps207
 go_wp2_with (first | (refine wpList_box_new rfl 247 _ rfl [.pointer (some ⟨g, 0, none⟩), .pointer (some ⟨h, 0, none⟩)] rfl ?_; intro w1 b1 s1 l1; have Z1 : Hid (w1.heap.size = w.heap.size + 1) := s1; clear s1) | (refine wpList_alloc_new rfl 131 rfl 32 _ zeroAH ?_; intro w2 b2 s2 l2; have Z2 : Hid (w2.heap.size = w1.heap.size + 1) := s2; clear s2))
 have HB : Hid (Below w.heap.size w w2 ∧ Blk w2 w.heap.size 247 [.pointer (some ⟨g, 0, none⟩), .pointer (some ⟨h, 0, none⟩)] ∧ Blk w2 w1.heap.size 131 (u8s (zer 32)) ∧ w1.heap.size = w.heap.size + 1 ∧ w2.heap.size = w.heap.size + 2) := by
  have := Z1.out; have := Z2.out
  exact ⟨below_chain l1 l2 (by omega), b1.later l2 (by omega), b2, Z1.out, by omega⟩
 have HG : Hid (∀ W, Below w2.heap.size w2 W → Holds W g I ∧ Holds W h (turn 92 (frm key)) ∧ KTab W ∧ Blk W w1.heap.size 131 (u8s (zer 32)) ∧ W.cell? ⟨w.heap.size, 0, none⟩ = some (.pointer (some ⟨g, 0, none⟩)) ∧ W.cell? ⟨w.heap.size, 1, none⟩ = some (.pointer (some ⟨h, 0, none⟩)) ∧ Below w.heap.size w W) := fun W hW => by
  obtain ⟨x1, x2, x3, x4, x5⟩ := HB.out
  have bW := below_chain x1 hW (by omega)
  have c0 := (x2.later hW (by omega)).cell 0
  have c1 := (x2.later hW (by omega)).cell 1
  exact ⟨HI.out.1.later bW HI.out.1.lt, HX.out.1.out.later bW HX.out.1.out.lt, HX.out.2.below bW HX.out.2.lt, x3.later hW (by omega), c0, c1, bW⟩
 clear b1 l1 b2 l2
 have hS0 := HG.out w2.drew (below_dn (Below.refl _ _) 1)
 simp only [Act.put, List.setIfInBounds_toArray, List.set_cons_zero, List.set_cons_succ]
 refine wp_region_noPanic (wp_region_held_drew (S := fun W => W.cell? ⟨w.heap.size, 0, none⟩ = some (.pointer (some ⟨g, 0, none⟩)) ∧ W.cell? ⟨w.heap.size, 1, none⟩ = some (.pointer (some ⟨h, 0, none⟩))) (by kernel_rfl) ⟨hS0.2.2.2.2.1, hS0.2.2.2.2.2.1⟩ (fun hH => ?_))
 clear hS0
 refine hTake 0 (some 5) (.pointer (some ⟨w.heap.size, 0, none⟩)) rfl rfl (by kernel_rfl) (by kernel_rfl) (by kernel_rfl) (fun _ _ _ h => h) (by rfl) (fun _ _ => by rfl) hH ?_
 simp only [Act.put, List.setIfInBounds_toArray, List.set_cons_zero, List.set_cons_succ]
 refine hTake 1 (some 6) (.pointer (some ⟨g, 0, none⟩)) rfl rfl (by kernel_rfl) (by kernel_rfl) (by kernel_rfl) (fun _ _ _ h => h) (by rfl) (fun W hS => by have c := hS.1; go_simp) hH ?_
 simp only [Act.put, List.setIfInBounds_toArray, List.set_cons_zero, List.set_cons_succ]
 refine hTake 3 (some 8) (.pointer (some ⟨w.heap.size, 1, none⟩)) rfl rfl (by kernel_rfl) (by kernel_rfl) (by kernel_rfl) (fun _ _ _ h => h) (by rfl) (fun _ _ => by rfl) hH ?_
 simp only [Act.put, List.setIfInBounds_toArray, List.set_cons_zero, List.set_cons_succ]
 refine hTake 4 (some 9) (.pointer (some ⟨h, 0, none⟩)) rfl rfl (by kernel_rfl) (by kernel_rfl) (by kernel_rfl) (fun _ _ _ h => h) (by rfl) (fun W hS => by have c := hS.2; go_simp) hH ?_
 simp only [Act.put, List.setIfInBounds_toArray, List.set_cons_zero, List.set_cons_succ]
 have L0 : Hid (Below w2.heap.size w2 w2.drew) := below_dn (Below.refl _ _) 1
 clear hH
 refine wpAnyH_ready (rs := [2, 6]) (by kernel_rfl) (by simp) (AllReadyH.cons rfl (fun K hK => ?_) (AllReadyH.cons rfl (fun K hK => ?_) AllReadyH.nil))
 ·go_simp
  go_wp2_with (go_at_call 234; refine (sum_holds g I w2.drew (HG.out _ L0.out).1 (HG.out _ L0.out).2.2.1).mono ?_; rintro e v1 ⟨rfl, l1⟩)
  have L1 : Hid (Below w2.heap.size w2 v1) := below_chain L0.out l1 L0.out.size
  clear l1
  refine hK.out _ _ ⟨(HG.out _ L1.out).2.2.2.2.1, (HG.out _ L1.out).2.2.2.2.2.1⟩ (fun hH => ?_)
  clear hK K hH
  refine wpAnyH_ready (rs := [5, 6]) (by kernel_rfl) (by simp) (AllReadyH.cons rfl (fun K hK => ?_) (AllReadyH.cons rfl (fun K hK => ?_) AllReadyH.nil))
  ·go_simp
   go_wp2_with (go_at_call 235; refine (copy_holds h (turn 92 (frm key)) v1 (HG.out _ L1.out).2.1).mono ?_; rintro e v2 ⟨G', rfl, hG', hC', l2⟩)
   have L2 : Hid (Below w2.heap.size w2 v2) := below_chain L1.out l2 L1.out.size
   have C2 : Hid (Holds v2 G' (turn 92 (frm key)) ∧ v1.heap.size ≤ G') := ⟨hC', hG'⟩
   clear hC' hG'
   clear l2
   refine hK.out _ _ ⟨(HG.out _ L2.out).2.2.2.2.1, (HG.out _ L2.out).2.2.2.2.2.1⟩ (fun hH => ?_)
   clear hK K hH
   refine wpAnyH_ready (rs := [6]) (by kernel_rfl) (by simp) (AllReadyH.cons rfl (fun K hK => ?_) AllReadyH.nil)
   refine step_alloc_new rfl 131 rfl 32 (u8s (zer 32)) zeroAH (some 3) rfl ?_
   intro v3 bA sA l3
   have L3 : Hid (Below w2.heap.size w2 v3) := below_chain L2.out l3 L2.out.size
   have C3 : Hid (Holds v3 G' (turn 92 (frm key)) ∧ w2.heap.size ≤ G' ∧ G' < v2.heap.size) := ⟨C2.out.1.later l3 C2.out.1.lt, by have := C2.out.2; have := L1.out.size; omega, C2.out.1.lt⟩
   have A3 : Hid (Blk v3 v2.heap.size 131 (u8s (zer 32)) ∧ v2.heap.size < v3.heap.size) := ⟨bA, by change _ = v2.heap.size + 1 at sA; omega⟩
   clear bA sA
   clear l3
   refine hK.out _ _ ⟨(HG.out _ L3.out).2.2.2.2.1, (HG.out _ L3.out).2.2.2.2.2.1⟩ (fun hH => ?_)
   clear hK K hH
   obtain ⟨A, hA, X6⟩ : ∃ A, v2.heap.size = A ∧ Hid (Below w2.heap.size w2 v3 ∧ Blk v3 A 131 (u8s (zer 32)) ∧ Holds v3 G' (turn 92 (frm key)) ∧ w2.heap.size ≤ A ∧ w2.heap.size ≤ G' ∧ A ≠ G') := by
    have q0 := L0.out.size; have q1 := L1.out.size; have q2 := L2.out.size; have q3 := C3.out.2; have q4 := A3.out.2; have d1 := A3.out.1.lt; have d2 := C3.out.1.lt
    exact ⟨_, rfl, L3.out, A3.out.1, C3.out.1, by omega, by omega, by omega⟩
   rw [hA]
   clear hA A3 C3
   refine wpAnyH_ready (rs := [7]) (by kernel_rfl) (by simp) (AllReadyH.cons rfl (fun K hK => ?_) AllReadyH.nil)
   refine step_store rfl (by rfl) 131 (.tmp 3) (.tmp 7) rfl A 0 rfl (u8s (sha I)) rfl (X6.out.2.1.there (by rw [u8s_length, u8s_length, sha_length, zer_length]; decide)) (by rw [u8s_length, sha_length]; exact sizeAH) (u8s_one _) ?_
   have K7 := (Kept.refl (fun b => b = A) v3).setCells (S := fun b => b = A) rfl 0 (u8s (sha I))
   have B7 := Blk.setCells (w := v3) (g := A) (t := 131) (xs := []) (zs := []) (u8s (sha I)) (u8s (zer 32)) (by rw [u8s_length, u8s_length, sha_length, zer_length]) (by simpa using X6.out.2.1)
   simp only [List.nil_append, List.append_nil, List.length_nil] at B7
   obtain ⟨v4, hv4⟩ : ∃ v4, v3.setCells A 0 (u8s (sha I)) = v4 := ⟨_, rfl⟩
   rw [hv4] at K7 B7 ⊢
   have X7 : Hid (Blk v4 A 131 (u8s (sha I)) ∧ Holds v4 G' (turn 92 (frm key)) ∧ Blk v4 w1.heap.size 131 (u8s (zer 32)) ∧ KTab v4 ∧ Below w.heap.size w v4 ∧ v4.cell? ⟨w.heap.size, 0, none⟩ = some (.pointer (some ⟨g, 0, none⟩)) ∧ v4.cell? ⟨w.heap.size, 1, none⟩ = some (.pointer (some ⟨h, 0, none⟩)) ∧ A ≠ G' ∧ w.heap.size + 2 ≤ A ∧ w.heap.size + 2 ≤ G') := by
    obtain ⟨x1, x2, x3, x4, x5, x6⟩ := X6.out
    obtain ⟨y1, y2, y3, y4, y5, y6, y7⟩ := HG.out _ x1
    have z1 := HB.out.2.2.2.1
    have z2 := HB.out.2.2.2.2
    exact ⟨B7, x3.kept K7 (fun e => x6 e.symm), y4.kept K7 (by omega), y3.kept K7 (by omega), below_kept y7 K7 y7.size (fun j hj => by omega), (K7.cell (p := ⟨w.heap.size, 0, none⟩) (by have := x2.lt; show w.heap.size < _; omega) (by show ¬ w.heap.size = A; omega)).trans y5, (K7.cell (p := ⟨w.heap.size, 1, none⟩) (by have := x2.lt; show w.heap.size < _; omega) (by show ¬ w.heap.size = A; omega)).trans y6, x6, by omega, by omega⟩
   clear K7 B7 hv4 X6
   refine hK.out _ _ ⟨X7.out.2.2.2.2.2.1, X7.out.2.2.2.2.2.2.1⟩ (fun hH => ?_)
   clear hK K
   refine hTake 8 (some 4) (.pointer (some ⟨G', 0, none⟩)) rfl rfl (by kernel_rfl) (by kernel_rfl) (by kernel_rfl) (fun _ _ _ h => h) (by rfl) (fun _ _ => by rfl) hH ?_
   simp only [Act.put, List.setIfInBounds_toArray, List.set_cons_zero, List.set_cons_succ]
   refine wpAnyH_done (by kernel_rfl) (NoPanic.normal ?_) _
   clear hH
   go_wp2_with (first | (go_at_call 206; refine (dwrite_any G' (turn 92 (frm key)) (some ⟨A, 0, none⟩) 32 32 (sha I) _ X7.out.2.1 (by have q := seen_blk X7.out.1 (sha_bytes I) (by rw [sha_length]; decide); rw [sha_length] at q; exact q) (Nat.le_refl _) (fun b o _ e => by simp at e; have := X7.out.2.2.2.2.2.2.2.1; omega) X7.out.2.2.2.1 (by have := X7.out.2.2.2.2.2.2.2.2.2; omega) (by rw [turn_frm]; decide)).mono ?_; rintro e v5 ⟨rfl, h5, k5⟩; have X8 : Hid (Holds v5 G' (turn 92 (frm key) ++ sha I) ∧ Blk v5 w1.heap.size 131 (u8s (zer 32)) ∧ KTab v5 ∧ Below w.heap.size w v5) := (by obtain ⟨x1, x2, x3, x4, x5, x6, x7, x8, x9, x10⟩ := X7.out; have z1 := HB.out.2.2.2.1; exact ⟨h5, x3.kept k5 (by omega), x4.kept k5 (by omega), below_kept x5 k5 x5.size (fun j hj => by omega)⟩); clear h5 k5) | (go_at_call 234; refine (sum_holds G' _ _ X8.out.1 X8.out.2.2.1).mono ?_; rintro e v6 ⟨rfl, l6⟩; rw [← HI.out.2]; have X9 : Hid (Blk v6 w1.heap.size 131 (u8s (zer 32)) ∧ Below w.heap.size w v6) := ⟨X8.out.2.1.later l6 X8.out.2.1.lt, below_chain X8.out.2.2.2 l6 X8.out.2.2.2.size⟩; clear l6) | (refine wpList_store_blk rfl 131 131 _ _ rfl _ rfl _ (u8s (mac key text)) rfl X9.out.1 (by rw [u8s_length, mac_length, u8s_length, zer_length]) (by rw [u8s_length, mac_length]; exact sizeAH) (u8s_one _) ?_; intro v7 b7 s7 k7))
   exact ret_blk rfl w1.heap.size (u8s (mac key text)) _ rfl b7 Tryz.underlying131 rfl (by rw [u8s_length, mac_length]; exact sizeAH) rfl ⟨rfl, below_kept X9.out.2 k7 X9.out.2.size (fun j hj => by have := HB.out.2.2.2.1; omega)⟩
  ·refine step_alloc_new rfl 131 rfl 32 (u8s (zer 32)) zeroAH (some 3) rfl ?_
   intro v2 bA sA l2
   have L2 : Hid (Below w2.heap.size w2 v2) := below_chain L1.out l2 L1.out.size
   have A2 : Hid (Blk v2 v1.heap.size 131 (u8s (zer 32)) ∧ v1.heap.size < v2.heap.size) := ⟨bA, by change _ = v1.heap.size + 1 at sA; omega⟩
   clear bA sA
   clear l2
   refine hK.out _ _ ⟨(HG.out _ L2.out).2.2.2.2.1, (HG.out _ L2.out).2.2.2.2.2.1⟩ (fun hH => ?_)
   clear hK K hH
   refine wpAnyH_ready (rs := [5]) (by kernel_rfl) (by simp) (AllReadyH.cons rfl (fun K hK => ?_) AllReadyH.nil)
   go_simp
   go_wp2_with (go_at_call 235; refine (copy_holds h (turn 92 (frm key)) v2 (HG.out _ L2.out).2.1).mono ?_; rintro e v3 ⟨G', rfl, hG', hC', l3⟩)
   have L3 : Hid (Below w2.heap.size w2 v3) := below_chain L2.out l3 L2.out.size
   have C3 : Hid (Holds v3 G' (turn 92 (frm key)) ∧ v2.heap.size ≤ G') := ⟨hC', hG'⟩
   clear hC' hG'
   have A3 : Hid (Blk v3 v1.heap.size 131 (u8s (zer 32)) ∧ v1.heap.size < v2.heap.size) := ⟨A2.out.1.later l3 A2.out.1.lt, A2.out.1.lt⟩
   clear l3
   refine hK.out _ _ ⟨(HG.out _ L3.out).2.2.2.2.1, (HG.out _ L3.out).2.2.2.2.2.1⟩ (fun hH => ?_)
   clear hK K hH
   obtain ⟨A, hA, X6⟩ : ∃ A, v1.heap.size = A ∧ Hid (Below w2.heap.size w2 v3 ∧ Blk v3 A 131 (u8s (zer 32)) ∧ Holds v3 G' (turn 92 (frm key)) ∧ w2.heap.size ≤ A ∧ w2.heap.size ≤ G' ∧ A ≠ G') := by
    have q0 := L0.out.size; have q1 := L1.out.size; have q2 := L2.out.size; have q3 := C3.out.2; have q4 := A3.out.2; have d1 := A3.out.1.lt; have d2 := C3.out.1.lt
    exact ⟨_, rfl, L3.out, A3.out.1, C3.out.1, by omega, by omega, by omega⟩
   rw [hA]
   clear hA A3 C3
   refine wpAnyH_ready (rs := [7]) (by kernel_rfl) (by simp) (AllReadyH.cons rfl (fun K hK => ?_) AllReadyH.nil)
   refine step_store rfl (by rfl) 131 (.tmp 3) (.tmp 7) rfl A 0 rfl (u8s (sha I)) rfl (X6.out.2.1.there (by rw [u8s_length, u8s_length, sha_length, zer_length]; decide)) (by rw [u8s_length, sha_length]; exact sizeAH) (u8s_one _) ?_
   have K7 := (Kept.refl (fun b => b = A) v3).setCells (S := fun b => b = A) rfl 0 (u8s (sha I))
   have B7 := Blk.setCells (w := v3) (g := A) (t := 131) (xs := []) (zs := []) (u8s (sha I)) (u8s (zer 32)) (by rw [u8s_length, u8s_length, sha_length, zer_length]) (by simpa using X6.out.2.1)
   simp only [List.nil_append, List.append_nil, List.length_nil] at B7
   obtain ⟨v4, hv4⟩ : ∃ v4, v3.setCells A 0 (u8s (sha I)) = v4 := ⟨_, rfl⟩
   rw [hv4] at K7 B7 ⊢
   have X7 : Hid (Blk v4 A 131 (u8s (sha I)) ∧ Holds v4 G' (turn 92 (frm key)) ∧ Blk v4 w1.heap.size 131 (u8s (zer 32)) ∧ KTab v4 ∧ Below w.heap.size w v4 ∧ v4.cell? ⟨w.heap.size, 0, none⟩ = some (.pointer (some ⟨g, 0, none⟩)) ∧ v4.cell? ⟨w.heap.size, 1, none⟩ = some (.pointer (some ⟨h, 0, none⟩)) ∧ A ≠ G' ∧ w.heap.size + 2 ≤ A ∧ w.heap.size + 2 ≤ G') := by
    obtain ⟨x1, x2, x3, x4, x5, x6⟩ := X6.out
    obtain ⟨y1, y2, y3, y4, y5, y6, y7⟩ := HG.out _ x1
    have z1 := HB.out.2.2.2.1
    have z2 := HB.out.2.2.2.2
    exact ⟨B7, x3.kept K7 (fun e => x6 e.symm), y4.kept K7 (by omega), y3.kept K7 (by omega), below_kept y7 K7 y7.size (fun j hj => by omega), (K7.cell (p := ⟨w.heap.size, 0, none⟩) (by have := x2.lt; show w.heap.size < _; omega) (by show ¬ w.heap.size = A; omega)).trans y5, (K7.cell (p := ⟨w.heap.size, 1, none⟩) (by have := x2.lt; show w.heap.size < _; omega) (by show ¬ w.heap.size = A; omega)).trans y6, x6, by omega, by omega⟩
   clear K7 B7 hv4 X6
   refine hK.out _ _ ⟨X7.out.2.2.2.2.2.1, X7.out.2.2.2.2.2.2.1⟩ (fun hH => ?_)
   clear hK K
   refine hTake 8 (some 4) (.pointer (some ⟨G', 0, none⟩)) rfl rfl (by kernel_rfl) (by kernel_rfl) (by kernel_rfl) (fun _ _ _ h => h) (by rfl) (fun _ _ => by rfl) hH ?_
   simp only [Act.put, List.setIfInBounds_toArray, List.set_cons_zero, List.set_cons_succ]
   refine wpAnyH_done (by kernel_rfl) (NoPanic.normal ?_) _
   clear hH
   go_wp2_with (first | (go_at_call 206; refine (dwrite_any G' (turn 92 (frm key)) (some ⟨A, 0, none⟩) 32 32 (sha I) _ X7.out.2.1 (by have q := seen_blk X7.out.1 (sha_bytes I) (by rw [sha_length]; decide); rw [sha_length] at q; exact q) (Nat.le_refl _) (fun b o _ e => by simp at e; have := X7.out.2.2.2.2.2.2.2.1; omega) X7.out.2.2.2.1 (by have := X7.out.2.2.2.2.2.2.2.2.2; omega) (by rw [turn_frm]; decide)).mono ?_; rintro e v5 ⟨rfl, h5, k5⟩; have X8 : Hid (Holds v5 G' (turn 92 (frm key) ++ sha I) ∧ Blk v5 w1.heap.size 131 (u8s (zer 32)) ∧ KTab v5 ∧ Below w.heap.size w v5) := (by obtain ⟨x1, x2, x3, x4, x5, x6, x7, x8, x9, x10⟩ := X7.out; have z1 := HB.out.2.2.2.1; exact ⟨h5, x3.kept k5 (by omega), x4.kept k5 (by omega), below_kept x5 k5 x5.size (fun j hj => by omega)⟩); clear h5 k5) | (go_at_call 234; refine (sum_holds G' _ _ X8.out.1 X8.out.2.2.1).mono ?_; rintro e v6 ⟨rfl, l6⟩; rw [← HI.out.2]; have X9 : Hid (Blk v6 w1.heap.size 131 (u8s (zer 32)) ∧ Below w.heap.size w v6) := ⟨X8.out.2.1.later l6 X8.out.2.1.lt, below_chain X8.out.2.2.2 l6 X8.out.2.2.2.size⟩; clear l6) | (refine wpList_store_blk rfl 131 131 _ _ rfl _ rfl _ (u8s (mac key text)) rfl X9.out.1 (by rw [u8s_length, mac_length, u8s_length, zer_length]) (by rw [u8s_length, mac_length]; exact sizeAH) (u8s_one _) ?_; intro v7 b7 s7 k7))
   exact ret_blk rfl w1.heap.size (u8s (mac key text)) _ rfl b7 Tryz.underlying131 rfl (by rw [u8s_length, mac_length]; exact sizeAH) rfl ⟨rfl, below_kept X9.out.2 k7 X9.out.2.size (fun j hj => by have := HB.out.2.2.2.1; omega)⟩
 ·refine step_alloc_new rfl 131 rfl 32 (u8s (zer 32)) zeroAH (some 3) rfl ?_
  intro v1 bA sA l1
  have L1 : Hid (Below w2.heap.size w2 v1) := below_chain L0.out l1 L0.out.size
  have A1 : Hid (Blk v1 w2.heap.size 131 (u8s (zer 32)) ∧ w2.heap.size < v1.heap.size) := ⟨bA, by change _ = w2.heap.size + 1 at sA; omega⟩
  clear bA sA
  clear l1
  refine hK.out _ _ ⟨(HG.out _ L1.out).2.2.2.2.1, (HG.out _ L1.out).2.2.2.2.2.1⟩ (fun hH => ?_)
  clear hK K hH
  refine wpAnyH_ready (rs := [2]) (by kernel_rfl) (by simp) (AllReadyH.cons rfl (fun K hK => ?_) AllReadyH.nil)
  go_simp
  go_wp2_with (go_at_call 234; refine (sum_holds g I v1 (HG.out _ L1.out).1 (HG.out _ L1.out).2.2.1).mono ?_; rintro e v2 ⟨rfl, l2⟩)
  have L2 : Hid (Below w2.heap.size w2 v2) := below_chain L1.out l2 L1.out.size
  have A2 : Hid (Blk v2 w2.heap.size 131 (u8s (zer 32)) ∧ w2.heap.size < v1.heap.size) := ⟨A1.out.1.later l2 A1.out.1.lt, A1.out.1.lt⟩
  clear l2
  refine hK.out _ _ ⟨(HG.out _ L2.out).2.2.2.2.1, (HG.out _ L2.out).2.2.2.2.2.1⟩ (fun hH => ?_)
  clear hK K hH
  refine wpAnyH_ready (rs := [5]) (by kernel_rfl) (by simp) (AllReadyH.cons rfl (fun K hK => ?_) AllReadyH.nil)
  go_simp
  go_wp2_with (go_at_call 235; refine (copy_holds h (turn 92 (frm key)) v2 (HG.out _ L2.out).2.1).mono ?_; rintro e v3 ⟨G', rfl, hG', hC', l3⟩)
  have L3 : Hid (Below w2.heap.size w2 v3) := below_chain L2.out l3 L2.out.size
  have C3 : Hid (Holds v3 G' (turn 92 (frm key)) ∧ v2.heap.size ≤ G') := ⟨hC', hG'⟩
  clear hC' hG'
  have A3 : Hid (Blk v3 w2.heap.size 131 (u8s (zer 32)) ∧ w2.heap.size < v2.heap.size) := ⟨A2.out.1.later l3 A2.out.1.lt, A2.out.1.lt⟩
  clear l3
  refine hK.out _ _ ⟨(HG.out _ L3.out).2.2.2.2.1, (HG.out _ L3.out).2.2.2.2.2.1⟩ (fun hH => ?_)
  clear hK K hH
  obtain ⟨A, hA, X6⟩ : ∃ A, w2.heap.size = A ∧ Hid (Below w2.heap.size w2 v3 ∧ Blk v3 A 131 (u8s (zer 32)) ∧ Holds v3 G' (turn 92 (frm key)) ∧ w2.heap.size ≤ A ∧ w2.heap.size ≤ G' ∧ A ≠ G') := by
   have q0 := L0.out.size; have q1 := L1.out.size; have q2 := L2.out.size; have q3 := C3.out.2; have q4 := A3.out.2; have d1 := A3.out.1.lt; have d2 := C3.out.1.lt
   exact ⟨_, rfl, L3.out, A3.out.1, C3.out.1, by omega, by omega, by omega⟩
  rw [hA]
  clear hA A3 C3
  refine wpAnyH_ready (rs := [7]) (by kernel_rfl) (by simp) (AllReadyH.cons rfl (fun K hK => ?_) AllReadyH.nil)
  refine step_store rfl (by rfl) 131 (.tmp 3) (.tmp 7) rfl A 0 rfl (u8s (sha I)) rfl (X6.out.2.1.there (by rw [u8s_length, u8s_length, sha_length, zer_length]; decide)) (by rw [u8s_length, sha_length]; exact sizeAH) (u8s_one _) ?_
  have K7 := (Kept.refl (fun b => b = A) v3).setCells (S := fun b => b = A) rfl 0 (u8s (sha I))
  have B7 := Blk.setCells (w := v3) (g := A) (t := 131) (xs := []) (zs := []) (u8s (sha I)) (u8s (zer 32)) (by rw [u8s_length, u8s_length, sha_length, zer_length]) (by simpa using X6.out.2.1)
  simp only [List.nil_append, List.append_nil, List.length_nil] at B7
  obtain ⟨v4, hv4⟩ : ∃ v4, v3.setCells A 0 (u8s (sha I)) = v4 := ⟨_, rfl⟩
  rw [hv4] at K7 B7 ⊢
  have X7 : Hid (Blk v4 A 131 (u8s (sha I)) ∧ Holds v4 G' (turn 92 (frm key)) ∧ Blk v4 w1.heap.size 131 (u8s (zer 32)) ∧ KTab v4 ∧ Below w.heap.size w v4 ∧ v4.cell? ⟨w.heap.size, 0, none⟩ = some (.pointer (some ⟨g, 0, none⟩)) ∧ v4.cell? ⟨w.heap.size, 1, none⟩ = some (.pointer (some ⟨h, 0, none⟩)) ∧ A ≠ G' ∧ w.heap.size + 2 ≤ A ∧ w.heap.size + 2 ≤ G') := by
   obtain ⟨x1, x2, x3, x4, x5, x6⟩ := X6.out
   obtain ⟨y1, y2, y3, y4, y5, y6, y7⟩ := HG.out _ x1
   have z1 := HB.out.2.2.2.1
   have z2 := HB.out.2.2.2.2
   exact ⟨B7, x3.kept K7 (fun e => x6 e.symm), y4.kept K7 (by omega), y3.kept K7 (by omega), below_kept y7 K7 y7.size (fun j hj => by omega), (K7.cell (p := ⟨w.heap.size, 0, none⟩) (by have := x2.lt; show w.heap.size < _; omega) (by show ¬ w.heap.size = A; omega)).trans y5, (K7.cell (p := ⟨w.heap.size, 1, none⟩) (by have := x2.lt; show w.heap.size < _; omega) (by show ¬ w.heap.size = A; omega)).trans y6, x6, by omega, by omega⟩
  clear K7 B7 hv4 X6
  refine hK.out _ _ ⟨X7.out.2.2.2.2.2.1, X7.out.2.2.2.2.2.2.1⟩ (fun hH => ?_)
  clear hK K
  refine hTake 8 (some 4) (.pointer (some ⟨G', 0, none⟩)) rfl rfl (by kernel_rfl) (by kernel_rfl) (by kernel_rfl) (fun _ _ _ h => h) (by rfl) (fun _ _ => by rfl) hH ?_
  simp only [Act.put, List.setIfInBounds_toArray, List.set_cons_zero, List.set_cons_succ]
  refine wpAnyH_done (by kernel_rfl) (NoPanic.normal ?_) _
  clear hH
  go_wp2_with (first | (go_at_call 206; refine (dwrite_any G' (turn 92 (frm key)) (some ⟨A, 0, none⟩) 32 32 (sha I) _ X7.out.2.1 (by have q := seen_blk X7.out.1 (sha_bytes I) (by rw [sha_length]; decide); rw [sha_length] at q; exact q) (Nat.le_refl _) (fun b o _ e => by simp at e; have := X7.out.2.2.2.2.2.2.2.1; omega) X7.out.2.2.2.1 (by have := X7.out.2.2.2.2.2.2.2.2.2; omega) (by rw [turn_frm]; decide)).mono ?_; rintro e v5 ⟨rfl, h5, k5⟩; have X8 : Hid (Holds v5 G' (turn 92 (frm key) ++ sha I) ∧ Blk v5 w1.heap.size 131 (u8s (zer 32)) ∧ KTab v5 ∧ Below w.heap.size w v5) := (by obtain ⟨x1, x2, x3, x4, x5, x6, x7, x8, x9, x10⟩ := X7.out; have z1 := HB.out.2.2.2.1; exact ⟨h5, x3.kept k5 (by omega), x4.kept k5 (by omega), below_kept x5 k5 x5.size (fun j hj => by omega)⟩); clear h5 k5) | (go_at_call 234; refine (sum_holds G' _ _ X8.out.1 X8.out.2.2.1).mono ?_; rintro e v6 ⟨rfl, l6⟩; rw [← HI.out.2]; have X9 : Hid (Blk v6 w1.heap.size 131 (u8s (zer 32)) ∧ Below w.heap.size w v6) := ⟨X8.out.2.1.later l6 X8.out.2.1.lt, below_chain X8.out.2.2.2 l6 X8.out.2.2.2.size⟩; clear l6) | (refine wpList_store_blk rfl 131 131 _ _ rfl _ rfl _ (u8s (mac key text)) rfl X9.out.1 (by rw [u8s_length, mac_length, u8s_length, zer_length]) (by rw [u8s_length, mac_length]; exact sizeAH) (u8s_one _) ?_; intro v7 b7 s7 k7))
  exact ret_blk rfl w1.heap.size (u8s (mac key text)) _ rfl b7 Tryz.underlying131 rfl (by rw [u8s_length, mac_length]; exact sizeAH) rfl ⟨rfl, below_kept X9.out.2 k7 X9.out.2.size (fun j hj => by have := HB.out.2.2.2.1; omega)⟩
theorem kwrite (g g' : Nat) (key text : List Int) (ao : Option Addr) (n c : Nat) (zs : List Int) (w : World) (h : Keyed w g g' key text) (hx : Seen w ao n zs) (hc : n ≤ c) (hne : ∀ b o, 0 < n → ao = some ⟨b, o, none⟩ → b ≠ g) (hK : KTab w) (hg : 0 < g) (hm : text.length + n < 9223372036854775744) :
  Calls Tryz.prog 206 #[.pointer (some ⟨g, 0, none⟩), .slice ao n c] w fun e w' => e = .returned (.tuple #[.int .i64 n, .nilIface]) ∧ Keyed w' g g' key (text ++ zs) ∧ Kept (fun k => k = g) w w' :=
 (dwrite_any g _ ao n c zs w h.inn hx hc hne hK hg (by rw [List.length_append, turn_frm]; omega)).mono fun e w' ⟨h1, h2, h3⟩ => ⟨h1, ⟨h.ne, by rw [← List.append_assoc]; exact h2, h.out.kept h3 (fun e => h.ne e.symm)⟩, h3⟩
theorem vsum_any (ko : Option Addr) (kn kc : Nat) (key : List Int) (ao : Option Addr) (n c : Nat) (pss : List (List Int)) (w : World) (hk : Seen w ko kn key) (hkc : kn ≤ kc) (hx : SeenP w ao n pss) (hn : n ≤ 140737488355328) (hm : pss.flatten.length < 4611686018427387904) (hK : KTab w) :
  Calls Tryz.prog 174 #[.slice ko kn kc, .slice ao n c] w fun e w' => e = .returned (.agg (u8s (mac key pss.flatten)).toArray) ∧ Below w.heap.size w w' := by
 have HX : Hid (SeenP w ao n pss ∧ Seen w ko kn key ∧ kn ≤ kc) := ⟨hx, hk, hkc⟩
 have HM : Hid (pss.flatten.length < 4611686018427387904) := hm
 have HK : Hid (KTab w) := hK
 have HN : Hid (pss.length = n) := hx.len
 clear hx hm hK hk hkc
 go_enter Tryz.func174, Tryz.ntmps174
 go_wp2_with (first | (refine wpList_alloc_new rfl 131 rfl 32 _ zeroAH ?_; intro w1 b1 s1 l1; have Z1 : Hid (w1.heap.size = w.heap.size + 1) := s1; clear s1) | (go_at_call 205; refine (keyedBy_any ko kn kc key _ (HX.out.2.1.later l1 (Nat.le_refl _)) HX.out.2.2 (HK.out.below l1 HK.out.lt)).mono ?_; rintro e w2 ⟨g, g', rfl, hg, hg', hne, h2, h2', l2⟩) | (refine wpList_alloc_new rfl 247 rfl 2 [.pointer none, .pointer none] zeroKeyed ?_; intro w3 b3 s3 l3; have Z3 : Hid (w3.heap.size = w2.heap.size + 1) := s3; clear s3) | (refine wpList_store_blk rfl 247 247 _ _ rfl _ rfl _ [.pointer (some ⟨g, 0, none⟩), .pointer (some ⟨g', 0, none⟩)] rfl b3 rfl sizeKeyed (by intro v hv; simp at hv; rcases hv with rfl | rfl <;> rfl) ?_; intro w4 b4 s4 k4))
 have HB : Hid (Below w.heap.size w w4 ∧ Blk w4 w.heap.size 131 (u8s (zer 32)) ∧ Blk w4 w2.heap.size 247 [.pointer (some ⟨g, 0, none⟩), .pointer (some ⟨g', 0, none⟩)] ∧ Keyed w4 g g' key [] ∧ w.heap.size < g ∧ w.heap.size < g' ∧ g < w2.heap.size ∧ g' < w2.heap.size) := by
  have := Z1.out; have := Z3.out; have q1 := h2.lt; have q2 := h2'.lt; have q3 := l2.size
  exact ⟨below_kept (below_chain (below_chain l1 l2 (by omega)) l3 (by omega)) k4 (by omega) (fun j hj => by omega), ((b1.later l2 (by omega)).later l3 (by omega)).kept k4 (by omega), b4, ⟨hne, by rw [List.append_nil]; exact (h2.later l3 q1).kept k4 (by omega), (h2'.later l3 q2).kept k4 (by omega)⟩, by omega, by omega, q1, q2⟩
 clear b1 l1 hg hg' hne h2 h2' l2 b3 l3 b4 s4 k4
 go_loopw [12] (fun i wr => ∃ k : Nat, k ≤ n ∧ i = .int .i64 k ∧ Keyed wr g g' key (pss.take k).flatten ∧ Kept (fun b => b = g) w4 wr) (fun i _ => n - (intOf i).toNat)
 case atStart => exact ⟨0, Nat.zero_le _, rfl, HB.out.2.2.2.1, Kept.refl _ _⟩
 case round =>
  obtain ⟨k, hk, rfl, hh, hkp⟩ := hrel
  obtain ⟨B1, B2, B3, B4, B5, B6, B7, B8⟩ := HB.out
  have c0 : wr.cell? ⟨w2.heap.size, 0, none⟩ = some (.pointer (some ⟨g, 0, none⟩)) := (B3.kept hkp (by omega)).cell 0
  have BW : Below w.heap.size w wr := below_kept B1 hkp B1.size (fun j hj => by omega)
  by_cases hlt : k < n
  ·obtain ⟨b, o, so, cs, rfl, hb, hc, hs, hl⟩ := HX.out.1.cells k hlt
   have c1 : wr.cell? ⟨b, o + k, none⟩ = some (.slice so (pss.getD k []).length cs) := (BW.cell (p := ⟨b, o + k, none⟩) hb).trans hc
   have S1 : Hid (Seen wr so (pss.getD k []).length (pss.getD k [])) := hs.later BW (Nat.le_refl _)
   have N1 : Hid (∀ b' o', 0 < (pss.getD k []).length → so = some ⟨b', o', none⟩ → b' ≠ g) := fun b' o' h0 e => by
    have := hs.old (Nat.le_refl _) b' o' h0 e
    omega
   have L1 : Hid ((pss.getD k []).length ≤ cs) := hl
   have E1 := flat_succ pss k (by have := HN.out; omega)
   have M1 : Hid ((pss.take k).flatten.length + (pss.getD k []).length < 9223372036854775744) := by
    have h2 := flat_le pss (k + 1)
    rw [E1, List.length_append] at h2
    have := HM.out
    show _ < _
    omega
   have HE : Hid ((pss.take (k + 1)).flatten = (pss.take k).flatten ++ pss.getD k []) := E1
   have HH : Hid (Keyed wr g g' key (pss.take k).flatten ∧ KTab wr ∧ Kept (fun b => b = g) w4 wr ∧ 0 < g) := ⟨hh, HK.out.below BW HK.out.lt, hkp, by omega⟩
   have i1 : (0 : Int) ≤ (k : Int) := by omega
   have i2 : (k : Int) < (n : Int) := by omega
   clear B1 B2 B3 B4 B5 B6 B7 B8 hs hl hc hh hkp BW E1
   obtain ⟨p, hp⟩ : ∃ p, pss.getD k [] = p := ⟨_, rfl⟩
   rw [hp] at c1 S1 N1 L1 M1 HE
   clear hp
   go_wp2_with (go_at_call 206; refine (kwrite g g' key _ so p.length cs p _ HH.out.1 S1.out L1.out N1.out HH.out.2.1 HH.out.2.2.2 M1.out).mono ?_; rintro e w5 ⟨rfl, h5, k5⟩)
   exact ⟨⟨k + 1, by omega, by go_num, by rw [HE.out]; exact h5, HH.out.2.2.1.trans k5⟩, by simp [intOf]; omega⟩
  ·obtain rfl : k = n := by omega
   rw [List.take_of_length_le (by have := HN.out; omega)] at hh
   have c2 : wr.cell? ⟨w2.heap.size, 1, none⟩ = some (.pointer (some ⟨g', 0, none⟩)) := (B3.kept hkp (by omega)).cell 1
   have X1 : Hid (Keyed wr g g' key pss.flatten ∧ KTab wr ∧ Blk wr w.heap.size 131 (u8s (zer 32)) ∧ Below w.heap.size w wr ∧ Blk wr w2.heap.size 247 [.pointer (some ⟨g, 0, none⟩), .pointer (some ⟨g', 0, none⟩)]) := ⟨hh, HK.out.below BW HK.out.lt, B2.kept hkp (by omega), BW, B3.kept hkp (by omega)⟩
   clear B1 B2 B3 B4 B5 B6 B7 B8 hh hkp BW c0 c2
   go_wp2_with (first | (refine wpList_load_blk rfl 247 _ rfl _ rfl [.pointer (some ⟨g, 0, none⟩), .pointer (some ⟨g', 0, none⟩)] _ X1.out.2.2.2.2 Tryz.underlying247 rfl sizeKeyed ?_) | (go_at_call 207; refine (code_any g g' key pss.flatten _ X1.out.1 X1.out.2.1).mono ?_; rintro e w5 ⟨rfl, l5⟩; have X5 : Hid (Blk w5 w.heap.size 131 (u8s (zer 32)) ∧ Below w.heap.size w w5) := ⟨X1.out.2.2.1.later l5 X1.out.2.2.1.lt, below_chain X1.out.2.2.2.1 l5 X1.out.2.2.2.1.size⟩; clear l5) | (refine wpList_store_blk rfl 131 131 _ _ rfl _ rfl _ (u8s (mac key pss.flatten)) rfl X5.out.1 (by rw [u8s_length, mac_length, u8s_length, zer_length]) (by rw [u8s_length, mac_length]; exact sizeAH) (u8s_one _) ?_; intro w6 b6 s6 k6))
   exact ret_blk rfl w.heap.size (u8s (mac key pss.flatten)) _ rfl b6 Tryz.underlying131 rfl (by rw [u8s_length, mac_length]; exact sizeAH) rfl ⟨rfl, below_kept X5.out.2 k6 X5.out.2.size (fun j hj => by omega)⟩
theorem extract_any (ko : Option Addr) (kn kc : Nat) (key : List Int) (ao : Option Addr) (n c : Nat) (zs : List Int) (w : World) (hk : Seen w ko kn key) (hkc : kn ≤ kc) (hx : Seen w ao n zs) (hc : n ≤ c) (hK : KTab w) :
  Calls Tryz.prog 134 #[.slice ko kn kc, .slice ao n c] w fun e w' => e = .returned (.agg (u8s (mac key zs)).toArray) ∧ Below w.heap.size w w' := by
 have HX : Hid (Seen w ko kn key ∧ kn ≤ kc ∧ Seen w ao n zs ∧ n ≤ c ∧ KTab w ∧ zs.length < 4611686018427387904) := ⟨hk, hkc, hx, hc, hK, by have := hx.len; have := hx.top; omega⟩
 clear hk hkc hx hc hK
 go_enter Tryz.func134, Tryz.ntmps134
 go_wp2_with (first | (refine wpList_alloc_new rfl 131 rfl 32 _ zeroAH ?_; intro w1 b1 s1 l1; have Z1 : Hid (w1.heap.size = w.heap.size + 1) := s1; clear s1) | (go_at_call 174; refine (vsum_any ko kn kc key _ 1 1 [zs] _ ((HX.out.1.later l1 (Nat.le_refl _)).later ((Below.refl _ _).alloc (Nat.le_refl _) _) (Nat.le_refl _)) HX.out.2.1 (seenP1 w1 ao n c zs (HX.out.2.2.1.later l1 (Nat.le_refl _)) HX.out.2.2.2.1) (by decide) (by rw [show ([zs] : List (List Int)).flatten = zs by simp]; exact HX.out.2.2.2.2.2) (HX.out.2.2.2.2.1.below (l1.alloc (by have := Z1.out; omega) _) HX.out.2.2.2.2.1.lt)).mono ?_; rintro e w2 ⟨rfl, l2⟩; rw [show ([zs] : List (List Int)).flatten = zs by simp]; have G2 : Hid (Blk w2 w.heap.size 131 (u8s (zer 32)) ∧ Below w.heap.size w w2) := (by have := Z1.out; have B1 := (Below.refl w1.heap.size w1).alloc (Nat.le_refl _) (.cells #[.slice ao n c] 32); exact ⟨(b1.later B1 (by omega)).later l2 (by simp; omega), below_chain (below_chain l1 B1 (by omega)) l2 (by simp; omega)⟩)) | (refine wpList_store_blk rfl 131 131 _ _ rfl _ rfl _ (u8s (mac key zs)) rfl G2.out.1 (by rw [u8s_length, mac_length, u8s_length, zer_length]) (by rw [u8s_length, mac_length]; exact sizeAH) (u8s_one _) ?_; intro w6 b6 s6 k6))
 exact ret_blk rfl w.heap.size (u8s (mac key zs)) _ rfl b6 Tryz.underlying131 rfl (by rw [u8s_length, mac_length]; exact sizeAH) rfl ⟨rfl, below_kept G2.out.2 k6 G2.out.2.size (fun j hj => by omega)⟩
def ccE (n most : Int) : Int := if n < 0 then 2 else if most < n then 3 else 0
theorem cc_any (n most : Int) (w : World) : Calls Tryz.prog 86 #[.int .i64 n, .int .i64 most] w fun e w' => e = .returned (.int .i64 (ccE n most)) ∧ w = w' := by
 unfold ccE
 by_cases h1 : n < 0
 ·rw [if_pos h1]
  go_enter Tryz.func86, Tryz.ntmps86
  go_wp2
  go_ret
  exact ⟨rfl, rfl⟩
 ·rw [if_neg h1]
  by_cases h2 : most < n
  ·rw [if_pos h2]
   go_enter Tryz.func86, Tryz.ntmps86
   go_wp2
   go_ret
   exact ⟨rfl, rfl⟩
  ·rw [if_neg h2]
   go_enter Tryz.func86, Tryz.ntmps86
   go_wp2
   go_ret
   exact ⟨rfl, rfl⟩
theorem vmade_zero (n : Nat) : (madeCells #[Value.int .u8 0] n) = (u8s (zer n)).toArray := by
 apply Array.ext'
 rw [toList_madeCells_one]
 simp [u8s, zer]
theorem expand_any (prk : List Int) (hp : prk.length = 32) (hpb : Bytes prk) (io : Option Addr) (im ic : Nat) (info : List Int) (N : Nat) (hN : N ≤ 8160) (w : World) (hx : Seen w io im info) (hic : im ≤ ic) (hK : KTab w) :
  Calls Tryz.prog 133 #[.agg (u8s prk).toArray, .slice io im ic, .int .i64 N] w fun e w' => ∃ R, e = .returned (.tuple #[.slice (some ⟨R, 0, none⟩) N N, .int .i64 0]) ∧ w.heap.size ≤ R ∧ Blk w' R 5 (u8s (exps prk info N)) ∧ Below w.heap.size w w' := by
 have HX : Hid (Seen w io im info ∧ im ≤ ic ∧ KTab w ∧ prk.length = 32 ∧ Bytes prk) := ⟨hx, hic, hK, hp, hpb⟩
 have q0 := hK.lt
 have hit := hx.top
 have HL : Hid (info.length = im) := hx.len
 have HE : Hid (ccE N 8160 = 0) := by show ccE N 8160 = 0; unfold ccE; rw [if_neg (by omega), if_neg (by omega)]
 obtain ⟨i0, hi, hz0, hz1, hz2⟩ := info_parts info_byte
 have hmk : ∀ w1 : World, _ := fun w1 => run_make (P := Tryz.prog) w1 32 5 i0 (.int .u8 0) Tryz.underlying32 hi hz0 .i64 .i64 (N : Int) (N : Int) (by omega) (Int.le_refl _) (by rw [hz2]; omega) (by omega)
 simp only [hz1, Int.toNat_natCast, Nat.mul_one, show (Value.int .u8 0).cells = #[.int .u8 0] from rfl, vmade_zero] at hmk
 clear hx hic hK hi hz0 hz1 hz2 hp hpb
 go_enter Tryz.func133, Tryz.ntmps133
 go_wp2_with (first | (refine wpList_box_new rfl 131 _ rfl (u8s prk) rfl ?_; intro w1 b1 s1 l1; have Z1 : Hid (w1.heap.size = w.heap.size + 1) := s1; clear s1) | (go_at_call 86; refine (cc_any N 8160 _).mono ?_; rintro e _ ⟨rfl, rfl⟩; rw [HE.out]))
 have HB : Hid (Blk (w1.alloc (.cells (u8s (zer N)).toArray 5)) w1.heap.size 5 (u8s (zer N)) ∧ Blk (w1.alloc (.cells (u8s (zer N)).toArray 5)) w.heap.size 131 (u8s prk) ∧ Below w.heap.size w (w1.alloc (.cells (u8s (zer N)).toArray 5)) ∧ w1.heap.size = w.heap.size + 1) := by
  have := Z1.out
  exact ⟨heap_alloc_new w1 _, b1.later ((Below.refl _ _).alloc (Nat.le_refl _) _) (by omega), l1.alloc (by omega) _, Z1.out⟩
 obtain ⟨w2, hw2⟩ : ∃ w2, w1.alloc (.cells (u8s (zer N)).toArray 5) = w2 := ⟨_, rfl⟩
 rw [hw2] at HB ⊢
 clear hw2 b1 l1 hmk
 go_loopw [10, 11, 12] (fun v at' i wr => ∃ (k a : Nat) (lo : Option Addr), a ≤ N ∧ a ≤ 32 * k ∧ (a = 32 * k ∨ a = N) ∧ v = .slice lo (expT prk info k).length (expT prk info k).length ∧ at' = .int .i64 a ∧ i = .int .u8 (((k : Int) + 1) % 256) ∧ Seen wr lo (expT prk info k).length (expT prk info k) ∧ (∀ b o, lo = some ⟨b, o, none⟩ → b ≠ w1.heap.size) ∧ Blk wr w1.heap.size 5 (u8s ((expA prk info k).take a ++ zer (N - a))) ∧ Blk wr w.heap.size 131 (u8s prk) ∧ Below w.heap.size w wr) (fun _ at' _ _ => N - (intOf at').toNat)
 case atStart => exact ⟨0, 0, none, Nat.zero_le _, Nat.zero_le _, .inl rfl, rfl, rfl, rfl, Seen.empty _ _, (fun b o h => by cases h), HB.out.1, HB.out.2.1, HB.out.2.2.1⟩
 case round =>
  obtain ⟨k, a, lo, haN, hak, hor, rfl, rfl, rfl, hlo, hln, hR, hP, hbel⟩ := hrel
  by_cases hlt : a < N
  ·obtain rfl : a = 32 * k := by omega
   have hk : k < 255 := by omega
   have ht0 : (expT prk info k).length ≤ 32 := by
    cases k with
    | zero => exact Nat.zero_le _
    | succ k => rw [expT_length]; exact Nat.le_refl _
   obtain ⟨T, hT⟩ : ∃ T, expT prk info k = T := ⟨_, rfl⟩
   obtain ⟨T1, hT1⟩ : ∃ T1, expT prk info (k + 1) = T1 := ⟨_, rfl⟩
   obtain ⟨X, hX⟩ : ∃ X : Int, ((k : Int) + 1) % 256 = X := ⟨_, rfl⟩
   have hX0 : 0 ≤ X ∧ X < 256 := by omega
   rw [hT] at hlo ht0
   rw [hT, hX]
   have HT1 : Hid (T1 = expT prk info (k + 1) ∧ T1.length = 32) := ⟨hT1.symm, by rw [← hT1]; exact expT_length _ _ _⟩
   have HT : Hid (mac prk ([T, info, [X]] : List (List Int)).flatten = T1 ∧ T1.length = 32 ∧ Bytes T1 ∧ ([T, info, [X]] : List (List Int)).flatten.length < 4611686018427387904) := ⟨by rw [← hT1, ← hT, ← hX]; simp [expT], by rw [← hT1]; exact expT_length _ _ _, by rw [← hT1]; exact expT_bytes _ _ _, by simp; have := HL.out; omega⟩
   obtain ⟨m, hm⟩ : ∃ m, Nat.min 32 (N - 32 * k) = m := ⟨_, rfl⟩
   have hmm : Hid (Nat.min 32 (N - 32 * k) = m) := hm
   have hm1 : m ≤ 32 := by rw [← hm]; exact Nat.min_le_left _ _
   have hm2 : m ≤ N - 32 * k := by rw [← hm]; exact Nat.min_le_right _ _
   have hm3 : m = 32 ∨ m = N - 32 * k := by rcases Nat.le_total 32 (N - 32 * k) with h | h; exact .inl (by rw [← hm]; exact Nat.min_eq_left h); exact .inr (by rw [← hm]; exact Nat.min_eq_right h)
   have hm0 : 0 < m := by omega
   have HA : Hid ((u8s ((expA prk info k).take (32 * k))).length = 32 * k ∧ ∀ l, l = u8s ((expA prk info k).take (32 * k)) ++ (u8s (T1.take m) ++ u8s (zer (N - 32 * k - m))) → l = u8s ((expA prk info (k + 1)).take (32 * k + m) ++ zer (N - (32 * k + m)))) := by
    have el := expA_length prk info k
    refine ⟨by rw [u8s_length, List.length_take, el]; omega, fun l hl => ?_⟩
    rw [hl, expA, hT1, List.take_of_length_le (by omega), List.take_append, el, Nat.add_sub_cancel_left, List.take_of_length_le (l := expA prk info k) (by omega), Nat.sub_sub]
    simp [u8s]
   have HR : Hid (Blk wr w1.heap.size 5 (u8s ((expA prk info k).take (32 * k)) ++ (u8s (zer m) ++ u8s (zer (N - 32 * k - m)))) ∧ Blk wr w.heap.size 131 (u8s prk) ∧ Below w.heap.size w wr ∧ Seen wr lo T.length T ∧ (∀ b o, lo = some ⟨b, o, none⟩ → b ≠ w1.heap.size) ∧ KTab wr) := ⟨by
    rw [show N - 32 * k = m + (N - 32 * k - m) by omega, zer_add] at hR
    simpa [u8s] using hR, hP, hbel, hlo, hln, HX.out.2.2.1.below hbel q0⟩
   have HK : Hid (SeenP ((wr.alloc (.cells #[.int .u8 X] 5)).alloc (.cells #[.slice lo T.length T.length, .slice io info.length ic, .slice (some ⟨wr.heap.size, 0, none⟩) 1 1] 32)) (some ⟨wr.heap.size + 1, 0, none⟩) 3 [T, info, [X]] ∧ Seen ((wr.alloc (.cells #[.int .u8 X] 5)).alloc (.cells #[.slice lo T.length T.length, .slice io info.length ic, .slice (some ⟨wr.heap.size, 0, none⟩) 1 1] 32)) (some ⟨w.heap.size, 0, none⟩) 32 prk ∧ Below wr.heap.size wr ((wr.alloc (.cells #[.int .u8 X] 5)).alloc (.cells #[.slice lo T.length T.length, .slice io info.length ic, .slice (some ⟨wr.heap.size, 0, none⟩) 1 1] 32))) := by
    have BA : Below wr.heap.size wr (wr.alloc (.cells #[.int .u8 X] 5)) := (Below.refl _ _).alloc (Nat.le_refl _) _
    have BB : Below wr.heap.size wr ((wr.alloc (.cells #[.int .u8 X] 5)).alloc (.cells #[.slice lo T.length T.length, .slice io info.length ic, .slice (some ⟨wr.heap.size, 0, none⟩) 1 1] 32)) := BA.alloc BA.size _
    have sX : Seen (wr.alloc (.cells #[.int .u8 X] 5)) (some ⟨wr.heap.size, 0, none⟩) 1 [X] := Seen.of_row (n := 1) (RowAt.new wr [X]) (Nat.le_refl 1) (by decide) (by intro z hz; simp at hz; omega)
    have q := seenP3 (wr.alloc (.cells #[.int .u8 X] 5)) lo io (some ⟨wr.heap.size, 0, none⟩) T.length ic 1 T info [X] (hlo.later BA (Nat.le_refl _)) (by have q := (HX.out.1.later hbel (Nat.le_refl _)).later BA (Nat.le_refl _); rw [← HL.out] at q; exact q) sX (Nat.le_refl _) (by have := HX.out.2.1; have := HL.out; omega) (Nat.le_refl 1)
    rw [show (wr.alloc (.cells #[.int .u8 X] 5)).heap.size = wr.heap.size + 1 by simp] at q
    have q2 := seen_blk (hP.later BB hP.lt) HX.out.2.2.2.2 (by rw [HX.out.2.2.2.1]; decide)
    rw [HX.out.2.2.2.1] at q2
    exact ⟨q, q2, BB⟩
   have g1 : ∀ wx, (Instr.sliceAt 32 (.slice (some ⟨w1.heap.size, 0, none⟩) N N) (some (.int .i64 (32 * (k : Int)))) none none).run Tryz.prog wx = .ok (.slice (some ⟨w1.heap.size, 32 * k, none⟩) (N - 32 * k) (N - 32 * k)) wx := fun wx => by
    have q := sl_l (some ⟨w1.heap.size, 0, none⟩) N N (32 * k) haN wx
    rw [show subA (some ⟨w1.heap.size, 0, none⟩) (32 * k) N = some ⟨w1.heap.size, 32 * k, none⟩ by unfold subA; rw [if_neg (by omega)]; simp [add_mid], show ((32 * k : Nat) : Int) = 32 * (k : Int) by omega] at q
    exact q
   obtain rfl := HL.out
   have i1 : (32 * (k : Int)) < (N : Int) := by omega
   have hXk : X = (k : Int) + 1 := by omega
   have HXk : Hid (X = (k : Int) + 1) := hXk
   have i3 : ((32 * k : Nat) : Int) = 32 * (k : Int) := by omega
   rw [i3]
   clear hlo hln hR hP hbel hT hT1 hX hm hXk i3
   go_wp2_with (first | (go_at_call 174; refine (vsum_any _ 32 32 prk _ 3 3 [T, info, [X]] _ HK.out.2.1 (Nat.le_refl _) HK.out.1 (by decide) HT.out.2.2.2 (HR.out.2.2.2.2.2.below HK.out.2.2 HR.out.2.2.2.2.2.lt)).mono ?_; rintro e w3 ⟨rfl, l3⟩; rw [HT.out.1]; have G3 : Hid (Below wr.heap.size wr w3) := below_chain HK.out.2.2 l3 HK.out.2.2.size; clear l3) | (refine wpList_alloc_new rfl 131 rfl 32 _ zeroAH ?_; intro w4 b4 s4 l4; have Z4 : Hid (w4.heap.size = w3.heap.size + 1) := s4; clear s4) | (refine wpList_store_blk rfl 131 131 _ _ rfl _ rfl _ (u8s T1) rfl b4 (by rw [u8s_length, HT.out.2.1, u8s_length, zer_length]) (by rw [u8s_length, HT.out.2.1]; exact sizeAH) (u8s_one _) ?_; intro w5 b5 s5 k5; have G5 : Hid (Blk w5 w3.heap.size 131 (u8s T1) ∧ Seen w5 (some ⟨w3.heap.size, 0, none⟩) 32 T1 ∧ Below wr.heap.size wr w5 ∧ w3.heap.size < w5.heap.size ∧ wr.heap.size ≤ w3.heap.size) := (by have := Z4.out; have q := G3.out.size; have sq := seen_blk b5 HT.out.2.2.1 (by rw [HT.out.2.1]; decide); rw [HT.out.2.1] at sq; exact ⟨b5, sq, below_kept (below_chain G3.out l4 (by omega)) k5 (by omega) (fun j hj => by omega), by omega, q⟩); clear b5 s5 k5 b4 l4; have G5b : Hid (Blk w5 w1.heap.size 5 (u8s ((expA prk info k).take (32 * k)) ++ (u8s (zer m) ++ u8s (zer (N - 32 * k - m))))) := HR.out.1.later G5.out.2.2.1 HR.out.1.lt))
   simp only [Act.put, sA, sB, sC]
   refine wp_region_noPanic (wp_region_any (by kernel_rfl) ?_)
   refine take_op 0 (some 33) (.int .i64 (32 * (k : Int))) rfl rfl (by kernel_rfl) (by kernel_rfl) (by kernel_rfl) (fun _ _ _ h => h) (by rfl) (fun _ => by rfl) ?_
   simp only [Act.put, sA, sB, sC]
   refine take_op 1 (some 34) (.slice (some ⟨w1.heap.size, 0, none⟩) N N) rfl rfl (by kernel_rfl) (by kernel_rfl) (by kernel_rfl) (fun _ _ _ h => h) (by rfl) (fun _ => by rfl) ?_
   simp only [Act.put, sA, sB, sC]
   refine take_op 2 (some 35) (.int .i64 (32 * (k : Int))) rfl rfl (by kernel_rfl) (by kernel_rfl) (by kernel_rfl) (fun _ _ _ h => h) (by rfl) (fun _ => by rfl) ?_
   simp only [Act.put, sA, sB, sC]
   refine take_op 3 (some 36) (.slice (some ⟨w1.heap.size, 32 * k, none⟩) (N - 32 * k) (N - 32 * k)) rfl rfl (by kernel_rfl) (by kernel_rfl) (by kernel_rfl) (fun _ _ _ h => h) (by rfl) (fun _ => by go_simp) ?_
   simp only [Act.put, sA, sB, sC]
   refine take_op 4 (some 37) (.slice (some ⟨w3.heap.size, 0, none⟩) 32 32) rfl rfl (by kernel_rfl) (by kernel_rfl) (by kernel_rfl) (fun _ _ _ h => h) (by rfl) (fun _ => by rfl) ?_
   simp only [Act.put, sA, sB, sC]
   refine wpAny_ready (rs := [5]) (by kernel_rfl) (by simp) (AllReady.cons rfl (fun K hK => ?_) AllReady.nil)
   refine step_copy_seen rfl (.tmp 36) (.tmp 37) rfl w1.heap.size (32 * k) (N - 32 * k) (N - 32 * k) (some ⟨w1.heap.size, 32 * k, none⟩) (some ⟨w3.heap.size, 0, none⟩) 32 32 rfl rfl T1 G5.out.2.1.drew 5 (u8s ((expA prk info k).take (32 * k))) (u8s (zer m)) (u8s (zer (N - 32 * k - m))) G5b.out.drew HA.out.1 m hmm.out (by rw [u8s_length, zer_length]) (fun _ => rfl) (some 38) rfl ?_
   intro w6 b6 s6 k6
   refine hK _ _ ?_
   clear hK K
   have k6 : Kept (fun b => b = w1.heap.size) w5 w6 := (Kept.refl _ w5).drew.trans k6
   have H6 : Hid (Blk w6 w1.heap.size 5 (u8s ((expA prk info (k + 1)).take (32 * k + m) ++ zer (N - (32 * k + m)))) ∧ Seen w6 (some ⟨w3.heap.size, 0, none⟩) 32 T1 ∧ Blk w6 w.heap.size 131 (u8s prk) ∧ Below w.heap.size w w6 ∧ w3.heap.size ≠ w1.heap.size) := by
    have z1 := HB.out.2.2.2
    have zR := HR.out.1.lt
    have zP := HR.out.2.1.lt
    obtain ⟨x1, x2, x3, x4, x5⟩ := G5.out
    have hne : w3.heap.size ≠ w1.heap.size := by omega
    refine ⟨by rw [← HA.out.2 _ rfl]; exact b6, x2.kept k6 (fun b o _ e => by simp at e; omega), (HR.out.2.1.later x3 zP).kept k6 (by omega), ?_, hne⟩
    have bb := below_chain HR.out.2.2.1 x3 HR.out.2.2.1.size
    exact below_kept bb k6 bb.size (fun j hj => by omega)
   have HTT : Hid (T1 = expT prk info (k + 1) ∧ T1.length = 32) := HT1.out
   have v6 : IntKind.i64.wrap (32 * (k : Int) + (m : Int)) = 32 * (k : Int) + (m : Int) := by simp only [IntKind.wrap, IntKind.bits, IntKind.signed]; simp; omega
   clear b6 s6 k6 HK HA HR G5 G5b HT G3 g1
   refine take_op 6 (some 39) (.int .i64 (32 * (k : Int) + (m : Int))) rfl rfl (by kernel_rfl) (by kernel_rfl) (by kernel_rfl) (fun _ _ _ h => h) (by rfl) (fun _ => by go_simp) ?_
   simp only [Act.put, sA, sB, sC]
   refine take_op 7 (some 11) (.int .i64 (32 * (k : Int) + (m : Int))) rfl rfl (by kernel_rfl) (by kernel_rfl) (by kernel_rfl) (fun _ _ _ h => h) (by rfl) (fun _ => by rfl) ?_
   simp only [Act.put, sA, sB, sC]
   refine wpAny_done (by kernel_rfl) (NoPanic.normal ?_) _
   go_wp2
   refine ⟨⟨k + 1, 32 * k + m, some ⟨w3.heap.size, 0, none⟩, by omega, by omega, by omega, by rw [← HTT.out.1, HTT.out.2], by go_num, ?_, by rw [← HTT.out.1, HTT.out.2]; exact H6.out.2.1, (fun b o e => by simp at e; have := H6.out.2.2.2.2; omega), H6.out.1, H6.out.2.2.1, H6.out.2.2.2.1⟩, by simp [intOf]; omega⟩
   rw [HXk.out]
   congr 1
  ·obtain rfl : a = N := by omega
   have HF : Hid (Blk wr w1.heap.size 5 (u8s (exps prk info a)) ∧ Below w.heap.size w wr) := ⟨by
    rw [Nat.sub_self, show zer 0 = [] from rfl, List.append_nil, expA_take prk info ((a + 31) / 32) k a (by omega) (by omega)] at hR
    exact hR, hbel⟩
   clear hlo hln hR hP hbel
   go_wp2
   go_ret2
   exact ⟨w1.heap.size, rfl, by have := HB.out.2.2.2; omega, HF.out.1, HF.out.2⟩
theorem derive_any (so : Option Addr) (sn sc : Nat) (salt : List Int) (xo : Option Addr) (xn xc : Nat) (sec : List Int) (io : Option Addr) (im ic : Nat) (info : List Int) (N : Nat) (hN : N ≤ 8160) (w : World) (hs : Seen w so sn salt) (hsc : sn ≤ sc) (hx : Seen w xo xn sec) (hxc : xn ≤ xc) (hi : Seen w io im info) (hic : im ≤ ic) (hK : KTab w) :
  Calls Tryz.prog 87 #[.slice so sn sc, .slice xo xn xc, .slice io im ic, .int .i64 N] w fun e w' => ∃ R, e = .returned (.tuple #[.slice (some ⟨R, 0, none⟩) N N, .int .i64 0]) ∧ w.heap.size ≤ R ∧ Blk w' R 5 (u8s (exps (mac salt sec) info N)) ∧ Below w.heap.size w w' := by
 have HX : Hid (Seen w so sn salt ∧ sn ≤ sc ∧ Seen w xo xn sec ∧ xn ≤ xc ∧ KTab w) := ⟨hs, hsc, hx, hxc, hK⟩
 have HI : Hid (Seen w io im info ∧ im ≤ ic) := ⟨hi, hic⟩
 clear hs hsc hx hxc hK hi hic
 go_enter Tryz.func87, Tryz.ntmps87
 go_wp2_with (first | (go_at_call 134; refine (extract_any so sn sc salt xo xn xc sec _ HX.out.1 HX.out.2.1 HX.out.2.2.1 HX.out.2.2.2.1 HX.out.2.2.2.2).mono ?_; rintro e w1 ⟨rfl, l1⟩) | (go_at_call 133; refine (expand_any _ (mac_length _ _) (mac_bytes _ _) io im ic info N hN _ (HI.out.1.later l1 (Nat.le_refl _)) HI.out.2 (HX.out.2.2.2.2.below l1 HX.out.2.2.2.2.lt)).mono ?_; rintro e w2 ⟨R, rfl, hR, bR, l2⟩))
 go_ret2
 exact ⟨R, rfl, Nat.le_trans l1.size hR, bR, below_chain l1 l2 l1.size⟩
theorem made32 (m : Nat) : madeCells (u8s (zer 32)).toArray m = (u8s (zer m)).toArray := by
 apply Array.ext
 ·simp [madeCells, u8s_length, zer_length]
 ·intro i h1 h2
  have hl : (u8s (zer 32)).toArray.size = 32 := by simp [u8s_length, zer_length]
  have hm : i % 32 < 32 := Nat.mod_lt _ (by decide)
  simp only [madeCells, Array.getElem_map, Array.getElem_range, hl]
  rw [getElem!_pos _ _ (by rw [hl]; exact hm)]
  have e1 : ∀ j (h : j < (u8s (zer 32)).length), (u8s (zer 32))[j] = .int .u8 0 := fun j h => by simp only [u8s, List.getElem_map, zer, List.getElem_replicate]
  have e2 : ∀ j (h : j < (u8s (zer m)).length), (u8s (zer m))[j] = .int .u8 0 := fun j h => by simp only [u8s, List.getElem_map, zer, List.getElem_replicate]
  rw [List.getElem_toArray, List.getElem_toArray, e1, e2]
theorem info_Key : (Tryz.prog.info? 23).map (fun i => (i.zero, i.size, i.bytes)) = some (some (.agg (u8s (zer 32)).toArray), 32, 32) := by kernel_rfl
theorem vkeys_any (so : Option Addr) (sn sc : Nat) (salt : List Int) (xo : Option Addr) (xn xc : Nat) (sec : List Int) (io : Option Addr) (im ic : Nat) (info : List Int) (n : Nat) (hn : n ≤ 255) (w : World) (hs : Seen w so sn salt) (hsc : sn ≤ sc) (hx : Seen w xo xn sec) (hxc : xn ≤ xc) (hi : Seen w io im info) (hic : im ≤ ic) (hK : KTab w) :
  Calls Tryz.prog 47 #[.slice so sn sc, .slice xo xn xc, .slice io im ic, .int .i64 n] w fun e w' => ∃ R, e = .returned (.tuple #[.slice (some ⟨R, 0, none⟩) n n, .int .i64 0]) ∧ w.heap.size ≤ R ∧ Blk w' R 23 (u8s (exps (mac salt sec) info (32 * n))) ∧ Below w.heap.size w w' := by
 have HX : Hid (Seen w so sn salt ∧ sn ≤ sc ∧ Seen w xo xn sec ∧ xn ≤ xc ∧ KTab w ∧ Seen w io im info ∧ im ≤ ic) := ⟨hs, hsc, hx, hxc, hK, hi, hic⟩
 have HE : Hid (ccE n 255 = 0) := by show ccE n 255 = 0; unfold ccE; rw [if_neg (by omega), if_neg (by omega)]
 obtain ⟨i0, hi0, hz0, hz1, hz2⟩ := info_parts info_Key
 have hmk : ∀ w1 : World, _ := fun w1 => run_make (P := Tryz.prog) w1 31 23 i0 _ Tryz.underlying31 hi0 hz0 .i64 .i64 (n : Int) (n : Int) (by omega) (Int.le_refl _) (by rw [hz2]; omega) (by omega)
 simp only [hz1, Int.toNat_natCast] at hmk
 clear hs hsc hx hxc hK hi hic
 have e32 : (n : Int) * 32 = ((32 * n : Nat) : Int) := by omega
 go_enter Tryz.func47, Tryz.ntmps47
 go_wp2_with (first | (go_at_call 86; refine (cc_any n 255 _).mono ?_; rintro e _ ⟨rfl, rfl⟩; rw [HE.out]) | (go_at_call 87; refine (derive_any so sn sc salt xo xn xc sec io im ic info (32 * n) (by omega) _ HX.out.1 HX.out.2.1 HX.out.2.2.1 HX.out.2.2.2.1 HX.out.2.2.2.2.2.1 HX.out.2.2.2.2.2.2 HX.out.2.2.2.2.1).mono ?_; rintro e w1 ⟨R, rfl, hR, bR, l1⟩))
 rw [made32, Nat.mul_comm n 32]
 obtain ⟨E, hE⟩ : ∃ E, exps (mac salt sec) info (32 * n) = E := ⟨_, rfl⟩
 have HEE : Hid (exps (mac salt sec) info (32 * n) = E ∧ E.length = 32 * n ∧ Bytes E) := ⟨hE, by rw [← hE]; exact exps_length _ _ _, by rw [← hE]; exact exps_bytes _ _ _⟩
 rw [hE] at bR
 have HB : Hid (Blk (w1.alloc (.cells (u8s (zer (32 * n))).toArray 23)) w1.heap.size 23 (u8s (zer (32 * n))) ∧ Blk (w1.alloc (.cells (u8s (zer (32 * n))).toArray 23)) R 5 (u8s E) ∧ Below w.heap.size w (w1.alloc (.cells (u8s (zer (32 * n))).toArray 23)) ∧ R < w1.heap.size ∧ w.heap.size ≤ w1.heap.size) := ⟨heap_alloc_new w1 _, bR.later ((Below.refl _ _).alloc (Nat.le_refl _) _) bR.lt, l1.alloc l1.size _, bR.lt, l1.size⟩
 obtain ⟨w2, hw2⟩ : ∃ w2, w1.alloc (.cells (u8s (zer (32 * n))).toArray 23) = w2 := ⟨_, rfl⟩
 rw [hw2] at HB ⊢
 clear hw2 bR l1 hmk hE e32 hR hi0 hz0 hz1 hz2
 go_loopw [36] (fun i wr => ∃ k : Nat, k ≤ n ∧ i = .int .i64 k ∧ Blk wr w1.heap.size 23 (u8s (E.take (32 * k) ++ zer (32 * n - 32 * k))) ∧ Kept (fun b => b = w1.heap.size) w2 wr) (fun i _ => n - (intOf i).toNat)
 case atStart => exact ⟨0, Nat.zero_le _, rfl, HB.out.1, Kept.refl _ _⟩
 case round =>
  obtain ⟨k, hk, rfl, hb, hkp⟩ := hrel
  have hEl := HEE.out.2.1
  by_cases hlt : k < n
  ·have i1 : (0 : Int) ≤ (k : Int) := by omega
   have i2 : (k : Int) < (n : Int) := by omega
   have HR : Hid (Blk wr w1.heap.size 23 (u8s (E.take (32 * k)) ++ (u8s (zer 32) ++ u8s (zer (32 * n - 32 * (k + 1))))) ∧ Seen wr (some ⟨R, 32 * k, none⟩) (32 * n - 32 * k) (E.drop (32 * k)) ∧ Kept (fun b => b = w1.heap.size) w2 wr) := by
    refine ⟨?_, ?_, hkp⟩
    ·rw [show 32 * n - 32 * k = 32 + (32 * n - 32 * (k + 1)) by omega, zer_add] at hb
     simpa [u8s] using hb
    ·have q := (seen_blk (HB.out.2.1.kept hkp (by have := HB.out.2.2.2.1; omega)) HEE.out.2.2 (by omega)).sub (32 * k) E.length E.length (by omega) (Nat.le_refl _) (Nat.le_refl _)
     rw [hEl, show subA (some ⟨R, 0, none⟩) (32 * k) (32 * n) = some ⟨R, 32 * k, none⟩ by unfold subA; rw [if_neg (by omega)]; simp [add_mid], List.take_of_length_le (by rw [List.length_drop, hEl]; exact Nat.le_refl _)] at q
     exact q
   have HA : Hid ((u8s (E.take (32 * k))).length = 32 * k ∧ ∀ l, l = u8s (E.take (32 * k)) ++ (u8s ((E.drop (32 * k)).take 32) ++ u8s (zer (32 * n - 32 * (k + 1)))) → l = u8s (E.take (32 * (k + 1)) ++ zer (32 * n - 32 * (k + 1)))) := by
    refine ⟨by rw [u8s_length, List.length_take, hEl]; omega, fun l hl => ?_⟩
    rw [hl, show 32 * (k + 1) = 32 * k + 32 by omega, List.take_add]
    simp [u8s]
   have g1 : ∀ wx, (Instr.sliceAt 32 (.slice (some ⟨R, 0, none⟩) (32 * n) (32 * n)) (some (.int .i64 (32 * (k : Int)))) none none).run Tryz.prog wx = .ok (.slice (some ⟨R, 32 * k, none⟩) (32 * n - 32 * k) (32 * n - 32 * k)) wx := fun wx => by
    have q := sl_l (some ⟨R, 0, none⟩) (32 * n) (32 * n) (32 * k) (by omega) wx
    rw [show subA (some ⟨R, 0, none⟩) (32 * k) (32 * n) = some ⟨R, 32 * k, none⟩ by unfold subA; rw [if_neg (by omega)]; simp [add_mid], show ((32 * k : Nat) : Int) = 32 * (k : Int) by omega] at q
    exact q
   have v6 : IntKind.i64.wrap ((k : Int) * 32) = 32 * (k : Int) := by simp only [IntKind.wrap, IntKind.bits, IntKind.signed]; simp; omega
   have hmin : Nat.min (32 * n - 32 * k) 32 = 32 := Nat.min_eq_right (by omega)
   clear hb hkp hEl
   go_wp2
   refine wp_region_noPanic (wp_region_any (by kernel_rfl) ?_)
   refine take_op 0 (some 39) (.slice (some ⟨w1.heap.size, 0, none⟩) n n) rfl rfl (by kernel_rfl) (by kernel_rfl) (by kernel_rfl) (fun _ _ _ h => h) (by rfl) (fun _ => by rfl) ?_
   simp only [Act.put, sA, sB, sC]
   refine take_op 1 (some 40) (.int .i64 (k : Int)) rfl rfl (by kernel_rfl) (by kernel_rfl) (by kernel_rfl) (fun _ _ _ h => h) (by rfl) (fun _ => by rfl) ?_
   simp only [Act.put, sA, sB, sC]
   refine take_op 2 (some 41) (.pointer (some ⟨w1.heap.size, 32 * k, none⟩)) rfl rfl (by kernel_rfl) (by kernel_rfl) (by kernel_rfl) (fun _ _ _ h => h) (by rfl) (fun _ => by go_simp) ?_
   simp only [Act.put, sA, sB, sC]
   refine take_op 3 (some 42) (.slice (some ⟨w1.heap.size, 32 * k, none⟩) 32 32) rfl rfl (by kernel_rfl) (by kernel_rfl) (by kernel_rfl) (fun _ _ _ h => h) (by rfl) (fun _ => by rfl) ?_
   simp only [Act.put, sA, sB, sC]
   refine take_op 4 (some 43) (.slice (some ⟨R, 0, none⟩) (32 * n) (32 * n)) rfl rfl (by kernel_rfl) (by kernel_rfl) (by kernel_rfl) (fun _ _ _ h => h) (by rfl) (fun _ => by rfl) ?_
   simp only [Act.put, sA, sB, sC]
   refine take_op 5 (some 44) (.int .i64 (k : Int)) rfl rfl (by kernel_rfl) (by kernel_rfl) (by kernel_rfl) (fun _ _ _ h => h) (by rfl) (fun _ => by rfl) ?_
   simp only [Act.put, sA, sB, sC]
   refine take_op 6 (some 45) (.int .i64 (32 * (k : Int))) rfl rfl (by kernel_rfl) (by kernel_rfl) (by kernel_rfl) (fun _ _ _ h => h) (by rfl) (fun _ => by go_simp) ?_
   simp only [Act.put, sA, sB, sC]
   refine take_op 7 (some 46) (.slice (some ⟨R, 32 * k, none⟩) (32 * n - 32 * k) (32 * n - 32 * k)) rfl rfl (by kernel_rfl) (by kernel_rfl) (by kernel_rfl) (fun _ _ _ h => h) (by rfl) (fun _ => by go_simp) ?_
   simp only [Act.put, sA, sB, sC]
   refine wpAny_ready (rs := [8]) (by kernel_rfl) (by simp) (AllReady.cons rfl (fun K hK => ?_) AllReady.nil)
   refine step_copy_seen rfl (.tmp 42) (.tmp 46) rfl w1.heap.size (32 * k) 32 32 (some ⟨w1.heap.size, 32 * k, none⟩) (some ⟨R, 32 * k, none⟩) (32 * n - 32 * k) (32 * n - 32 * k) rfl rfl (E.drop (32 * k)) HR.out.2.1.drew 23 (u8s (E.take (32 * k))) (u8s (zer 32)) (u8s (zer (32 * n - 32 * (k + 1)))) HR.out.1.drew HA.out.1 32 hmin (by rw [u8s_length, zer_length]) (fun _ => rfl) (some 47) rfl ?_
   intro w6 b6 s6 k6
   refine hK _ _ ?_
   clear hK K
   have H6 : Hid (Blk w6 w1.heap.size 23 (u8s (E.take (32 * (k + 1)) ++ zer (32 * n - 32 * (k + 1)))) ∧ Kept (fun b => b = w1.heap.size) w2 w6) := ⟨by rw [← HA.out.2 _ rfl]; exact b6, HR.out.2.2.drew.trans k6⟩
   clear b6 s6 k6 HA HR g1
   refine wpAny_done (by kernel_rfl) (NoPanic.normal ?_) _
   go_wp2
   exact ⟨⟨k + 1, by omega, by go_num, H6.out.1, H6.out.2⟩, by simp [intOf]; omega⟩
  ·obtain rfl : k = n := by omega
   rw [Nat.sub_self, show zer 0 = [] from rfl, List.append_nil, List.take_of_length_le (by omega)] at hb
   have HF : Hid (Blk wr w1.heap.size 23 (u8s E) ∧ Below w.heap.size w wr ∧ w.heap.size ≤ w1.heap.size) := ⟨hb, below_kept HB.out.2.2.1 hkp HB.out.2.2.1.size (fun j hj => by have := HB.out.2.2.2.2; omega), HB.out.2.2.2.2⟩
   clear hb hkp hEl
   go_wp2
   go_ret2
   exact ⟨w1.heap.size, rfl, HF.out.2.2, by rw [HEE.out.1]; exact HF.out.1, HF.out.2.1⟩
def isQ (n : Nat) (pss : List (List Int)) (v : Value) (w : World) : Prop := ∃ b, v = .slice (some ⟨b, 0, none⟩) n n ∧ PartsAt w (some ⟨b, 0, none⟩) n pss
theorem PartsAt.later {w w' : World} {ao : Option Addr} {n : Nat} {pss : List (List Int)} (h : PartsAt w ao n pss) (hb : Below w.heap.size w w') : PartsAt w' ao n pss :=
 ⟨h.len, fun i hi => by
  obtain ⟨b, o, so, cs, h1, h2, h3, h4, h5, h6⟩ := h.cells i hi
  exact ⟨b, o, so, cs, h1, by have := hb.size; omega, (hb.cell (p := ⟨b, o + i, none⟩) h2).trans h3, h4.later hb (Nat.le_refl _), h5, h6⟩⟩
theorem isQ_later (n : Nat) (pss : List (List Int)) : ∀ v w w', Below w.heap.size w w' → isQ n pss v w → isQ n pss v w' := fun _ _ _ hb ⟨b, h1, h2⟩ => ⟨b, h1, h2.later hb⟩
def isB (n : Nat) (zs : List Int) (v : Value) (w : World) : Prop := ∃ ao c, v = .slice ao n c ∧ Seen w ao n zs ∧ n ≤ c ∧ (ao = none → c = 0)
theorem isB_later (n : Nat) (zs : List Int) : ∀ v w w', Below w.heap.size w w' → isB n zs v w → isB n zs v w' := fun _ _ _ hb ⟨a, c, h1, h2, h3, h4⟩ => ⟨a, c, h1, h2.later hb (Nat.le_refl _), h3, h4⟩
theorem isB_own {B n : Nat} {zs : List Int} {v : Value} {w : World} (hn : zs.length = n) (hb : Bytes zs) (ht : n ≤ 140737488355328) (h : isO B n zs v w) : isB n zs v w := by
 subst hn
 obtain ⟨vo, cap, rfl, h1, h2, h3, _⟩ := own_data hb ht h
 exact ⟨vo, cap, rfl, h1, h2, h3⟩
theorem isO_base {B C n : Nat} {zs : List Int} {v : Value} {w : World} (h : isO C n zs v w) (hB : B ≤ C) : isO B n zs v w := ownsRow_base h hB
theorem bsq2 (s1 s2 : Option Addr) (n1 n2 c1 c2 : Nat) (w : World) : (Instr.buildSlice 43 2 #[(0, .slice s1 n1 c1), (1, .slice s2 n2 c2)]).run Tryz.prog w = .ok (.slice (some ⟨w.heap.size, 0, none⟩) 2 2) (w.alloc (.cells #[.slice s1 n1 c1, .slice s2 n2 c2] 32)) := by kernel_rfl
theorem bsq3 (s1 s2 s3 : Option Addr) (n1 n2 n3 c1 c2 c3 : Nat) (w : World) : (Instr.buildSlice 43 3 #[(0, .slice s1 n1 c1), (1, .slice s2 n2 c2), (2, .slice s3 n3 c3)]).run Tryz.prog w = .ok (.slice (some ⟨w.heap.size, 0, none⟩) 3 3) (w.alloc (.cells #[.slice s1 n1 c1, .slice s2 n2 c2, .slice s3 n3 c3] 32)) := by kernel_rfl
theorem Does.parts2 {base : Nat} {ρ : Operand → Value} {o : Oper} {w : World} (parts : Array (Nat × Operand)) (ho : o.op = .buildSlice 43 2 parts) (s1 s2 : Option Addr) (n1 n2 c1 c2 : Nat) (z1 z2 : List Int) (hp : (parts.map fun (i, x) => (i, ρ x)) = #[(0, .slice s1 n1 c1), (1, .slice s2 n2 c2)])
  (h1 : Seen w s1 n1 z1) (h2 : Seen w s2 n2 z2) (l1 : n1 ≤ c1) (l2 : n2 ≤ c2) (m1 : s1 = none → c1 = 0) (m2 : s2 = none → c2 = 0) : Does base (.any (isQ 2 [z1, z2]) (isQ_later _ _)) ρ o w := by
 refine Does.run (.slice (some ⟨w.heap.size, 0, none⟩) 2 2) (w' := w.alloc (.cells #[.slice s1 n1 c1, .slice s2 n2 c2] 32)) ?_ ⟨_, rfl, Go.Proofs.YthlbjkfjkggdoaaGreatDoor.parts2 w s1 s2 n1 n2 c1 c2 z1 z2 h1 h2 l1 l2 m1 m2⟩ ((Below.refl _ _).alloc (Nat.le_refl _) _)
 unfold execOp
 simp only [ho, hp, Sem.run_bind, bsq2, Sem.run_pure, Result.andThen_ok]
theorem Does.parts3 {base : Nat} {ρ : Operand → Value} {o : Oper} {w : World} (parts : Array (Nat × Operand)) (ho : o.op = .buildSlice 43 3 parts) (s1 s2 s3 : Option Addr) (n1 n2 n3 c1 c2 c3 : Nat) (z1 z2 z3 : List Int) (hp : (parts.map fun (i, x) => (i, ρ x)) = #[(0, .slice s1 n1 c1), (1, .slice s2 n2 c2), (2, .slice s3 n3 c3)])
  (h1 : Seen w s1 n1 z1) (h2 : Seen w s2 n2 z2) (h3 : Seen w s3 n3 z3) (l1 : n1 ≤ c1) (l2 : n2 ≤ c2) (l3 : n3 ≤ c3) (m1 : s1 = none → c1 = 0) (m2 : s2 = none → c2 = 0) (m3 : s3 = none → c3 = 0) : Does base (.any (isQ 3 [z1, z2, z3]) (isQ_later _ _)) ρ o w := by
 refine Does.run (.slice (some ⟨w.heap.size, 0, none⟩) 3 3) (w' := w.alloc (.cells #[.slice s1 n1 c1, .slice s2 n2 c2, .slice s3 n3 c3] 32)) ?_ ⟨_, rfl, Go.Proofs.YthlbjkfjkggdoaaGreatDoor.parts3 w s1 s2 s3 n1 n2 n3 c1 c2 c3 z1 z2 z3 h1 h2 h3 l1 l2 l3 m1 m2 m3⟩ ((Below.refl _ _).alloc (Nat.le_refl _) _)
 unfold execOp
 simp only [ho, hp, Sem.run_bind, bsq3, Sem.run_pure, Result.andThen_ok]
theorem seen_litY (W : World) (zs : List Int) (fr : Nat × Nat) (hb : Bytes zs) (ht : zs.length ≤ 1000) : Seen (W.alloc (.cells (zs.map (Value.int .u8)).toArray 5 fr)) (some ⟨W.heap.size, 0, none⟩) zs.length zs :=
 ⟨rfl, by omega, hb, fun _ => ⟨W.heap.size, 0, rfl, by simp, fun i hi => by
  rw [Nat.zero_add, World.cell?_alloc_mark]
  simp [hi, List.getD]⟩⟩
theorem salt_bytes : Bytes saltL := by intro z hz; simp [saltL] at hz; omega
theorem sched_any (sec first server : List Int) (rd : Int) (h1 : sec.length = 32) (b1 : Bytes sec) (h2 : first.length = 32) (b2 : Bytes first) (h3 : server.length = 32) (b3 : Bytes server) (hr : 0 ≤ rd ∧ rd < 18446744073709551616) (w : World) (hK : KTab w) :
  Calls Tryz.prog 11 #[.agg (u8s sec).toArray, .agg (u8s first).toArray, .agg (u8s server).toArray, .int .u64 rd] w fun e w' => e = .returned (.tuple #[.agg (u8s (reqL sec first server rd)).toArray, .agg (u8s (repL sec first server rd)).toArray]) ∧ Below w.heap.size w w' := by
 have HL : Hid (sec.length = 32 ∧ Bytes sec ∧ first.length = 32 ∧ Bytes first ∧ server.length = 32 ∧ Bytes server) := ⟨h1, b1, h2, b2, h3, b3⟩
 have HR : Hid (0 ≤ rd ∧ rd < 18446744073709551616) := hr
 have HK : Hid (KTab w) := hK
 have hP := fun W => put_64 none 0 0 [] rd W (Seen.empty _ _) (fun _ => rfl) (by decide) hr
 rw [List.nil_append, Nat.zero_add] at hP
 obtain ⟨le8, hl8⟩ : ∃ q, leB 8 rd = q := ⟨_, rfl⟩
 have H8 : Hid (leB 8 rd = le8 ∧ le8.length = 8 ∧ Bytes le8) := ⟨hl8, by rw [← hl8, leB_length], by rw [← hl8]; exact leB_bytes _ _⟩
 obtain ⟨ks, hks⟩ : ∃ q, keysL sec first server rd = q := ⟨_, rfl⟩
 obtain ⟨ka, hka⟩ : ∃ q, reqL sec first server rd = q := ⟨_, rfl⟩
 obtain ⟨kb, hkb⟩ : ∃ q, repL sec first server rd = q := ⟨_, rfl⟩
 have HS : Hid (keysL sec first server rd = ka ++ kb ∧ ka.length = 32 ∧ kb.length = 32) := ⟨by rw [← hka, ← hkb, keysL_parts], by rw [← hka, reqL_length], by rw [← hkb, repL_length]⟩
 rw [hl8] at hP
 rw [hka, hkb]
 clear h1 b1 h2 b2 h3 b3 hr hK hl8 hks hka hkb
 go_enter Tryz.func11, Tryz.ntmps11
 go_wp2_with (first | (refine wpList_box_new rfl 23 (.tmp 0) rfl (u8s sec) rfl ?_; intro w1 b1 s1 l1) | (refine wpList_box_new rfl 23 (.tmp 1) rfl (u8s first) rfl ?_; intro w2 b2 s2 l2) | (refine wpList_box_new rfl 23 (.tmp 2) rfl (u8s server) rfl ?_; intro w3 b3 s3 l3) | ((with_reducible show wpList _ _ _ (({ dst := some 8, op := _, type := _, pos := _, after := _, guard := _ } : Oper) :: _) _ _); refine wpList_alloc_new rfl 23 rfl 32 _ zeroKey ?_; intro w4 b4 s4 l4) | ((with_reducible show wpList _ _ _ (({ dst := some 9, op := _, type := _, pos := _, after := _, guard := _ } : Oper) :: _) _ _); refine wpList_alloc_new rfl 23 rfl 32 _ zeroKey ?_; intro w5 b5 s5 l5))
 have e1 : w1.heap.size = w.heap.size + 1 := s1
 have e2 : w2.heap.size = w.heap.size + 1 + 1 := by rw [s2, e1]
 have e3 : w3.heap.size = w.heap.size + 1 + 1 + 1 := by rw [s3, e2]
 have e4 : w4.heap.size = w.heap.size + 1 + 1 + 1 + 1 := by rw [s4, e3]
 have e5 : w5.heap.size = w.heap.size + 1 + 1 + 1 + 1 + 1 := by rw [s5, e4]
 rw [e1] at b2
 rw [e2] at b3
 rw [e3] at b4
 rw [e4] at b5
 have V : Hid (Below w.heap.size w w5 ∧ Blk w5 w.heap.size 23 (u8s sec) ∧ Blk w5 (w.heap.size + 1) 23 (u8s first) ∧ Blk w5 (w.heap.size + 1 + 1) 23 (u8s server) ∧ Blk w5 (w.heap.size + 1 + 1 + 1) 23 (u8s (List.replicate 32 0)) ∧ Blk w5 (w.heap.size + 1 + 1 + 1 + 1) 23 (u8s (List.replicate 32 0)) ∧ w5.heap.size = w.heap.size + 5) :=
  ⟨below_chain (below_chain (below_chain (below_chain l1 l2 (by omega)) l3 (by omega)) l4 (by omega)) l5 (by omega), (((b1.later l2 (by omega)).later l3 (by omega)).later l4 (by omega)).later l5 (by omega), ((b2.later l3 (by omega)).later l4 (by omega)).later l5 (by omega), (b3.later l4 (by omega)).later l5 (by omega), b4.later l5 (by omega), b5, by omega⟩
 simp only [Act.put, sA, sB, sC, e1, e2, e3, e4]
 clear b1 s1 l1 b2 s2 l2 b3 s3 l3 b4 s4 l4 b5 s5 l5 e1 e2 e3 e4 e5
 refine region_invT ((.val (.slice (some ⟨w.heap.size + 1, 0, none⟩) 32 32)) :: (.val (.slice (some ⟨w.heap.size + 1 + 1, 0, none⟩) 32 32)) :: (.val (.int .u64 rd)) :: (.any (isB 8 le8) (isB_later 8 le8)) :: (.any (isQ 3 [first, server, le8]) (isQ_later 3 [first, server, le8])) :: (.any (isB 72 (first ++ server ++ le8)) (isB_later 72 (first ++ server ++ le8))) :: []) (by kernel_rfl) (by kernel_rfl) (by kernel_rfl) ?_ ?_
 ·refine Steps'.cons ?_ (Steps'.cons ?_ (Steps'.cons ?_ (Steps'.cons ?_ (Steps'.cons ?_ (Steps'.cons ?_ (Steps'.one _ _ _ _ _ _ _))))))
  ·intro ax wx hb hs hd
   have h5 : ax.tmps.getD 5 undef = (.pointer (some ⟨w.heap.size + 1, 0, none⟩)) := hs 5 (by kernel_rfl)
   exact Does.value _ (by clear hs hd; go_simp) rfl
  ·intro ax wx hb hs hd
   have h6 : ax.tmps.getD 6 undef = (.pointer (some ⟨w.heap.size + 1 + 1, 0, none⟩)) := hs 6 (by kernel_rfl)
   exact Does.value _ (by clear hs hd; go_simp) rfl
  ·intro ax wx hb hs hd
   have h3 : ax.tmps.getD 3 undef = (.int .u64 rd) := hs 3 (by kernel_rfl)
   exact Does.value _ (by clear hs hd; go_simp) rfl
  ·intro ax wx hb hs hd
   have h15 := vOf (hd 2 15 rfl (by kernel_rfl) (by decide))
   refine Does.call 46 #[.slice none 0 0, .int .u64 rd] (by clear hs hd; go_simp) ?_
   refine (hP wx).mono ?_
   rintro z w' ⟨r, rfl, ho, l⟩
   exact ⟨_, rfl, isB_own H8.out.2.1 H8.out.2.2 (by decide) ho, l⟩
  ·intro ax wx hb hs hd
   have h13 := vOf (hd 0 13 rfl (by kernel_rfl) (by decide))
   have h14 := vOf (hd 1 14 rfl (by kernel_rfl) (by decide))
   obtain ⟨ao8, c8, h16, q8, n8, z8⟩ : isB 8 le8 (ax.tmps.getD 16 undef) wx := hd 3 16 rfl (by kernel_rfl) (by decide)
   have u1 : Seen wx (some ⟨w.heap.size + 1, 0, none⟩) 32 first := by have := seen_blk (V.out.2.2.1.later hb V.out.2.2.1.lt) HL.out.2.2.2.1 (by rw [HL.out.2.2.1]; decide); rwa [HL.out.2.2.1] at this
   have u2 : Seen wx (some ⟨w.heap.size + 1 + 1, 0, none⟩) 32 server := by have := seen_blk (V.out.2.2.2.1.later hb V.out.2.2.2.1.lt) HL.out.2.2.2.2.2 (by rw [HL.out.2.2.2.2.1]; decide); rwa [HL.out.2.2.2.2.1] at this
   exact Does.parts3 _ rfl _ _ _ 32 32 8 32 32 c8 first server le8 (by simp only [List.map_toArray, List.map_cons, List.map_nil, Act.eval, h13, h14, h16]) u1 u2 q8 (by decide) (by decide) n8 (fun h => by cases h) (fun h => by cases h) z8
  ·intro ax wx hb hs hd
   obtain ⟨bq, h17, pq⟩ : isQ 3 [first, server, le8] (ax.tmps.getD 17 undef) wx := hd 4 17 rfl (by kernel_rfl) (by decide)
   refine Does.call 45 #[.slice (some ⟨bq, 0, none⟩) 3 3] (by clear hs hd; go_simp) ?_
   refine (joined_any _ 3 3 _ wx pq (by decide) (by rw [show ([first, server, le8] : List (List Int)).flatten = first ++ server ++ le8 by simp, List.length_append, List.length_append, HL.out.2.2.1, HL.out.2.2.2.2.1, H8.out.2.1]; decide) (first ++ server ++ le8) (by simp)).mono ?_
   rintro z w' ⟨r, rfl, ho, l⟩
   rw [show (first ++ server ++ le8).length = 72 by rw [List.length_append, List.length_append, HL.out.2.2.1, HL.out.2.2.2.2.1, H8.out.2.1]] at ho
   exact ⟨_, rfl, isB_own (by rw [List.length_append, List.length_append, HL.out.2.2.1, HL.out.2.2.2.2.1, H8.out.2.1]) (bytes_app (bytes_app HL.out.2.2.2.1 HL.out.2.2.2.2.2) H8.out.2.2) (by decide) ho, l⟩
 ·intro wx hb
  iterate 3 refine @Ends.val _ _ _ _ _ _ _ _ _ _ rfl ?_
  refine @Ends.any _ _ _ _ _ _ _ _ _ (isB 8 le8) (isB_later 8 le8) rfl ?_
  intro v3 p3
  refine @Ends.any _ _ _ _ _ _ _ _ _ (isQ 3 [first, server, le8]) (isQ_later 3 [first, server, le8]) rfl ?_
  intro v4 p4
  refine @Ends.any _ _ _ _ _ _ _ _ _ (isB 72 (first ++ server ++ le8)) (isB_later 72 (first ++ server ++ le8)) rfl ?_
  intro v5 p5
  refine @Ends.one _ _ _ _ _ _ _ ?_
  simp only [Act.put, sA, sB, sC]
  obtain ⟨io, ic, rfl, qi, ni, zi⟩ := p5
  refine last_assign (.tmp 18) rfl (some 10) rfl (.slice io 72 ic) rfl ?_
  have W : Hid (Below w.heap.size w wx ∧ Blk wx w.heap.size 23 (u8s sec) ∧ Blk wx (w.heap.size + 1 + 1 + 1) 23 (u8s (List.replicate 32 0)) ∧ Blk wx (w.heap.size + 1 + 1 + 1 + 1) 23 (u8s (List.replicate 32 0)) ∧ Seen wx io 72 (first ++ server ++ le8) ∧ 72 ≤ ic ∧ w.heap.size + 5 ≤ wx.heap.size) := by
   have q1 := V.out.2.2.2.2.2.2
   have q2 := hb.size
   exact ⟨below_chain V.out.1 hb V.out.1.size, V.out.2.1.later hb V.out.2.1.lt, V.out.2.2.2.2.1.later hb V.out.2.2.2.2.1.lt, V.out.2.2.2.2.2.1.later hb V.out.2.2.2.2.2.1.lt, qi, ni, by omega⟩
  obtain ⟨wy, rfl⟩ : ∃ q, q = wx := ⟨_, rfl⟩
  clear V hb p3 p4 qi ni zi
  simp only [Act.put, sA, sB, sC]
  have S1 : Hid (Seen (wy.alloc (.cells (saltL.map (Value.int .u8)).toArray 5 (11, 12))) (some ⟨wy.heap.size, 0, none⟩) 11 saltL) := seen_litY wy saltL _ salt_bytes (by decide)
  have hS : (saltL.map (Value.int .u8)).toArray = #[.int .u8 116, .int .u8 114, .int .u8 121, .int .u8 115, .int .u8 116, .int .u8 32, .int .u8 111, .int .u8 110, .int .u8 105, .int .u8 111, .int .u8 110] := rfl
  rw [hS] at S1
  clear hS
  have hc1 := run_convert_bytes_const_at (P := Tryz.prog) wy 32 5 #[.int .u8 116, .int .u8 114, .int .u8 121, .int .u8 115, .int .u8 116, .int .u8 32, .int .u8 111, .int .u8 110, .int .u8 105, .int .u8 111, .int .u8 110] 11 11 wy.heap.size rfl Tryz.underlying32 Tryz.underlying5
  go_wp2_with fail
  have B1 : Hid (Below wy.heap.size wy (wy.alloc (.cells #[.int .u8 116, .int .u8 114, .int .u8 121, .int .u8 115, .int .u8 116, .int .u8 32, .int .u8 111, .int .u8 110, .int .u8 105, .int .u8 111, .int .u8 110] 5 (11, 12)))) := (Below.refl _ _).alloc (Nat.le_refl _) _
  clear hc1
  generalize (wy.alloc (.cells #[.int .u8 116, .int .u8 114, .int .u8 121, .int .u8 115, .int .u8 116, .int .u8 32, .int .u8 111, .int .u8 110, .int .u8 105, .int .u8 111, .int .u8 110] 5 (11, 12))) = wz at S1 B1 ⊢
  have U0 : Hid (Below w.heap.size w wz) := below_chain W.out.1 B1.out W.out.1.size
  have u1 : Seen wz (some ⟨w.heap.size, 0, none⟩) 32 sec := by
   have := seen_blk (W.out.2.1.later B1.out W.out.2.1.lt) HL.out.2.1 (by rw [HL.out.1]; decide)
   rwa [HL.out.1] at this
  refine (vkeys_any _ 11 11 saltL _ 32 32 sec io 72 ic (first ++ server ++ le8) 2 (by decide) wz S1.out (Nat.le_refl _) u1 (Nat.le_refl _) (W.out.2.2.2.2.1.later B1.out (Nat.le_refl _)) W.out.2.2.2.2.2.1 (HK.out.below U0.out HK.out.lt)).mono ?_
  rintro e wv ⟨R, rfl, hR, bR, lv⟩
  have hE : exps (mac saltL sec) (first ++ server ++ le8) (32 * 2) = ka ++ kb := by rw [← HS.out.1, ← H8.out.1]; rfl
  rw [hE] at bR
  have Y : Hid (Below w.heap.size w wv ∧ Blk wv R 23 (u8s ka ++ (u8s kb ++ [])) ∧ Blk wv (w.heap.size + 1 + 1 + 1) 23 (u8s (List.replicate 32 0)) ∧ Blk wv (w.heap.size + 1 + 1 + 1 + 1) 23 (u8s (List.replicate 32 0))) := by
   have q1 := B1.out.size
   have q2 := W.out.2.2.2.2.2.2
   refine ⟨below_chain U0.out lv U0.out.size, by rw [List.append_nil]; simpa [u8s] using bR, (W.out.2.2.1.later B1.out W.out.2.2.1.lt).later lv (by omega), (W.out.2.2.2.1.later B1.out W.out.2.2.2.1.lt).later lv (by omega)⟩
  have HRn : Hid (R ≠ w.heap.size + 1 + 1 + 1 ∧ R ≠ w.heap.size + 1 + 1 + 1 + 1) := by
   have q1 := B1.out.size
   have q2 := W.out.2.2.2.2.2.2
   exact ⟨by omega, by omega⟩
  clear u1 hR bR lv hE S1 B1 W U0
  go_wp2_with fail
  have qR : R ≠ w.heap.size + 1 + 1 + 1 ∧ R ≠ w.heap.size + 1 + 1 + 1 + 1 := HRn.out
  refine wp_region_noPanic (wp_region_held_drew (S := fun W => Blk W R 23 (u8s ka ++ (u8s kb ++ []))) (by kernel_rfl) (Y.out.2.1.drew) (fun hH => ?_))
  refine hTake 0 (some 27) (.slice (some ⟨R, 0, none⟩) 2 2) rfl rfl (by kernel_rfl) (by kernel_rfl) (by kernel_rfl) (fun _ _ _ h => h) (by rfl) (fun W' hS' => by go_simp) hH ?_
  simp only [Act.put, sA, sB, sC]
  refine hTake 1 (some 28) (.pointer (some ⟨R, 0, none⟩)) rfl rfl (by kernel_rfl) (by kernel_rfl) (by kernel_rfl) (fun _ _ _ h => h) (by rfl) (fun W' hS' => by go_simp) hH ?_
  simp only [Act.put, sA, sB, sC]
  refine hLoad 2 (some 29) (u8s ka) rfl rfl (by kernel_rfl) (by kernel_rfl) (by kernel_rfl) (fun _ _ _ h => h) (by rfl) 23 (.tmp 28) rfl R 0 rfl _ (fun _ h => Blk.range (xs := []) (zs := u8s kb ++ []) (by simpa using h)) Tryz.underlying23 rfl (by rw [u8s_length, HS.out.2.1]; exact ksizeKey) hH ?_
  simp only [Act.put, sA, sB, sC]
  refine hTake 3 (some 30) (.slice (some ⟨R, 0, none⟩) 2 2) rfl rfl (by kernel_rfl) (by kernel_rfl) (by kernel_rfl) (fun _ _ _ h => h) (by rfl) (fun W' hS' => by go_simp) hH ?_
  simp only [Act.put, sA, sB, sC]
  refine hTake 4 (some 31) (.pointer (some ⟨R, 32, none⟩)) rfl rfl (by kernel_rfl) (by kernel_rfl) (by kernel_rfl) (fun _ _ _ h => h) (by rfl) (fun W' hS' => by go_simp) hH ?_
  simp only [Act.put, sA, sB, sC]
  refine hLoad 5 (some 32) (u8s kb) rfl rfl (by kernel_rfl) (by kernel_rfl) (by kernel_rfl) (fun _ _ _ h => h) (by rfl) 23 (.tmp 31) rfl R 32 rfl _ (fun _ h => (by have q := Blk.range h; rw [u8s_length, HS.out.2.1] at q; exact q)) Tryz.underlying23 rfl (by rw [u8s_length, HS.out.2.2]; exact ksizeKey) hH ?_
  simp only [Act.put, sA, sB, sC]
  refine wpAnyH_ready (rs := [6]) (by kernel_rfl) (by simp) (AllReadyH.cons rfl (fun K hK => ?_) AllReadyH.nil)
  rw [if_pos (by rfl)]
  refine last_store 23 (.tmp 8) (.tmp 29) rfl rfl (w.heap.size + 1 + 1 + 1) rfl 23 _ (u8s ka) rfl Y.out.2.2.1.drew (by rw [u8s_length, u8s_length, HS.out.2.1]; rfl) (by rw [u8s_length, HS.out.2.1]; exact ksizeKey) (u8s_one _) ?_
  intro w6 b6 s6 k6
  refine hK.out _ _ (hH.kept k6 qR.1) (fun hH => ?_)
  clear hK K
  refine wpAnyH_ready (rs := [7]) (by kernel_rfl) (by simp) (AllReadyH.cons rfl (fun K hK => ?_) AllReadyH.nil)
  rw [if_pos (by rfl)]
  refine last_store 23 (.tmp 9) (.tmp 32) rfl rfl (w.heap.size + 1 + 1 + 1 + 1) rfl 23 _ (u8s kb) rfl (Y.out.2.2.2.drew.kept k6 (by omega)) (by rw [u8s_length, u8s_length, HS.out.2.2]; rfl) (by rw [u8s_length, HS.out.2.2]; exact ksizeKey) (u8s_one _) ?_
  intro w7 b7 s7 k7
  refine hK.out _ _ (hH.kept k7 qR.2) (fun hH => ?_)
  clear hK K
  refine wpAnyH_done (by kernel_rfl) (NoPanic.normal ?_) _
  clear hH
  go_wp2_with fail
  exact ret_blk2 rfl (w.heap.size + 1 + 1 + 1) (w.heap.size + 1 + 1 + 1 + 1) (u8s ka) (u8s kb) _ _ rfl rfl (b6.kept k7 (by omega)) b7 Tryz.underlying23 Tryz.underlying23 rfl rfl (by rw [u8s_length, HS.out.2.1]; exact ksizeKey) (by rw [u8s_length, HS.out.2.2]; exact ksizeKey) rfl ⟨rfl, below_kept (below_kept (below_dn Y.out.1 1) k6 Y.out.1.size (fun j hj => by omega)) k7 (by have := Y.out.1.size; rw [s6]; exact this) (fun j hj => by omega)⟩
end Go.Proofs.YthlbjkfjkggdoaaGreatDoor
