/- Joined by program: what the theorem reaches. -/
import Derived.Laws.StructEq
import Derived.Lib.SmallJoins
import Derived.Laws.Cover3
import Derived.Lib.SliceRun
import Derived.WalkMore
import Derived.ScopeJumps
import Derived.Laws.OwnMore
import Derived.Test.YthlbjkfjkggdoaaGreatDoorJA
import Derived.Test.YthlbjkfjkggdoaaGreatDoorJB
import Derived.Test.YthlbjkfjkggdoaaGreatDoorJC
import Derived.Test.YthlbjkfjkggdoaaGreatDoorJJ
import Derived.Test.YthlbjkfjkggdoaaGreatDoorJK
namespace Go.Proofs.YthlbjkfjkggdoaaGreatDoor
open Go.RowKit Go.Joins
set_option linter.unusedVariables false
set_option linter.unusedSimpArgs false
set_option maxRecDepth 20000
set_option maxHeartbeats 1000000
theorem one_new (w : World) (x : Value) (t : TypeId) : ∀ j u, [x][j]? = some u → (w.alloc (.cells #[x] t)).cell? ((⟨w.heap.size, 0, none⟩ : Addr).add j) = some u := by
 intro j u hj
 rw [add_mid, Nat.zero_add]
 have h : (w.alloc (.cells #[x] t)).heap[w.heap.size]? = some (.cells [x].toArray t (0, 0)) := heap_alloc_new w _
 rw [cell_of_row _ _ j _ t (0, 0) h]
 simpa using hj
theorem own_data {w : World} {base : Nat} {v : Value} {zs : List Int} (hb : Bytes zs) (ht : zs.length ≤ 140737488355328) (h : w.ownsRow base 5 1 v zs.length (zs.map (Value.int .u8))) :
  ∃ vo cap, v = .slice vo zs.length cap ∧ Seen w vo zs.length zs ∧ zs.length ≤ cap ∧ (vo = none → cap = 0) ∧ (∀ b o, vo = some ⟨b, o, none⟩ → base ≤ b ∧ b < w.heap.size ∧ o = 0 ∧ RowAt w b zs) ∧ cap ≤ maxLen := by
 rcases own_cases h with ⟨rfl, h0⟩ | ⟨g, cap, rfl, hr, hg, hc, hm⟩
 ·subst h0
  exact ⟨none, 0, rfl, Seen.empty _ _, Nat.le_refl _, fun _ => rfl, (fun b o h => by cases h), by decide⟩
 ·refine ⟨_, cap, rfl, ?_, hc, (fun h => by cases h), fun b o h => ?_, hm⟩
  ·have := Seen.of_row (n := zs.length) hr (Nat.le_refl _) ht hb
   rwa [List.take_length] at this
  ·simp only [Option.some.injEq, Addr.mk.injEq, and_true] at h
   obtain ⟨rfl, rfl⟩ := h
   exact ⟨hg, hr.lt, rfl, hr⟩
theorem copyB_any (ao : Option Addr) (n c : Nat) (zs : List Int) (w : World) (hx : Seen w ao n zs) :
  Calls Tryz.prog 22 #[.slice ao n c] w fun e w' => ∃ v, e = .returned v ∧ w'.ownsRow w.heap.size 5 1 v n (zs.map (Value.int .u8)) ∧ Below w.heap.size w w' := by
 have t1 := hx.top
 have HL : Hid (zs.length = n) := hx.len
 obtain ⟨i0, hi, hz0, hz1, hz2⟩ := info_parts info_byte
 obtain ⟨w0, hmk, ho1, hg0⟩ := run_make_own (P := Tryz.prog) w w.heap.size 32 5 i0 (.int .u8 0) 1 Tryz.underlying32 hi hz0 hz1 .i64 .i64 n (by rw [hz2]; omega) (by unfold maxLen; omega) (Nat.le_refl _)
 have hb1 : Below w.heap.size w w0 := (Below.refl _ _).grown hg0 (Nat.le_refl _) (fun j hj => by cases hj)
 go_enter Tryz.func22, Tryz.ntmps22
 go_wp2
 go_loopw [3, 4] (fun v i wr => ∃ k : Nat, k ≤ n ∧ i = .int .i64 k ∧ wr.ownsRow w.heap.size 5 1 v k ((zs.map (Value.int .u8)).take k) ∧ Below w.heap.size w wr) (fun _ i _ => n - (intOf i).toNat)
 case atStart => exact ⟨0, Nat.zero_le _, rfl, ho1, hb1⟩
 case round =>
  clear ho1 hb1 hg0
  obtain ⟨k, hk, rfl, hown, hbel⟩ := hrel
  by_cases hlt : k < n
  ·obtain ⟨b, o, rfl, hb, hc⟩ := hx.cells (by omega)
   have c1 := (hbel.cell (p := ⟨b, o + k, none⟩) hb).trans (hc k hlt)
   obtain ⟨Z, hZ⟩ : ∃ Z, zs.getD k 0 = Z := ⟨_, rfl⟩
   rw [hZ] at c1
   have HZ : Hid (zs.getD k 0 = Z) := hZ
   have hsz := hbel.size
   have i1 : (0 : Int) ≤ (k : Int) := by omega
   have i2 : (k : Int) < (n : Int) := by omega
   clear hZ hc hx
   go_wp2_with (at_builtin; refine wpList_append_own _ rfl _ _ 32 rfl w.heap.size 5 i0 (.int .u8 0) 1 1 Tryz.underlying32 hi hz0 hz1 hz2 rfl (by decide) _ _ _ rfl (hown.alloc _) ⟨wr.heap.size, 0, none⟩ 1 1 [.int .u8 Z] rfl rfl ?c1 ?c2 ?c3 ?c4 ?c5 ?_)
   case c1 => exact one_new _ _ _
   case c2 => intro u hu; simp at hu; subst hu; rfl
   case c3 => unfold maxLen; omega
   case c4 => omega
   case c5 => simp; omega
   ·intro v' w1 hown' hgrow _
    have R := step_own hbel hown (by have := HL.out; omega) HZ.out hown' hgrow
    clear hown' hgrow hown hbel c1
    go_wp2
    go_roundw
    case rel => exact ⟨k + 1, by omega, by go_num, R.1, R.2⟩
    case measure => simp [intOf] <;> omega
  ·obtain rfl : k = n := by omega
   have HO : Hid (wr.ownsRow w.heap.size 5 1 u3 k ((zs.map (Value.int .u8)).take k)) := hown
   have HB : Hid (Below w.heap.size w wr) := hbel
   clear hown hbel hx
   go_wp2
   go_ret
   refine ⟨_, rfl, ?_, HB.out⟩
   have h := HO.out
   rwa [List.take_of_length_le (by have := HL.out; simp; omega)] at h
theorem seenP1 (W : World) (s1 : Option Addr) (n1 c1 : Nat) (z1 : List Int) (h1 : Seen W s1 n1 z1) (l1 : n1 ≤ c1) :
  SeenP (W.alloc (.cells #[.slice s1 n1 c1] 32)) (some ⟨W.heap.size, 0, none⟩) 1 [z1] := by
 obtain rfl := h1.len
 have hb : Below W.heap.size W (W.alloc (.cells #[.slice s1 z1.length c1] 32)) := (Below.refl _ _).alloc (Nat.le_refl _) _
 have hh : (W.alloc (.cells #[.slice s1 z1.length c1] 32)).heap[W.heap.size]? = some (.cells [.slice s1 z1.length c1].toArray 32 (0, 0)) := heap_alloc_new W _
 refine ⟨rfl, fun i hi => ?_⟩
 obtain rfl : i = 0 := by omega
 exact ⟨_, 0, s1, c1, rfl, by simp, by rw [cell_of_row _ _ _ _ _ _ hh]; rfl, h1.later hb (Nat.le_refl _), l1⟩
theorem infoByte : (Tryz.prog.info? 5).map (fun i => (i.zero, i.size)) = some (some (.int .u8 0), 1) := by kernel_rfl
def isP (n : Nat) (pss : List (List Int)) (v : Value) (w : World) : Prop := ∃ b c, v = .slice (some ⟨b, 0, none⟩) n c ∧ SeenP w (some ⟨b, 0, none⟩) n pss
theorem isP_later (n : Nat) (pss : List (List Int)) : ∀ v w w', Below w.heap.size w w' → isP n pss v w → isP n pss v w' := fun _ _ _ hb ⟨b, c, h1, h2⟩ => ⟨b, c, h1, h2.later hb (Nat.le_refl _)⟩
theorem Does.run {base : Nat} {E : Exp} {ρ : Operand → Value} {o : Oper} {w w' : World} (v : Value) (h : (execOp ρ o).run Tryz.prog w = .ok (.value v) w') (hE : E.ok base v w') (hb : Below w.heap.size w w') : Does base E ρ o w := by
 unfold Does; rw [h]; exact ⟨hE, hb⟩
theorem bs1 (s1 : Option Addr) (n1 c1 : Nat) (w : World) : (Instr.buildSlice 43 1 #[(0, .slice s1 n1 c1)]).run Tryz.prog w = .ok (.slice (some ⟨w.heap.size, 0, none⟩) 1 1) (w.alloc (.cells #[.slice s1 n1 c1] 32)) := by kernel_rfl
theorem Does.rows1 {base : Nat} {ρ : Operand → Value} {o : Oper} {w : World} (parts : Array (Nat × Operand)) (ho : o.op = .buildSlice 43 1 parts) (s1 : Option Addr) (n1 c1 : Nat) (z1 : List Int) (hp : (parts.map fun (i, x) => (i, ρ x)) = #[(0, .slice s1 n1 c1)]) (h1 : Seen w s1 n1 z1) (l1 : n1 ≤ c1) : Does base (.any (isP 1 [z1]) (isP_later _ _)) ρ o w := by
 refine Does.run (.slice (some ⟨w.heap.size, 0, none⟩) 1 1) (w' := w.alloc (.cells #[.slice s1 n1 c1] 32)) ?_ ⟨_, _, rfl, seenP1 w s1 n1 c1 z1 h1 l1⟩ ((Below.refl _ _).alloc (Nat.le_refl _) _)
 unfold execOp
 simp only [ho, hp, Sem.run_bind, bs1, Sem.run_pure, Result.andThen_ok]
def hdr (x : Option Addr × Nat × Nat × List Int) : Value := .slice x.1 x.2.1 x.2.2.1
theorem seenPn (W : World) (l : List (Option Addr × Nat × Nat × List Int)) (h : ∀ x ∈ l, Seen W x.1 x.2.1 x.2.2.2 ∧ x.2.1 ≤ x.2.2.1) :
  SeenP (W.alloc (.cells (l.map hdr).toArray 32)) (some ⟨W.heap.size, 0, none⟩) l.length (l.map (·.2.2.2)) := by
 have hb : Below W.heap.size W (W.alloc (.cells (l.map hdr).toArray 32)) := (Below.refl _ _).alloc (Nat.le_refl _) _
 have hh : (W.alloc (.cells (l.map hdr).toArray 32)).heap[W.heap.size]? = some (.cells (l.map hdr).toArray 32 (0, 0)) := heap_alloc_new W _
 refine ⟨by simp, fun i hi => ?_⟩
 have hx := h l[i] (List.getElem_mem hi)
 have e : (l.map (·.2.2.2)).getD i [] = l[i].2.2.2 := by simp [List.getD, hi]
 have el : l[i].2.2.2.length = l[i].2.1 := hx.1.len
 rw [e, el]
 refine ⟨_, 0, l[i].1, l[i].2.2.1, rfl, by simp, ?_, hx.1.later hb (Nat.le_refl _), hx.2⟩
 rw [cell_of_row _ _ _ _ _ _ hh]
 simp [hi, hdr]
theorem bs5 (s1 s2 s3 s4 s5 : Option Addr) (n1 n2 n3 n4 n5 c1 c2 c3 c4 c5 : Nat) (w : World) : (Instr.buildSlice 43 5 #[(0, .slice s1 n1 c1), (1, .slice s2 n2 c2), (2, .slice s3 n3 c3), (3, .slice s4 n4 c4), (4, .slice s5 n5 c5)]).run Tryz.prog w = .ok (.slice (some ⟨w.heap.size, 0, none⟩) 5 5) (w.alloc (.cells #[.slice s1 n1 c1, .slice s2 n2 c2, .slice s3 n3 c3, .slice s4 n4 c4, .slice s5 n5 c5] 32)) := by kernel_rfl
theorem Does.rows5 {base : Nat} {ρ : Operand → Value} {o : Oper} {w : World} (parts : Array (Nat × Operand)) (ho : o.op = .buildSlice 43 5 parts) (s1 s2 s3 s4 s5 : Option Addr) (n1 n2 n3 n4 n5 c1 c2 c3 c4 c5 : Nat) (z1 z2 z3 z4 z5 : List Int) (hp : (parts.map fun (i, x) => (i, ρ x)) = #[(0, .slice s1 n1 c1), (1, .slice s2 n2 c2), (2, .slice s3 n3 c3), (3, .slice s4 n4 c4), (4, .slice s5 n5 c5)])
  (h1 : Seen w s1 n1 z1 ∧ n1 ≤ c1) (h2 : Seen w s2 n2 z2 ∧ n2 ≤ c2) (h3 : Seen w s3 n3 z3 ∧ n3 ≤ c3) (h4 : Seen w s4 n4 z4 ∧ n4 ≤ c4) (h5 : Seen w s5 n5 z5 ∧ n5 ≤ c5) : Does base (.any (isP 5 [z1, z2, z3, z4, z5]) (isP_later _ _)) ρ o w := by
 refine Does.run (.slice (some ⟨w.heap.size, 0, none⟩) 5 5) (w' := w.alloc (.cells #[.slice s1 n1 c1, .slice s2 n2 c2, .slice s3 n3 c3, .slice s4 n4 c4, .slice s5 n5 c5] 32)) ?_ ⟨_, _, rfl, ?_⟩ ((Below.refl _ _).alloc (Nat.le_refl _) _)
 ·unfold execOp
  simp only [ho, hp, Sem.run_bind, bs5, Sem.run_pure, Result.andThen_ok]
 ·exact seenPn w [(s1, n1, c1, z1), (s2, n2, c2, z2), (s3, n3, c3, z3), (s4, n4, c4, z4), (s5, n5, c5, z5)] (fun x hx => by
   simp only [List.mem_cons, List.not_mem_nil, or_false] at hx
   rcases hx with rfl | rfl | rfl | rfl | rfl
   ·exact h1
   ·exact h2
   ·exact h3
   ·exact h4
   ·exact h5)
def isS (zs : List Int) (v : Value) (w : World) : Prop := ∃ vo n c, v = .slice vo n c ∧ Seen w vo n zs ∧ n ≤ c
theorem isS_later (zs : List Int) : ∀ v w w', Below w.heap.size w w' → isS zs v w → isS zs v w' := fun _ _ _ hb ⟨b, o, c, h1, h2, h3⟩ => ⟨b, o, c, h1, h2.later hb (Nat.le_refl _), h3⟩
theorem madeZ (n : Nat) : (madeCells #[Value.int .u8 0] n) = (u8s (List.replicate n 0)).toArray := by
 apply Array.ext'
 rw [toList_madeCells_one]
 simp [u8s]
theorem filler_any (ao : Option Addr) (n c : Nat) (hn : n ≤ 140737488355328) (w : World) :
  Calls Tryz.prog 161 #[.slice ao n c] w fun e w' => ∃ v, e = .returned v ∧ isS (fillL n) v w' ∧ Below w.heap.size w w' := by
 obtain ⟨i0, hi, hz0, hz1, hz2⟩ := info_parts info_byte
 obtain ⟨R, hR⟩ : ∃ R, n % 16 = R := ⟨_, rfl⟩
 obtain ⟨K, hK⟩ : ∃ K, fillN n = K := ⟨_, rfl⟩
 have hR16 : R < 16 := by omega
 have hK2 : (16 - R) % 16 = K := by rw [← hK, fillN, hR]
 have hK16 : K < 16 := by omega
 have n1 : (n : Int).tmod 16 = (R : Int) := by rw [Int.tmod_eq_emod_of_nonneg (by omega)]; omega
 have n2 : (n : Int) % 16 = (R : Int) := by omega
 have n3 : (16 - (R : Int)).tmod 16 = (K : Int) := by rw [Int.tmod_eq_emod_of_nonneg (by omega)]; omega
 have n4 : (16 - (R : Int)) % 16 = (K : Int) := by omega
 have hmk := run_make (P := Tryz.prog) w 32 5 i0 (.int .u8 0) Tryz.underlying32 hi hz0 .i64 .i64 (K : Int) (K : Int) (by omega) (Int.le_refl _) (by rw [hz2]; omega) (by omega)
 rw [hz1, show ((K : Int).toNat) = K by omega, Nat.mul_one, show (Value.int .u8 0).cells = #[.int .u8 0] from rfl, madeZ] at hmk
 obtain ⟨w1, hw1, HB⟩ : ∃ w1, w.alloc (.cells (u8s (List.replicate K 0)).toArray 5) = w1 ∧ Hid (Blk w1 w.heap.size 5 (u8s (List.replicate K 0)) ∧ Below w.heap.size w w1) := ⟨_, rfl, ⟨heap_alloc_new w _, (Below.refl _ _).alloc (Nat.le_refl _) _⟩⟩
 rw [hw1] at hmk
 have HE : Hid (fillL n = List.replicate K 0) := by show _ = _; rw [fillL, hK]
 clear hw1 hi hz0 hz1 hz2 hR hK hK2
 go_enter Tryz.func161, Tryz.ntmps161
 go_wp2
 go_ret
 refine ⟨_, rfl, ⟨_, _, _, rfl, ?_, Nat.le_refl _⟩, HB.out.2⟩
 rw [HE.out]
 have := seen_blk HB.out.1 (rep0_bytes K) (by simp; omega)
 simpa using this
theorem laidOver_any (key nonce : List Int) (n c : Nat) (ao : Option Addr) (zs : List Int) (hk : key.length = 32) (hno : nonce.length = 12) (hkb : Bytes key) (hnb : Bytes nonce) (hc : n ≤ 274877906880) (w : World) (hx : Seen w ao n zs) :
  Calls Tryz.prog 119 #[.agg (u8s key).toArray, .agg (u8s nonce).toArray, .slice ao n c] w fun e w' => ∃ v, e = .returned v ∧ w'.ownsRow w.heap.size 5 1 v n ((coverL key nonce zs).map (Value.int .u8)) ∧ Below w.heap.size w w' := by
 have HX : Hid (Seen w ao n zs) := hx
 clear hx
 have HS : Hid (key.length = 32 ∧ nonce.length = 12 ∧ Bytes key ∧ Bytes nonce) := ⟨hk, hno, hkb, hnb⟩
 clear hk hno hkb hnb
 go_enter Tryz.func119, Tryz.ntmps119
 go_wp2_with (first | (refine wpList_box_new rfl 23 _ rfl (u8s key) rfl ?_; intro w1 b1 s1 l1) | (refine wpList_box_new rfl 92 _ rfl (u8s nonce) rfl ?_; intro w2 b2 s2 l2) | (refine wpList_load_blk rfl 23 _ rfl _ rfl (u8s key) _ (by first | exact b1.later l2 (by omega)) Tryz.underlying23 rfl (by rw [u8s_length, HS.out.1]; exact sizeKey) ?_) | (refine wpList_load_blk rfl 92 _ rfl _ rfl (u8s nonce) _ (by first | exact b2 | (rw [← s1]; exact b2)) Tryz.underlying92 rfl (by rw [u8s_length, HS.out.2.1]; exact sizeNonce) ?_) | (go_at_call 158; refine (xor_any key nonce 1 n c ao zs HS.out.1 HS.out.2.1 HS.out.2.2.1 HS.out.2.2.2 (by decide) (by omega) _ (HX.out.later (below_chain l1 l2 (by omega)) (Nat.le_refl _))).mono ?_; rintro e w3 ⟨v, rfl, o3, l3⟩; have HO : Hid (w3.ownsRow w.heap.size 5 1 v n ((coverL key nonce zs).map (Value.int .u8)) ∧ Below w.heap.size w w3) := ⟨ownsRow_base o3 (by omega), below_chain (below_chain l1 l2 (by omega)) l3 (by omega)⟩; clear o3 l3 b1 s1 l1 b2 s2 l2))
 go_ret
 exact ⟨_, rfl, HO.out⟩
theorem arrKey (ao : Option Addr) (n c : Nat) (hn : 32 ≤ n) (w : World) : (Instr.arrayAt 23 (.slice ao n c)).run Tryz.prog w = .ok (.pointer ao) w := run_arrayAt w 23 5 32 ao n c Tryz.underlying23 hn
theorem sizeA64b : (Tryz.prog.info? 188).map (·.size) = some 64 := by kernel_rfl
theorem codeOf_any (key nonce : List Int) (n c m d : Nat) (ao bo : Option Addr) (ms zs : List Int) (hk : key.length = 32) (hno : nonce.length = 12) (hkb : Bytes key) (hnb : Bytes nonce) (w : World) (hx : Seen w ao n ms) (hy : Seen w bo m zs) (hc : n ≤ c) (hd : m ≤ d) :
  Calls Tryz.prog 120 #[.agg (u8s key).toArray, .agg (u8s nonce).toArray, .slice ao n c, .slice bo m d] w fun e w' => e = .returned (.agg (u8s (codeL key nonce ms zs)).toArray) ∧ Below w.heap.size w w' := by
 have HX : Hid (Seen w ao n ms ∧ Seen w bo m zs ∧ n ≤ c ∧ m ≤ d) := ⟨hx, hy, hc, hd⟩
 have HS : Hid (key.length = 32 ∧ nonce.length = 12 ∧ Bytes key ∧ Bytes nonce) := ⟨hk, hno, hkb, hnb⟩
 have t1 := hx.top
 have t2 := hy.top
 have e1 : ms.length = n := hx.len
 have e2 : zs.length = m := hy.len
 obtain ⟨B, hB⟩ : ∃ B, blkB key 0 nonce = B := ⟨_, rfl⟩
 obtain ⟨TK, hTK⟩ : ∃ T, tagKey key nonce = T := ⟨_, rfl⟩
 obtain ⟨CL, hCL⟩ : ∃ C, codeL key nonce ms zs = C := ⟨_, rfl⟩
 have HB : Hid (blkB key 0 nonce = B ∧ B.length = 64 ∧ u8s B = u8s TK ++ u8s (B.drop 32) ∧ TK.length = 32 ∧ Bytes TK ∧ CL.length = 16 ∧ tagB TK ([ms, fillL n, zs, fillL m, ends8 n m] : List (List Int)).flatten = CL) := by
  refine ⟨hB, by rw [← hB, blkB_length], ?_, by rw [← hTK, tagKey_length], by rw [← hTK]; exact tagKey_bytes _ _, by rw [← hCL, codeL_length], ?_⟩
  ·rw [← hTK, tagKey, hB, u8s, u8s, u8s, ← List.map_append, List.take_append_drop]
  ·rw [← hCL, codeL, hTK, vouched, e1, e2]
 rw [hCL]
 clear hx hy hk hno hkb hnb hB hTK hCL e1 e2 hc hd
 have v1 : IntKind.u64.wrap (n : Int) = (n : Int) := by simp only [IntKind.wrap, IntKind.bits, IntKind.signed]; simp; omega
 have v2 : IntKind.u64.wrap (m : Int) = (m : Int) := by simp only [IntKind.wrap, IntKind.bits, IntKind.signed]; simp; omega
 go_enter Tryz.func120, Tryz.ntmps120
 go_wp2_with (first | (refine wpList_box_new rfl 23 _ rfl (u8s key) rfl ?_; intro w1 b1 s1 l1) | (refine wpList_box_new rfl 92 _ rfl (u8s nonce) rfl ?_; intro w2 b2 s2 l2) | (refine wpList_alloc_new rfl 164 rfl 16 _ zeroTag ?_; intro w3 b3 s3 l3; have K3 : Hid (Blk w3 w.heap.size 23 (u8s key) ∧ Blk w3 w1.heap.size 92 (u8s nonce)) := ⟨(b1.later l2 (by omega)).later l3 (by omega), b2.later l3 (by omega)⟩) | (refine wpList_load_blk rfl 23 _ rfl _ rfl (u8s key) _ K3.out.1 Tryz.underlying23 rfl (by rw [u8s_length, HS.out.1]; exact sizeKey) ?_) | (refine wpList_load_blk rfl 92 _ rfl _ rfl (u8s nonce) _ (by first | exact K3.out.2 | (rw [← s1]; exact K3.out.2)) Tryz.underlying92 rfl (by rw [u8s_length, HS.out.2.1]; exact sizeNonce) ?_) | (go_at_call 159; refine (block_any key 0 nonce HS.out.1 HS.out.2.1 HS.out.2.2.1 HS.out.2.2.2 _).mono ?_; rintro e w4 ⟨rfl, l4⟩; rw [HB.out.1]) | (refine wpList_alloc_new rfl 188 rfl 64 _ zero64b ?_; intro w5 b5 s5 l5) | (refine wpList_store_blk rfl 188 188 _ _ rfl _ rfl _ (u8s B) rfl b5 (by rw [u8s_length, u8s_length, HB.out.2.1]; rfl) (by rw [u8s_length, HB.out.2.1]; exact sizeA64b) (u8s_one _) ?_; intro w6 b6 s6 k6))
 have q4 := l4.size
 obtain ⟨G, hG⟩ : ∃ G, w4.heap.size = G := ⟨_, rfl⟩
 try simp only [Act.put, sA, sB, sC]
 rw [hG] at b6 k6 ⊢
 have H6 : Hid (Blk w6 G 188 (u8s B) ∧ Blk w6 (w.heap.size + 1 + 1) 164 (u8s (zs0 16)) ∧ Below w.heap.size w w6 ∧ w.heap.size + 1 + 1 < G) := by
  rw [s2, s1] at b3
  exact ⟨b6, ((b3.later l4 (by omega)).later l5 (by omega)).kept k6 (by omega), below_kept (below_chain (below_chain (below_chain (below_chain l1 l2 (by omega)) l3 (by omega)) l4 (by omega)) l5 (by omega)) k6 (by omega) (fun j hj => by omega), by omega⟩
 clear b1 s1 l1 b2 s2 l2 b3 s3 l3 l4 b5 s5 l5 b6 s6 k6 hG q4 K3
 refine (put_64 none 0 0 [] (n : Int) w6 (Seen.empty _ _) (fun _ => rfl) (by decide) (by omega)).mono ?_
 rintro e w7 ⟨v7, rfl, o7, l7⟩
 obtain ⟨p7, c7, rfl, d7, _⟩ := own_seen (by simp [leB_length]) (bytes_app (fun z hz => by cases hz) (leB_bytes _ _)) (by decide) o7
 have z7 : p7 = none → c7 = 0 := fun h => by
  obtain ⟨b, o, e, _⟩ := d7.cells (by decide)
  rw [h] at e; cases e
 have H7 : Hid (Blk w7 G 188 (u8s B) ∧ Blk w7 (w.heap.size + 1 + 1) 164 (u8s (zs0 16)) ∧ Below w.heap.size w w7 ∧ Seen w7 p7 (0 + 8) ([] ++ leB 8 n) ∧ w.heap.size + 1 + 1 < G) := ⟨H6.out.1.later l7 H6.out.1.lt, H6.out.2.1.later l7 H6.out.2.1.lt, below_chain H6.out.2.2.1 l7 H6.out.2.2.1.size, d7, H6.out.2.2.2⟩
 clear o7 l7 d7 H6
 go_wp2_with fail
 refine (put_64 p7 (0 + 8) c7 _ (m : Int) w7 H7.out.2.2.2.1 z7 (by decide) (by omega)).mono ?_
 rintro e w8 ⟨v8, rfl, o8, l8⟩
 have b8 : Bytes (([] ++ leB 8 (n : Int)) ++ leB 8 (m : Int)) := bytes_app (bytes_app (fun z hz => by cases hz) (leB_bytes _ _)) (leB_bytes _ _)
 have e8 : (([] ++ leB 8 (n : Int)) ++ leB 8 (m : Int) : List Int).length = 0 + 8 + 8 := by simp [leB_length]
 rw [← e8] at o8
 obtain ⟨po8, c8, rfl, d8, hc8, _⟩ := own_data b8 (by rw [e8]; decide) o8
 rw [e8] at d8 hc8
 have H8 : Hid (Blk w8 G 188 (u8s B) ∧ Blk w8 (w.heap.size + 1 + 1) 164 (u8s (zs0 16)) ∧ Below w.heap.size w w8 ∧ Seen w8 po8 16 (ends8 n m) ∧ 16 ≤ c8 ∧ Seen w8 ao n ms ∧ Seen w8 bo m zs) := by
  have L8 := below_chain H7.out.2.2.1 l8 H7.out.2.2.1.size
  refine ⟨H7.out.1.later l8 H7.out.1.lt, H7.out.2.1.later l8 H7.out.2.1.lt, L8, ?_, hc8, HX.out.1.later L8 (Nat.le_refl _), HX.out.2.1.later L8 (Nat.le_refl _)⟩
  simpa [ends8] using d8
 rw [e8]
 clear o8 l8 d8 hc8 H7 b8 e8 z7
 go_wp2_with fail
 try simp only [Act.put, sA, sB, sC]
 refine region_inv [.val (.slice (some ⟨G, 0, none⟩) 32 64), .val (.pointer (some ⟨G, 0, none⟩)), .val (.agg (u8s TK).toArray), .val (.slice ao n c), .val (.slice ao n c), .any (isS (fillL n)) (isS_later _), .val (.slice bo m d), .val (.slice bo m d), .any (isS (fillL m)) (isS_later _), .val (.slice po8 16 c8), .any (isP 5 [ms, fillL n, zs, fillL m, ends8 n m]) (isP_later _ _), .val (.agg (u8s CL).toArray)] (by kernel_rfl) (by kernel_rfl) (by kernel_rfl) ?_ ?_
 ·refine Steps'.cons ?_ (Steps'.cons ?_ (Steps'.cons ?_ (Steps'.cons ?_ (Steps'.cons ?_ (Steps'.cons ?_ (Steps'.cons ?_ (Steps'.cons ?_ (Steps'.cons ?_ (Steps'.cons ?_ (Steps'.cons ?_ (Steps'.cons ?_ (Steps'.one _ _ _ _ _ _ _))))))))))))
  ·intro ax wx hb hs hd
   have h9 : ax.tmps.getD 9 undef = (.pointer (some ⟨G, 0, none⟩)) := hs 9 (by kernel_rfl)
   refine Does.value (.slice (some ⟨G, 0, none⟩) 32 64) ?_ rfl
   go_simp
  ·intro ax wx hb hs hd
   have h22 := vOf (hd 0 22 rfl (by kernel_rfl) (by decide))
   have hat := arrKey (some ⟨G, 0, none⟩) 32 64 (Nat.le_refl _) wx
   refine Does.value (.pointer (some ⟨G, 0, none⟩)) ?_ rfl
   go_simp
  ·intro ax wx hb hs hd
   have h23 := vOf (hd 1 23 rfl (by kernel_rfl) (by decide))
   exact Does.load 23 (.tmp 23) rfl G 0 h23 (u8s TK) _ (by have q := H8.out.1.later hb H8.out.1.lt; rw [HB.out.2.2.1] at q; exact Blk.range (xs := []) (ys := u8s TK) q) Tryz.underlying23 rfl (by rw [u8s_length, HB.out.2.2.2.1]; exact sizeKey)
  ·intro ax wx hb hs hd
   have h2 : ax.tmps.getD 2 undef = (.slice ao n c) := hs 2 (by kernel_rfl)
   refine Does.value (.slice ao n c) ?_ rfl
   go_simp
  ·intro ax wx hb hs hd
   have h2 : ax.tmps.getD 2 undef = (.slice ao n c) := hs 2 (by kernel_rfl)
   refine Does.value (.slice ao n c) ?_ rfl
   go_simp
  ·intro ax wx hb hs hd
   have h26 := vOf (hd 4 26 rfl (by kernel_rfl) (by decide))
   refine Does.call 161 #[(.slice ao n c)] (by go_simp) ?_
   exact filler_any _ _ _ t1 wx
  ·intro ax wx hb hs hd
   have h3 : ax.tmps.getD 3 undef = (.slice bo m d) := hs 3 (by kernel_rfl)
   refine Does.value (.slice bo m d) ?_ rfl
   go_simp
  ·intro ax wx hb hs hd
   have h3 : ax.tmps.getD 3 undef = (.slice bo m d) := hs 3 (by kernel_rfl)
   refine Does.value (.slice bo m d) ?_ rfl
   go_simp
  ·intro ax wx hb hs hd
   have h29 := vOf (hd 7 29 rfl (by kernel_rfl) (by decide))
   refine Does.call 161 #[(.slice bo m d)] (by go_simp) ?_
   exact filler_any _ _ _ t2 wx
  ·intro ax wx hb hs hd
   have h10 : ax.tmps.getD 10 undef = (.slice po8 16 c8) := hs 10 (by kernel_rfl)
   refine Does.value (.slice po8 16 c8) ?_ rfl
   go_simp
  ·intro ax wx hb hs hd
   have h25 := vOf (hd 3 25 rfl (by kernel_rfl) (by decide))
   have h28 := vOf (hd 6 28 rfl (by kernel_rfl) (by decide))
   have h31 := vOf (hd 9 31 rfl (by kernel_rfl) (by decide))
   obtain ⟨x1, n1, c1, h27, s27, q27⟩ : isS (fillL n) (ax.tmps.getD 27 undef) wx := hd 5 27 rfl (by kernel_rfl) (by decide)
   obtain ⟨x2, n2, c2, h30, s30, q30⟩ : isS (fillL m) (ax.tmps.getD 30 undef) wx := hd 8 30 rfl (by kernel_rfl) (by decide)
   exact Does.rows5 _ rfl _ _ _ _ _ _ _ _ _ _ _ _ _ _ _ _ _ _ _ _ (by simp only [List.map_toArray, List.map_cons, List.map_nil, Act.eval, h25, h27, h28, h30, h31]) ⟨H8.out.2.2.2.2.2.1.later hb (Nat.le_refl _), HX.out.2.2.1⟩ ⟨s27, q27⟩ ⟨H8.out.2.2.2.2.2.2.later hb (Nat.le_refl _), HX.out.2.2.2⟩ ⟨s30, q30⟩ ⟨H8.out.2.2.2.1.later hb (Nat.le_refl _), H8.out.2.2.2.2.1⟩
  ·intro ax wx hb hs hd
   have h24 := vOf (hd 2 24 rfl (by kernel_rfl) (by decide))
   obtain ⟨b, c', h32, s32⟩ : isP 5 [ms, fillL n, zs, fillL m, ends8 n m] (ax.tmps.getD 32 undef) wx := hd 10 32 rfl (by kernel_rfl) (by decide)
   refine Does.call 160 #[(.agg (u8s TK).toArray), .slice (some ⟨b, 0, none⟩) 5 c'] (by go_simp) ?_
   have q := tsum_any TK HB.out.2.2.2.1 HB.out.2.2.2.2.1 _ 5 c' _ wx s32 (by decide)
   rw [HB.out.2.2.2.2.2.2] at q
   refine q.mono ?_
   rintro e w' ⟨rfl, l⟩
   exact ⟨_, rfl, rfl, l⟩
 ·intro wx hb
  iterate 5 refine @Ends.val _ _ _ _ _ _ _ _ _ _ rfl ?_
  refine @Ends.any _ _ _ _ _ _ _ _ _ (isS (fillL n)) (isS_later _) rfl ?_
  intro v5 p5
  iterate 2 refine @Ends.val _ _ _ _ _ _ _ _ _ _ rfl ?_
  refine @Ends.any _ _ _ _ _ _ _ _ _ (isS (fillL m)) (isS_later _) rfl ?_
  intro v8 p8
  refine @Ends.val _ _ _ _ _ _ _ _ _ (.slice po8 16 c8) rfl ?_
  refine @Ends.any _ _ _ _ _ _ _ _ _ (isP 5 [ms, fillL n, zs, fillL m, ends8 n m]) (isP_later _ _) rfl ?_
  intro v10 p10
  refine @Ends.val _ _ _ _ _ _ _ _ _ (.agg (u8s CL).toArray) rfl ?_
  refine @Ends.one _ _ _ _ _ _ _ ?_
  simp only [Act.put, sA, sB, sC]
  have qT := H8.out.2.1
  refine last_store 164 (.tmp 8) (.tmp 33) rfl rfl _ rfl 164 _ (u8s CL) rfl (qT.later hb qT.lt) (by rw [u8s_length, HB.out.2.2.2.2.2.1]; rfl) (by rw [u8s_length, HB.out.2.2.2.2.2.1]; exact sizeTag) (u8s_one _) ?_
  intro w9 b9 s9 k9
  have L9 : Hid (Below w.heap.size w w9) := below_kept (below_chain H8.out.2.2.1 hb H8.out.2.2.1.size) k9 (below_chain H8.out.2.2.1 hb H8.out.2.2.1.size).size (fun j hj => by omega)
  clear k9 s9 hb
  go_wp2_with fail
  exact ret_blk rfl (w.heap.size + 1 + 1) (u8s CL) _ rfl b9 Tryz.underlying164 rfl (by rw [u8s_length, HB.out.2.2.2.2.2.1]; exact sizeTag) rfl ⟨rfl, L9.out⟩
theorem seal_any (key nonce : List Int) (n c m d : Nat) (ao bo : Option Addr) (ms zs : List Int) (hk : key.length = 32) (hno : nonce.length = 12) (hkb : Bytes key) (hnb : Bytes nonce) (hn : n ≤ 1048576) (hm : m ≤ 1048576) (w : World) (hx : Seen w ao n ms) (hy : Seen w bo m zs) (hc : n ≤ c) (hd : m ≤ d) :
  Calls Tryz.prog 74 #[.agg (u8s key).toArray, .agg (u8s nonce).toArray, .slice ao n c, .slice bo m d] w fun e w' => ∃ v, e = .returned (.tuple #[v, .int .i64 0]) ∧ w'.ownsRow w.heap.size 5 1 v (m + 16) ((boxL key nonce ms zs).map (Value.int .u8)) ∧ Below w.heap.size w w' := by
 have HX : Hid (Seen w ao n ms ∧ Seen w bo m zs ∧ n ≤ c ∧ m ≤ d) := ⟨hx, hy, hc, hd⟩
 have HS : Hid (key.length = 32 ∧ nonce.length = 12 ∧ Bytes key ∧ Bytes nonce) := ⟨hk, hno, hkb, hnb⟩
 obtain ⟨V, hV⟩ : ∃ C, coverL key nonce zs = C := ⟨_, rfl⟩
 obtain ⟨CL, hCL⟩ : ∃ C, codeL key nonce ms V = C := ⟨_, rfl⟩
 have HV : Hid (coverL key nonce zs = V ∧ V.length = m ∧ Bytes V ∧ codeL key nonce ms V = CL ∧ CL.length = 16 ∧ Bytes CL ∧ boxL key nonce ms zs = V ++ CL) :=
  ⟨hV, by rw [← hV, coverL_length, hy.len], by rw [← hV]; exact coverL_bytes _ _ hy.bytes, hCL, by rw [← hCL, codeL_length], by rw [← hCL]; exact codeL_bytes _ _ _ _, by rw [boxL, hV, hCL]⟩
 clear hx hy hk hno hkb hnb hc hd hV hCL
 have i1 : ¬ (1048576 : Int) < (n : Int) := by omega
 have i2 : ¬ (1048576 : Int) < (m : Int) := by omega
 go_enter Tryz.func74, Tryz.ntmps74
 go_wp2_with (first | (refine wpList_box_new rfl 23 _ rfl (u8s key) rfl ?_; intro w1 b1 s1 l1) | (refine wpList_box_new rfl 92 _ rfl (u8s nonce) rfl ?_; intro w2 b2 s2 l2) | (refine wpList_load_blk rfl 23 _ rfl _ rfl (u8s key) _ (by first | exact b1.later l2 (by omega)) Tryz.underlying23 rfl (by rw [u8s_length, HS.out.1]; exact sizeKey) ?_) | (refine wpList_load_blk rfl 92 _ rfl _ rfl (u8s nonce) _ (by first | exact b2 | (rw [← s1]; exact b2)) Tryz.underlying92 rfl (by rw [u8s_length, HS.out.2.1]; exact sizeNonce) ?_))
 refine (laidOver_any key nonce m d bo zs HS.out.1 HS.out.2.1 HS.out.2.2.1 HS.out.2.2.2 (by omega) _ (HX.out.2.1.later (below_chain l1 l2 (by omega)) (Nat.le_refl _))).mono ?_
 rintro e w3 ⟨v, rfl, o3, l3⟩
 have q3 := l3.size
 rw [HV.out.1] at o3
 have o3' := o3
 rw [← HV.out.2.1] at o3'
 obtain ⟨vo, cap, rfl, d3, hc3, _⟩ := own_data HV.out.2.2.1 (by rw [HV.out.2.1]; omega) o3'
 rw [HV.out.2.1] at d3 hc3 o3 ⊢
 have H3 : Hid (Blk w3 w.heap.size 23 (u8s key) ∧ Blk w3 w1.heap.size 92 (u8s nonce) ∧ Below w.heap.size w w3 ∧ Seen w3 vo m V ∧ m ≤ cap ∧ Seen w3 ao n ms ∧ w3.ownsRow w2.heap.size 5 1 (.slice vo m cap) m (V.map (Value.int .u8)) ∧ w.heap.size ≤ w2.heap.size ∧ w2.heap.size ≤ w3.heap.size) := by
  have L3 := below_chain (below_chain l1 l2 (by omega)) l3 (by omega)
  exact ⟨(b1.later l2 (by omega)).later l3 (by omega), b2.later l3 (by omega), L3, d3, hc3, HX.out.1.later L3 (Nat.le_refl _), o3, by omega, q3⟩
 clear o3 o3' d3 hc3 l3 b1 l1 b2 s2 l2 q3
 go_wp2_with (first | (refine wpList_load_blk rfl 23 _ rfl _ rfl (u8s key) _ H3.out.1 Tryz.underlying23 rfl (by rw [u8s_length, HS.out.1]; exact sizeKey) ?_) | (refine wpList_load_blk rfl 92 _ rfl _ rfl (u8s nonce) _ (by first | exact H3.out.2.1 | (rw [← s1]; exact H3.out.2.1)) Tryz.underlying92 rfl (by rw [u8s_length, HS.out.2.1]; exact sizeNonce) ?_))
 refine (codeOf_any key nonce n c m cap ao vo ms V HS.out.1 HS.out.2.1 HS.out.2.2.1 HS.out.2.2.2 _ H3.out.2.2.2.2.2.1 H3.out.2.2.2.1 HX.out.2.2.1 H3.out.2.2.2.2.1).mono ?_
 rintro e w4 ⟨rfl, l4⟩
 rw [HV.out.2.2.2.1]
 have q4 := l4.size
 go_wp2_with (first | (refine wpList_alloc_new rfl 164 rfl 16 _ zeroTag ?_; intro w5 b5 s5 l5) | (refine wpList_store_blk rfl 164 164 _ _ rfl _ rfl _ (u8s CL) rfl b5 (by rw [u8s_length, HV.out.2.2.2.2.1]; rfl) (by rw [u8s_length, HV.out.2.2.2.2.1]; exact sizeTag) (u8s_one _) ?_; intro w6 b6 s6 k6; have H6 : Hid (w6.ownsRow w2.heap.size 5 1 (.slice vo m cap) m (V.map (Value.int .u8)) ∧ Seen w6 (some ⟨w4.heap.size, 0, none⟩) 16 CL ∧ Below w.heap.size w w6 ∧ w2.heap.size ≤ w6.heap.size) := (by have L6 := below_kept (below_chain l4 l5 (by omega)) k6 (by omega) (fun j hj => by omega); have q := seen_blk b6 HV.out.2.2.2.2.2.1 (by rw [HV.out.2.2.2.2.1]; decide); rw [HV.out.2.2.2.2.1] at q; exact ⟨ownsRow_below H3.out.2.2.2.2.2.2.1 L6, q, below_chain H3.out.2.2.1 L6 H3.out.2.2.1.size, (by have := H3.out.2.2.2.2.2.2.2.2; omega)⟩)) | (at_builtin; refine wpList_append_seen rfl _ _ rfl w2.heap.size (.slice vo m cap) m _ rfl H6.out.1 (some ⟨w4.heap.size, 0, none⟩) 16 16 CL rfl H6.out.2.1 (fun h => by cases h) (by omega) H6.out.2.2.2 ?_; intro v7 w7 o7 g7))
 go_ret2
 refine ⟨_, rfl, ?_, ?_⟩
 ·rw [HV.out.2.2.2.2.2.2, List.map_append]; exact ownsRow_base o7 H3.out.2.2.2.2.2.2.2.1
 ·exact H6.out.2.2.1.grown g7 H6.out.2.2.1.size (fun j hj => Nat.le_trans H3.out.2.2.2.2.2.2.2.1 (H6.out.1.lt j hj).1)
theorem seal_bad (key nonce : List Int) (n c m d : Nat) (ao bo : Option Addr) (hn : n ≤ 140737488355328) (hm : m ≤ 140737488355328) (hb : 1048576 < n ∨ 1048576 < m) (w : World) :
  Calls Tryz.prog 74 #[.agg (u8s key).toArray, .agg (u8s nonce).toArray, .slice ao n c, .slice bo m d] w fun e w' => e = .returned (.tuple #[.slice none 0 0, .int .i64 3]) ∧ Below w.heap.size w w' := by
 by_cases h1 : 1048576 < n
 ·have i1 : (1048576 : Int) < (n : Int) := by omega
  go_enter Tryz.func74, Tryz.ntmps74
  go_wp2_with (first | (refine wpList_box_new rfl 23 _ rfl (u8s key) rfl ?_; intro w1 b1 s1 l1) | (refine wpList_box_new rfl 92 _ rfl (u8s nonce) rfl ?_; intro w2 b2 s2 l2))
  go_ret2
  exact ⟨rfl, below_chain l1 l2 (by omega)⟩
 ·have i1 : ¬ (1048576 : Int) < (n : Int) := by omega
  have i2 : (1048576 : Int) < (m : Int) := by omega
  go_enter Tryz.func74, Tryz.ntmps74
  go_wp2_with (first | (refine wpList_box_new rfl 23 _ rfl (u8s key) rfl ?_; intro w1 b1 s1 l1) | (refine wpList_box_new rfl 92 _ rfl (u8s nonce) rfl ?_; intro w2 b2 s2 l2))
  go_ret2
  exact ⟨rfl, below_chain l1 l2 (by omega)⟩
def boxE (n m : Nat) : Int := if m < 16 then 4 else if 1048576 < n ∨ 1048592 < m then 3 else 0
theorem checkBox_any (ao bo : Option Addr) (n c m d : Nat) (hn : n ≤ 140737488355328) (hm : m ≤ 140737488355328) (w : World) :
  Calls Tryz.prog 122 #[.slice ao n c, .slice bo m d] w fun e w' => e = .returned (.int .i64 (boxE n m)) ∧ w = w' := by
 unfold boxE
 by_cases h1 : m < 16
 ·rw [if_pos h1]
  have i1 : (m : Int) < 16 := by omega
  go_enter Tryz.func122, Tryz.ntmps122
  go_wp2
  go_ret
  exact ⟨rfl, rfl⟩
 ·rw [if_neg h1]
  have i1 : ¬ (m : Int) < 16 := by omega
  by_cases h2 : 1048576 < n
  ·rw [if_pos (.inl h2)]
   have i2 : (1048576 : Int) < (n : Int) := by omega
   go_enter Tryz.func122, Tryz.ntmps122
   go_wp2
   go_ret
   exact ⟨rfl, rfl⟩
  ·have i2 : ¬ (1048576 : Int) < (n : Int) := by omega
   by_cases h3 : 1048592 < m
   ·rw [if_pos (.inr h3)]
    have i3 : (1048592 : Int) < (m : Int) := by omega
    go_enter Tryz.func122, Tryz.ntmps122
    go_wp2
    go_ret
    exact ⟨rfl, rfl⟩
   ·rw [if_neg (by omega)]
    have i3 : ¬ (1048592 : Int) < (m : Int) := by omega
    go_enter Tryz.func122, Tryz.ntmps122
    go_wp2
    go_ret
    exact ⟨rfl, rfl⟩
theorem zero_any (x : Int) (hx : Word x) (w : World) :
  Calls Tryz.prog 187 #[.int .u64 x] w fun e w' => e = .returned (.int .u64 (mk (x == 0))) ∧ w' = w := by
 have hb : Word (bits .or .u64 x (IntKind.u64.wrap (-x)) / 9223372036854775808) := by rw [top_code x hx]; split <;> decide
 have H : Hid (bits .xor .u64 IntKind.u64.max (mk (bits .or .u64 x (IntKind.u64.wrap (-x)) / 9223372036854775808 % 2 == 1)) = mk (x == 0)) := by
  show _ = _
  rw [not_mk, top_code x hx]
  by_cases h : x = 0
  ·simp [h]
  ·have h' : (x == 0) = false := by simpa using h
   simp [h, h']
 go_enter Tryz.func187, Tryz.ntmps187
 go_wp2_with (go_at_call 165; refine (bit_any _ hb _).mono ?_; rintro e w' ⟨rfl, rfl⟩)
 go_ret
 exact ⟨ret_int H.out, rfl⟩
theorem msame_any (ao bo : Option Addr) (n n' c c' : Nat) (xs ys : List Int) (w : World) (hx : Seen w ao n xs) (hy : Seen w bo n' ys) :
  Calls Tryz.prog 164 #[.slice ao n c, .slice bo n' c'] w fun e w' => e = .returned (.int .u64 (mk (decide (xs = ys)))) ∧ ∃ q, w' = w.drewN q := by
 have t1 := hx.top
 have t2 := hy.top
 by_cases hne : n = n'
 ·subst hne
  have HL : Hid (xs.length = n ∧ ys.length = n) := ⟨hx.len, hy.len⟩
  go_enter Tryz.func164, Tryz.ntmps164
  go_wp2
  go_loopw [5, 14] (fun u i wr => ∃ (k : Nat) (U : Int), k ≤ n ∧ i = .int .i64 k ∧ u = .int .u8 U ∧ (0 ≤ U ∧ U < 256) ∧ (U = 0 ↔ xs.take k = ys.take k) ∧ ∃ q, wr = w.drewN q) (fun _ i _ => n - (intOf i).toNat)
  case atStart => exact ⟨0, 0, Nat.zero_le _, rfl, rfl, by decide, by simp, 0, rfl⟩
  case round =>
   obtain ⟨k, U, hk, rfl, rfl, bU, hs, q, rfl⟩ := hrel
   by_cases hlt : k < n
   ·obtain ⟨b, o, rfl, hb, hc⟩ := hx.cells (by omega)
    obtain ⟨b', o', rfl, hb', hc'⟩ := hy.cells (by omega)
    have c1 := hc k hlt
    have c2 := hc' k hlt
    have l1 : k < xs.length := by have := HL.out.1; omega
    have l2 : k < ys.length := by have := HL.out.2; omega
    have HT := mtake_same_succ xs ys k l1 l2
    have bX := hx.bytes.at k l1
    have bY := hy.bytes.at k l2
    obtain ⟨X, hX⟩ : ∃ X, xs.getD k 0 = X := ⟨_, rfl⟩
    obtain ⟨Y, hY⟩ : ∃ Y, ys.getD k 0 = Y := ⟨_, rfl⟩
    rw [hX] at c1 HT bX
    rw [hY] at c2 HT bY
    have hO := orxor_bd U X Y bU bX bY
    have HO : Hid _ := hO.1
    have HI : Hid (bits .or .u8 U (bits .xor .u8 X Y) = 0 ↔ xs.take (k + 1) = ys.take (k + 1)) := by
     show _ ↔ _
     rw [hO.2, hs, HT]
    have i1 : (0 : Int) ≤ (k : Int) := by omega
    have i2 : (k : Int) < (n : Int) := by omega
    clear hX hY hc hc' hx hy hs HT hb hb' hO l1 l2
    go_wp2
    go_quiet (fail)
    go_wp2
    go_roundw
    case rel => exact ⟨k + 1, _, by omega, by go_num, rfl, HO.out, HI.out, _, rfl⟩
    case measure => simp [intOf]; omega
   ·have HE : Hid ((U == 0) = decide (xs = ys)) := by
     show _ = _
     have e1 : xs.take k = xs := List.take_of_length_le (by have := HL.out.1; omega)
     have e2 : ys.take k = ys := List.take_of_length_le (by have := HL.out.2; omega)
     rw [e1, e2] at hs
     rw [Bool.eq_iff_iff]; simp [hs]
    have wU : Word U := ⟨by omega, by omega⟩
    clear hs
    go_wp2_with (go_at_call 187; refine (zero_any _ wU _).mono ?_; rintro e w2 ⟨rfl, hw2⟩; have hw3 := hw2.symm; subst hw3)
    go_ret
    exact ⟨ret_int (by rw [HE.out]), _, rfl⟩
 ·have h : ((n : Int) != (n' : Int)) = true := by simp; omega
  have HN : Hid (decide (xs = ys) = false) := by
   show _ = _
   apply decide_eq_false
   intro h
   exact hne (by rw [← hx.len, ← hy.len, h])
  go_enter Tryz.func164, Tryz.ntmps164
  go_wp2
  go_ret
  exact ⟨ret_int (by rw [HN.out, mk_false]), 0, rfl⟩
theorem ch8_any (m x y : Int) (hm : Word m) (hx : 0 ≤ x ∧ x < 256) (hy : 0 ≤ y ∧ y < 256) (w : World) :
  Calls Tryz.prog 188 #[.int .u64 m, .int .u8 x, .int .u8 y] w fun e w' => e = .returned (.int .u8 (pk m x y)) ∧ w' = w := by
 have H : Hid (bits .xor .u8 y (bits .and .u8 (bits .xor .u8 x y) (m % 256)) = pk m x y) := choose_u8 m x y hm hx hy
 go_enter Tryz.func188, Tryz.ntmps188
 go_wp2
 go_ret
 exact ⟨ret_int H.out, rfl⟩
def mix (m : Int) (k : Nat) (xs ys : List Int) : List Int := xs.mapIdx fun i x => if i < k then pk m (ys.getD i 0) x else x
theorem mix_length (m : Int) (k : Nat) (xs ys : List Int) : (mix m k xs ys).length = xs.length := by simp [mix]
theorem mix_getD (m : Int) (k : Nat) (xs ys : List Int) (i : Nat) (hi : i < xs.length) : (mix m k xs ys).getD i 0 = if i < k then pk m (ys.getD i 0) (xs.getD i 0) else xs.getD i 0 := by
 simp [mix, List.getD, hi]
theorem mix_zero (m : Int) (xs ys : List Int) : mix m 0 xs ys = xs := by
 apply List.ext_getElem?
 intro i
 simp [mix]
theorem mix_succ (m : Int) (k : Nat) (xs ys : List Int) (hk : k < xs.length) : mix m (k + 1) xs ys = (mix m k xs ys).set k (pk m (ys.getD k 0) (xs.getD k 0)) := by
 apply List.ext_getElem?
 intro i
 rw [List.getElem?_set]
 by_cases h : k = i
 ·subst h; simp [mix, hk, List.getD]
 ·simp only [if_neg h]
  simp only [mix, List.getElem?_mapIdx]
  have : (i < k + 1) ↔ (i < k) := by omega
  simp [this]
theorem mcopy_none (m : Int) (a b : Option Addr) (c c' : Nat) (w : World) :
  Calls Tryz.prog 156 #[.int .u64 m, .slice a 0 c, .slice b 0 c'] w fun e w' => e = .returned (.int .i64 0) ∧ w' = w := by
 go_enter Tryz.func156, Tryz.ntmps156
 go_wp2
 refine wp_loop_rounds 1 ?_
 rw [rounds_succ]
 go_wp2
 go_ret
 exact ⟨rfl, rfl⟩
theorem RowC.drew {w : World} {r cap : Nat} {zs : List Int} (h : RowC w r cap zs) : RowC w.drew r cap zs := h
theorem mix_no (n : Nat) (xs ys : List Int) (hx : Bytes xs) : mix 0 n xs ys = xs := by
 apply List.ext_getElem
 ·simp [mix]
 ·intro i h1 h2
  have b := hx.at i h2
  have e : xs.getD i 0 = xs[i] := by simp [List.getD, h2]
  rw [e] at b
  simp only [mix, List.getElem_mapIdx]
  split
  ·exact pk_zero _ _ b.1
  ·rfl
theorem mix_yes (xs ys : List Int) (hx : Bytes xs) (hy : Bytes ys) (hl : ys.length = xs.length) : mix 18446744073709551615 xs.length xs ys = ys := by
 apply List.ext_getElem
 ·simp [mix, hl]
 ·intro i h1 h2
  have h3 : i < xs.length := by omega
  have b := hx.at i h3
  have c := hy.at i h2
  have e : xs.getD i 0 = xs[i] := by simp [List.getD, h3]
  have e2 : ys.getD i 0 = ys[i] := by simp [List.getD, h2]
  rw [e] at b
  rw [e2] at c
  simp only [mix, List.getElem_mapIdx, if_pos h3, e2]
  exact pk_ones _ _ ⟨by omega, by omega⟩ ⟨by omega, by omega⟩
theorem mcopy_step {m : Int} {k g cg : Nat} {xs ys : List Int} {w wr : World} (hx : k < xs.length)
  (hg : RowC wr g cg (mix m k xs ys)) (hk : Kept (fun k => k = g) w wr) :
  let W := (wr.setCell ⟨g, k, none⟩ (.int .u8 (pk m (ys.getD k 0) (xs.getD k 0)))).drew
  RowC W g cg (mix m (k + 1) xs ys) ∧ Kept (fun k => k = g) w W := by
 refine ⟨?_, ?_⟩
 ·rw [mix_succ m k xs ys hx]
  exact (hg.set k (by rw [mix_length]; exact hx) _).drew
 ·exact (hk.setCell (by exact rfl) _).drew
theorem mcopy_any (m : Int) (hm : Word m) (g h o n cg ch : Nat) (xs ys : List Int) (hgh : h ≠ g) (hx : n ≤ xs.length) (hy : n ≤ ys.length) (hbx : Bytes xs) (hby : Bytes ys) (hn : n ≤ maxLen) (w : World) (hg : RowC w g cg xs)
  (hlt : h < w.heap.size) (hh : ∀ i, i < n → w.cell? ⟨h, o + i, none⟩ = some (.int .u8 (ys.getD i 0))) :
  Calls Tryz.prog 156 #[.int .u64 m, .slice (some ⟨g, 0, none⟩) n cg, .slice (some ⟨h, o, none⟩) n ch] w fun e w' =>
   e = .returned (.int .i64 0) ∧ RowC w' g cg (mix m n xs ys) ∧ Kept (fun k => k = g) w w' := by
 unfold maxLen at hn
 go_enter Tryz.func156, Tryz.ntmps156
 go_wp2
 go_loopw [15] (fun i wr => ∃ k : Nat, k ≤ n ∧ i = .int .i64 k ∧ RowC wr g cg (mix m k xs ys) ∧ Kept (fun k => k = g) w wr) (fun i _ => n - (intOf i).toNat)
 case atStart => exact ⟨0, Nat.zero_le _, rfl, by rw [mix_zero]; exact hg, Kept.refl _ _⟩
 case round =>
  obtain ⟨k, hk, rfl, hrg, hkept⟩ := hrel
  by_cases hlt : k < n
  ·have R := mcopy_step (by omega) hrg hkept
   obtain ⟨X, hX⟩ : ∃ X, xs.getD k 0 = X := ⟨_, rfl⟩
   obtain ⟨Y, hY⟩ : ∃ Y, ys.getD k 0 = Y := ⟨_, rfl⟩
   rw [hX, hY] at R
   have c1 : wr.cell? ⟨g, k, none⟩ = some (.int .u8 X) := by rw [hrg.cell k (by rw [mix_length]; omega), mix_getD _ _ _ _ _ (by omega), if_neg (by omega), hX]
   have c2 : wr.cell? ⟨h, o + k, none⟩ = some (.int .u8 Y) := by rw [hkept.cell (by assumption) (by exact hgh), hh k hlt, hY]
   have f1 : wr.frozen? ⟨g, k, none⟩ = false := hrg.frozen k
   have bX : 0 ≤ X ∧ X < 256 := by rw [← hX]; exact hbx.at k (by omega)
   have bY : 0 ≤ Y ∧ Y < 256 := by rw [← hY]; exact hby.at k (by omega)
   have HR : Hid _ := R
   have i1 : (0 : Int) ≤ (k : Int) := by omega
   have i2 : (k : Int) < (n : Int) := by omega
   clear hX hY hrg hkept hg hh R hbx hby hx hy
   go_wp2
   go_region_with (go_at_call 188; refine (ch8_any _ _ _ hm bY bX _).mono ?_; rintro e w' ⟨rfl, rfl⟩)
   all_goals
    go_wp2
    go_roundw
    case rel => exact ⟨k + 1, by omega, by go_num, HR.out.1, HR.out.2⟩
    case measure => simp [intOf]; omega
  ·have e : k = n := by omega
   subst e
   go_wp2
   go_ret
   exact ⟨rfl, hrg, hkept⟩
def isO (base n : Nat) (zs : List Int) (v : Value) (w : World) : Prop := w.ownsRow base 5 1 v n (zs.map (Value.int .u8))
theorem isO_later (base n : Nat) (zs : List Int) : ∀ v w w', Below w.heap.size w w' → isO base n zs v w → isO base n zs v w' := fun _ _ _ hb h => ownsRow_below h hb
theorem Blk.all {w : World} {g : Nat} {t : TypeId} {vs : List Value} (h : Blk w g t vs) : w.rangeAt g 0 vs := fun j v hv => by rw [Nat.zero_add, h.cell]; exact hv
theorem uncovered_any (key nonce : List Int) (n c m d : Nat) (ao bo : Option Addr) (ms zs : List Int) (hk : key.length = 32) (hno : nonce.length = 12) (hkb : Bytes key) (hnb : Bytes nonce) (h16 : 16 ≤ m) (hm : m ≤ 1048592) (w : World) (hx : Seen w ao n ms) (hy : Seen w bo m zs) (hc : n ≤ c) (hd : m ≤ d) :
  Calls Tryz.prog 123 #[.agg (u8s key).toArray, .agg (u8s nonce).toArray, .slice ao n c, .slice bo m d] w fun e w' => ∃ v, e = .returned (.tuple #[v, .int .u64 (mk (opensL key nonce ms zs))]) ∧ isO w.heap.size (m - 16) (textL key nonce zs) v w' ∧ Below w.heap.size w w' := by
 obtain ⟨M, rfl⟩ : ∃ M, m = M + 16 := ⟨m - 16, by omega⟩
 have hM : M ≤ 1048576 := by omega
 obtain ⟨CL, hCL⟩ : ∃ C, codeL key nonce ms (zs.take M) = C := ⟨_, rfl⟩
 obtain ⟨O, hO⟩ : ∃ b, opensL key nonce ms zs = b := ⟨_, rfl⟩
 obtain ⟨X, hX⟩ : ∃ X, textL key nonce zs = X := ⟨_, rfl⟩
 rw [hO, hX, Nat.add_sub_cancel]
 have hl := hy.len
 have SX : Hid (∀ W, Below w.heap.size w W → Seen W ao n ms ∧ Seen W (subA bo 0 d) M (zs.take M) ∧ Seen W (subA bo M d) 16 (zs.drop M)) := fun W hW => by
  have g1 := hy.sub 0 M d (Nat.zero_le _) (by omega) hd
  have g2 := hy.sub M (M + 16) d (by omega) (Nat.le_refl _) hd
  rw [Nat.sub_zero, List.drop_zero] at g1
  rw [Nat.add_sub_cancel_left, List.take_of_length_le (by rw [List.length_drop, hl]; omega)] at g2
  exact ⟨hx.later hW (Nat.le_refl _), g1.later hW (Nat.le_refl _), g2.later hW (Nat.le_refl _)⟩
 have HS : Hid (key.length = 32 ∧ nonce.length = 12 ∧ Bytes key ∧ Bytes nonce ∧ n ≤ c ∧ M ≤ d) := ⟨hk, hno, hkb, hnb, hc, by omega⟩
 have HV : Hid (codeL key nonce ms (zs.take M) = CL ∧ CL.length = 16 ∧ Bytes CL ∧ decide (CL = zs.drop M) = O ∧ coverL key nonce (zs.take M) = X) := by
  have e : zs.length - 16 = M := by rw [hl]; omega
  refine ⟨hCL, by rw [← hCL, codeL_length], by rw [← hCL]; exact codeL_bytes _ _ _ _, ?_, ?_⟩
  ·rw [← hO, opensL, e, hCL]
  ·rw [← hX, textL, e]
 have hsh : ∀ W, (Instr.sliceAt 32 (.slice bo (M + 16) d) none (some (.int .i64 (M : Int))) none).run Tryz.prog W = .ok (.slice (subA bo 0 d) M d) W := fun W => sl_h bo (M + 16) d M (by omega) W
 have hsl : ∀ W, (Instr.sliceAt 32 (.slice bo (M + 16) d) (some (.int .i64 (M : Int))) none none).run Tryz.prog W = .ok (.slice (subA bo M d) 16 (d - M)) W := fun W => by
  have := sl_l bo (M + 16) d M (by omega) W
  rwa [Nat.add_sub_cancel_left] at this
 have a1 : ((M + 16 : Nat) : Int) - 16 = (M : Int) := by omega
 have a2 : (M : Int) + 16 - 16 = (M : Int) := by omega
 have HD : Hid (M + 16 ≤ d) := hd
 clear hx hy hk hno hkb hnb hc hd hCL hO hX hl
 go_enter Tryz.func123, Tryz.ntmps123
 go_wp2_with (first | (refine wpList_box_new rfl 23 _ rfl (u8s key) rfl ?_; intro w1 b1 s1 l1) | (refine wpList_box_new rfl 92 _ rfl (u8s nonce) rfl ?_; intro w2 b2 s2 l2))
 have H2 : Hid (Blk w2 w.heap.size 23 (u8s key) ∧ Blk w2 (w.heap.size + 1) 92 (u8s nonce) ∧ Below w.heap.size w w2) := by
  rw [s1] at b2
  exact ⟨b1.later l2 (by omega), b2, below_chain l1 l2 (by omega)⟩
 clear b1 s1 l1 b2 s2 l2
 try simp only [Act.put, sA, sB, sC]
 refine region_inv [.val (.agg (u8s key).toArray), .val (.agg (u8s nonce).toArray), .val (.slice ao n c), .val (.slice bo (M + 16) d), .val (.int .i64 (M : Int)), .val (.slice (subA bo 0 d) M d), .val (.agg (u8s CL).toArray), .blk 164 (u8s (zs0 16))] (by kernel_rfl) (by kernel_rfl) (by kernel_rfl) ?_ ?_
 ·refine Steps'.cons ?_ (Steps'.cons ?_ (Steps'.cons ?_ (Steps'.cons ?_ (Steps'.cons ?_ (Steps'.cons ?_ (Steps'.cons ?_ (Steps'.cons ?_ (Steps'.one _ _ _ _ _ _ _))))))))
  ·intro ax wx hb hs hd
   have h4 : ax.tmps.getD 4 undef = (.pointer (some ⟨w.heap.size, 0, none⟩)) := hs 4 (by kernel_rfl)
   exact Does.load 23 (.tmp 4) rfl w.heap.size 0 h4 (u8s key) _ ((H2.out.1.later hb H2.out.1.lt).all) Tryz.underlying23 rfl (by rw [u8s_length, HS.out.1]; exact sizeKey)
  ·intro ax wx hb hs hd
   have h5 : ax.tmps.getD 5 undef = (.pointer (some ⟨(w.heap.size + 1), 0, none⟩)) := hs 5 (by kernel_rfl)
   exact Does.load 92 (.tmp 5) rfl (w.heap.size + 1) 0 h5 (u8s nonce) _ ((H2.out.2.1.later hb H2.out.2.1.lt).all) Tryz.underlying92 rfl (by rw [u8s_length, HS.out.2.1]; exact sizeNonce)
  ·intro ax wx hb hs hd
   have h2 : ax.tmps.getD 2 undef = (.slice ao n c) := hs 2 (by kernel_rfl)
   refine Does.value (.slice ao n c) ?_ rfl
   go_simp
  ·intro ax wx hb hs hd
   have h3 : ax.tmps.getD 3 undef = (.slice bo (M + 16) d) := hs 3 (by kernel_rfl)
   refine Does.value (.slice bo (M + 16) d) ?_ rfl
   go_simp
  ·intro ax wx hb hs hd
   have h10 : ax.tmps.getD 10 undef = (.int .i64 (M : Int)) := hs 10 (by kernel_rfl)
   refine Does.value (.int .i64 (M : Int)) ?_ rfl
   go_simp
  ·intro ax wx hb hs hd
   have h18 := vOf (hd 3 18 rfl (by kernel_rfl) (by decide))
   have h19 := vOf (hd 4 19 rfl (by kernel_rfl) (by decide))
   refine Does.value (.slice (subA bo 0 d) M d) ?_ rfl
   go_simp
  ·intro ax wx hb hs hd
   have h15 := vOf (hd 0 15 rfl (by kernel_rfl) (by decide))
   have h16 := vOf (hd 1 16 rfl (by kernel_rfl) (by decide))
   have h17 := vOf (hd 2 17 rfl (by kernel_rfl) (by decide))
   have h20 := vOf (hd 5 20 rfl (by kernel_rfl) (by decide))
   refine Does.call 120 #[(.agg (u8s key).toArray), (.agg (u8s nonce).toArray), (.slice ao n c), (.slice (subA bo 0 d) M d)] (by go_simp) ?_
   have L := below_chain H2.out.2.2 hb H2.out.2.2.size
   have q := codeOf_any key nonce n c M d ao (subA bo 0 d) ms _ HS.out.1 HS.out.2.1 HS.out.2.2.1 HS.out.2.2.2.1 wx (SX.out wx L).1 (SX.out wx L).2.1 HS.out.2.2.2.2.1 HS.out.2.2.2.2.2
   rw [HV.out.1] at q
   refine q.mono ?_
   rintro e w' ⟨rfl, l⟩
   exact ⟨_, rfl, rfl, l⟩
  ·intro ax wx hb hs hd
   exact Does.alloc 164 rfl 16 _ zeroTag hb.size
 ·intro wx hb
  iterate 7 refine @Ends.val _ _ _ _ _ _ _ _ _ _ rfl ?_
  refine @Ends.blk _ _ _ _ _ _ _ _ _ 164 (u8s (zs0 16)) rfl ?_
  intro g7 hg7 bg7
  refine @Ends.one _ _ _ _ _ _ _ ?_
  simp only [Act.put, sA, sB, sC]
  refine last_store 164 (.tmp 11) (.tmp 21) rfl rfl g7 rfl 164 _ (u8s CL) rfl bg7 (by rw [u8s_length, HV.out.2.1]; rfl) (by rw [u8s_length, HV.out.2.1]; exact sizeTag) (u8s_one _) ?_
  intro w3 b3 s3 k3
  have H3 : Hid (Blk w3 w.heap.size 23 (u8s key) ∧ Blk w3 (w.heap.size + 1) 92 (u8s nonce) ∧ Below w.heap.size w w3 ∧ Blk w3 g7 164 (u8s CL)) := by
   have L := below_kept hb k3 hb.size (fun j hj => by omega)
   exact ⟨H2.out.1.later L H2.out.1.lt, H2.out.2.1.later L H2.out.2.1.lt, below_chain H2.out.2.2 L H2.out.2.2.size, b3⟩
  clear hb hg7 bg7 b3 s3 k3 H2
  go_wp2_with fail
  try simp only [Act.put, sA, sB, sC]
  refine region_inv [.val (.agg (u8s key).toArray), .val (.agg (u8s nonce).toArray), .val (.slice bo (M + 16) d), .val (.int .i64 (M : Int)), .val (.slice (subA bo 0 d) M d), .any (isO w.heap.size M X) (isO_later _ _ _), .val (.slice (some ⟨g7, 0, none⟩) 16 16), .val (.slice bo (M + 16) d), .val (.int .i64 (M : Int)), .val (.slice (subA bo M d) 16 (d - M)), .val (.int .u64 (mk O)), .any (isO w.heap.size M X) (isO_later _ _ _)] (by kernel_rfl) (by kernel_rfl) (by kernel_rfl) ?_ ?_
  ·refine Steps'.cons ?_ (Steps'.cons ?_ (Steps'.cons ?_ (Steps'.cons ?_ (Steps'.cons ?_ (Steps'.cons ?_ (Steps'.cons ?_ (Steps'.cons ?_ (Steps'.cons ?_ (Steps'.cons ?_ (Steps'.cons ?_ (Steps'.cons ?_ (Steps'.one _ _ _ _ _ _ _))))))))))))
   ·intro ax wx hb hs hd
    have h4 : ax.tmps.getD 4 undef = (.pointer (some ⟨w.heap.size, 0, none⟩)) := hs 4 (by kernel_rfl)
    exact Does.load 23 (.tmp 4) rfl w.heap.size 0 h4 (u8s key) _ ((H3.out.1.later hb H3.out.1.lt).all) Tryz.underlying23 rfl (by rw [u8s_length, HS.out.1]; exact sizeKey)
   ·intro ax wx hb hs hd
    have h5 : ax.tmps.getD 5 undef = (.pointer (some ⟨(w.heap.size + 1), 0, none⟩)) := hs 5 (by kernel_rfl)
    exact Does.load 92 (.tmp 5) rfl (w.heap.size + 1) 0 h5 (u8s nonce) _ ((H3.out.2.1.later hb H3.out.2.1.lt).all) Tryz.underlying92 rfl (by rw [u8s_length, HS.out.2.1]; exact sizeNonce)
   ·intro ax wx hb hs hd
    have h3 : ax.tmps.getD 3 undef = (.slice bo (M + 16) d) := hs 3 (by kernel_rfl)
    refine Does.value (.slice bo (M + 16) d) ?_ rfl
    go_simp
   ·intro ax wx hb hs hd
    have h10 : ax.tmps.getD 10 undef = (.int .i64 (M : Int)) := hs 10 (by kernel_rfl)
    refine Does.value (.int .i64 (M : Int)) ?_ rfl
    go_simp
   ·intro ax wx hb hs hd
    have h24 := vOf (hd 2 24 rfl (by kernel_rfl) (by decide))
    have h25 := vOf (hd 3 25 rfl (by kernel_rfl) (by decide))
    refine Does.value (.slice (subA bo 0 d) M d) ?_ rfl
    go_simp
   ·intro ax wx hb hs hd
    have h22 := vOf (hd 0 22 rfl (by kernel_rfl) (by decide))
    have h23 := vOf (hd 1 23 rfl (by kernel_rfl) (by decide))
    have h26 := vOf (hd 4 26 rfl (by kernel_rfl) (by decide))
    refine Does.call 119 #[(.agg (u8s key).toArray), (.agg (u8s nonce).toArray), (.slice (subA bo 0 d) M d)] (by go_simp) ?_
    have L := below_chain H3.out.2.2.1 hb H3.out.2.2.1.size
    have q := laidOver_any key nonce M d (subA bo 0 d) _ HS.out.1 HS.out.2.1 HS.out.2.2.1 HS.out.2.2.2.1 (by omega) wx (SX.out wx L).2.1
    rw [HV.out.2.2.2.2] at q
    refine q.mono ?_
    rintro e w' ⟨v, rfl, o, l⟩
    exact ⟨_, rfl, ownsRow_base o L.size, l⟩
   ·intro ax wx hb hs hd
    have h11 : ax.tmps.getD 11 undef = (.pointer (some ⟨g7, 0, none⟩)) := hs 11 (by kernel_rfl)
    refine Does.value (.slice (some ⟨g7, 0, none⟩) 16 16) ?_ rfl
    go_simp
   ·intro ax wx hb hs hd
    have h3 : ax.tmps.getD 3 undef = (.slice bo (M + 16) d) := hs 3 (by kernel_rfl)
    refine Does.value (.slice bo (M + 16) d) ?_ rfl
    go_simp
   ·intro ax wx hb hs hd
    have h10 : ax.tmps.getD 10 undef = (.int .i64 (M : Int)) := hs 10 (by kernel_rfl)
    refine Does.value (.int .i64 (M : Int)) ?_ rfl
    go_simp
   ·intro ax wx hb hs hd
    have h29 := vOf (hd 7 29 rfl (by kernel_rfl) (by decide))
    have h30 := vOf (hd 8 30 rfl (by kernel_rfl) (by decide))
    refine Does.value (.slice (subA bo M d) 16 (d - M)) ?_ rfl
    go_simp
   ·intro ax wx hb hs hd
    have h28 := vOf (hd 6 28 rfl (by kernel_rfl) (by decide))
    have h31 := vOf (hd 9 31 rfl (by kernel_rfl) (by decide))
    refine Does.call 164 #[(.slice (some ⟨g7, 0, none⟩) 16 16), (.slice (subA bo M d) 16 (d - M))] (by go_simp) ?_
    have L := below_chain H3.out.2.2.1 hb H3.out.2.2.1.size
    have s1 := seen_blk (Blk.later H3.out.2.2.2 hb H3.out.2.2.2.lt) HV.out.2.2.1 (by rw [HV.out.2.1]; decide)
    rw [HV.out.2.1] at s1
    have q := msame_any _ _ 16 16 16 (d - M) CL _ wx s1 (SX.out wx L).2.2
    rw [HV.out.2.2.2.1] at q
    refine q.mono ?_
    rintro e w' ⟨rfl, q, rfl⟩
    exact ⟨_, rfl, rfl, below_dn (Below.refl _ _) q⟩
   ·intro ax wx hb hs hd
    have h27 : isO w.heap.size M X (ax.tmps.getD 27 undef) wx := hd 5 27 rfl (by kernel_rfl) (by decide)
    exact Does.value (ax.tmps.getD 27 undef) rfl h27
  ·intro wx hb
   iterate 5 refine @Ends.val _ _ _ _ _ _ _ _ _ _ rfl ?_
   refine @Ends.any _ _ _ _ _ _ _ _ _ (isO w.heap.size M X) (isO_later _ _ _) rfl ?_
   intro v5 p5
   iterate 5 refine @Ends.val _ _ _ _ _ _ _ _ _ _ rfl ?_
   refine @Ends.any _ _ _ _ _ _ _ _ _ (isO w.heap.size M X) (isO_later _ _ _) rfl ?_
   intro v11 p11
   refine @Ends.one _ _ _ _ _ _ _ ?_
   simp only [Act.put, sA, sB, sC]
   refine last_assign (.tmp 32) rfl (some 9) rfl _ rfl ?_
   simp only [Act.put, sA, sB, sC]
   have HE : Hid (isO w.heap.size M X v11 wx ∧ Below w.heap.size w wx) := ⟨p11, below_chain H3.out.2.2.1 hb H3.out.2.2.1.size⟩
   clear hb p11 p5
   go_wp2_with fail
   go_ret2
   exact ⟨_, rfl, HE.out⟩
theorem boxE_ok {n m : Nat} (h16 : 16 ≤ m) (hm : m ≤ 1048592) (hn : n ≤ 1048576) : boxE n m = 0 := by
 unfold boxE
 rw [if_neg (by omega), if_neg (by omega)]
theorem clear_own {B n : Nat} {zs : List Int} {v : Value} {W : World} (h : isO B n zs v W) (hl : zs.length = n) : ∃ W', (∀ ty, (Builtin.clear_ #[32] ty #[v]).run Tryz.prog W = .ok (.tuple #[]) W') ∧ Kept (fun k => B ≤ k) W W' := by
 rcases own_len hl h with ⟨rfl, rfl⟩ | ⟨g, cap, rfl, hr, hg, _, _⟩
 ·exact ⟨W, fun ty => by simp [Builtin.clear_, run_underlying Tryz.underlying32], Kept.refl _ _⟩
 ·rcases Nat.eq_zero_or_pos n with rfl | h0
  ·exact ⟨W, fun ty => by simp [Builtin.clear_, run_underlying Tryz.underlying32], Kept.refl _ _⟩
  ·refine ⟨_, fun ty => Lib.run_clear_slice W 32 5 ty (.int .u8 0) Tryz.underlying32 (zero_of_info infoByte).1 rfl rfl g 0 n cap h0 (fun j hj => ?_) (fun j hj => ?_), (Kept.refl _ _).setCells hg _ _⟩
   ·rw [Nat.zero_add, hr.cell j (by omega)]; rfl
   ·exact hr.frozen _
theorem open_no (key nonce : List Int) (n c m d : Nat) (ao bo : Option Addr) (ms zs : List Int) (hk : key.length = 32) (hno : nonce.length = 12) (hkb : Bytes key) (hnb : Bytes nonce) (h16 : 16 ≤ m) (hm : m ≤ 1048592) (hn : n ≤ 1048576) (w : World) (hx : Seen w ao n ms) (hy : Seen w bo m zs) (hc : n ≤ c) (hd : m ≤ d) (hO : opensL key nonce ms zs = false) :
  Calls Tryz.prog 76 #[.agg (u8s key).toArray, .agg (u8s nonce).toArray, .slice ao n c, .slice bo m d] w fun e w' => e = .returned (.tuple #[.slice none 0 0, .int .i64 70]) ∧ Below w.heap.size w w' := by
 have HX : Hid (Seen w ao n ms ∧ Seen w bo m zs ∧ n ≤ c ∧ m ≤ d) := ⟨hx, hy, hc, hd⟩
 have HS : Hid (key.length = 32 ∧ nonce.length = 12 ∧ Bytes key ∧ Bytes nonce) := ⟨hk, hno, hkb, hnb⟩
 have t1 := hx.top
 have t2 := hy.top
 have hE := boxE_ok h16 hm hn
 have HL : Hid ((textL key nonce zs).length = m - 16) := by show _ = _; rw [textL_length, hy.len]
 clear hx hy hk hno hkb hnb hc hd
 go_enter Tryz.func76, Tryz.ntmps76
 go_wp2_with (first | (refine wpList_box_new rfl 23 _ rfl (u8s key) rfl ?_; intro w1 b1 s1 l1) | (refine wpList_box_new rfl 92 _ rfl (u8s nonce) rfl ?_; intro w2 b2 s2 l2))
 refine wp_scope_jumps 0 (fun a' w' => ∃ (T : Value) (u0 u1 u2 u3 u4 u5 u6 u7 u8 u9 u11 u13 u14 u15 u16 u17 u18 u19 u20 u21 u22 u23 u24 u25 u26 u27 u28 u29 u30 : Value), a' = { tmps := #[u0, u1, u2, u3, u4, u5, u6, u7, u8, u9, T, u11, .int .i64 70, u13, u14, u15, u16, u17, u18, u19, u20, u21, u22, u23, u24, u25, u26, u27, u28, u29, u30], defers := [] } ∧ ∃ W, (∀ ty, (Builtin.clear_ #[32] ty #[T]).run Tryz.prog w' = .ok (.tuple #[]) W) ∧ Below w.heap.size w W) (fun _ _ => 0) rfl ?_ ?_
 ·go_wp2_with (first | (refine wpList_load_blk rfl 23 _ rfl _ rfl (u8s key) _ (by first | exact b1.later l2 (by omega)) Tryz.underlying23 rfl (by rw [u8s_length, HS.out.1]; exact sizeKey) ?_) | (refine wpList_load_blk rfl 92 _ rfl _ rfl (u8s nonce) _ (by first | exact b2 | (rw [← s1]; exact b2)) Tryz.underlying92 rfl (by rw [u8s_length, HS.out.2.1]; exact sizeNonce) ?_) | (go_at_call 122; refine (checkBox_any ao bo n c m d t1 t2 _).mono ?_; rintro e w' ⟨rfl, rfl⟩; rw [hE]) | (go_at_call 123; refine (uncovered_any key nonce n c m d ao bo ms zs HS.out.1 HS.out.2.1 HS.out.2.2.1 HS.out.2.2.2 h16 hm _ (HX.out.1.later (below_chain l1 l2 (by omega)) (Nat.le_refl _)) (HX.out.2.1.later (below_chain l1 l2 (by omega)) (Nat.le_refl _)) HX.out.2.2.1 HX.out.2.2.2).mono ?_; rintro e w3 ⟨v, rfl, o3, l3⟩; rw [hO]; have HO : Hid (isO w2.heap.size (m - 16) (textL key nonce zs) v w3 ∧ Below w.heap.size w w3 ∧ w.heap.size ≤ w2.heap.size) := ⟨o3, below_chain (below_chain l1 l2 (by omega)) l3 (by omega), by omega⟩; clear o3 l3))
  go_step3
  obtain ⟨W, hcl, hkp⟩ := clear_own HO.out.1 HL.out
  exact ⟨rfl, _, _, _, _, _, _, _, _, _, _, _, _, _, _, _, _, _, _, _, _, _, _, _, _, _, _, _, _, _, _, rfl, W, hcl, below_kept HO.out.2.1 hkp HO.out.2.1.size (fun j hj => by have := HO.out.2.2; omega)⟩
 ·rintro a' w' ⟨T, u0, u1, u2, u3, u4, u5, u6, u7, u8, u9, u11, u13, u14, u15, u16, u17, u18, u19, u20, u21, u22, u23, u24, u25, u26, u27, u28, u29, u30, rfl, W, hcl, hbel⟩
  go_wp2_with fail
  try simp only [Exit.jump]
  go_ret2
  exact ⟨rfl, hbel⟩
theorem open_yes (key nonce : List Int) (n c m d : Nat) (ao bo : Option Addr) (ms zs : List Int) (hk : key.length = 32) (hno : nonce.length = 12) (hkb : Bytes key) (hnb : Bytes nonce) (h16 : 16 ≤ m) (hm : m ≤ 1048592) (hn : n ≤ 1048576) (w : World) (hx : Seen w ao n ms) (hy : Seen w bo m zs) (hc : n ≤ c) (hd : m ≤ d) (hO : opensL key nonce ms zs = true) :
  Calls Tryz.prog 76 #[.agg (u8s key).toArray, .agg (u8s nonce).toArray, .slice ao n c, .slice bo m d] w fun e w' => ∃ v, e = .returned (.tuple #[v, .int .i64 0]) ∧ isO w.heap.size (m - 16) (textL key nonce zs) v w' ∧ Below w.heap.size w w' := by
 have HX : Hid (Seen w ao n ms ∧ Seen w bo m zs ∧ n ≤ c ∧ m ≤ d) := ⟨hx, hy, hc, hd⟩
 have HS : Hid (key.length = 32 ∧ nonce.length = 12 ∧ Bytes key ∧ Bytes nonce) := ⟨hk, hno, hkb, hnb⟩
 have t1 := hx.top
 have t2 := hy.top
 have hE := boxE_ok h16 hm hn
 have HL : Hid ((textL key nonce zs).length = m - 16) := by show _ = _; rw [textL_length, hy.len]
 clear hx hy hk hno hkb hnb hc hd
 go_enter Tryz.func76, Tryz.ntmps76
 go_wp2_with (first | (refine wpList_box_new rfl 23 _ rfl (u8s key) rfl ?_; intro w1 b1 s1 l1) | (refine wpList_box_new rfl 92 _ rfl (u8s nonce) rfl ?_; intro w2 b2 s2 l2))
 go_step3
 go_wp2_with (first | (refine wpList_load_blk rfl 23 _ rfl _ rfl (u8s key) _ (by first | exact b1.later l2 (by omega)) Tryz.underlying23 rfl (by rw [u8s_length, HS.out.1]; exact sizeKey) ?_) | (refine wpList_load_blk rfl 92 _ rfl _ rfl (u8s nonce) _ (by first | exact b2 | (rw [← s1]; exact b2)) Tryz.underlying92 rfl (by rw [u8s_length, HS.out.2.1]; exact sizeNonce) ?_) | (go_at_call 122; refine (checkBox_any ao bo n c m d t1 t2 _).mono ?_; rintro e w' ⟨rfl, rfl⟩; rw [hE]) | (go_at_call 123; refine (uncovered_any key nonce n c m d ao bo ms zs HS.out.1 HS.out.2.1 HS.out.2.2.1 HS.out.2.2.2 h16 hm _ (HX.out.1.later (below_chain l1 l2 (by omega)) (Nat.le_refl _)) (HX.out.2.1.later (below_chain l1 l2 (by omega)) (Nat.le_refl _)) HX.out.2.2.1 HX.out.2.2.2).mono ?_; rintro e w3 ⟨v, rfl, o3, l3⟩; rw [hO]; have HO : Hid (isO w2.heap.size (m - 16) (textL key nonce zs) v w3 ∧ Below w.heap.size w w3 ∧ w.heap.size ≤ w2.heap.size) := ⟨o3, below_chain (below_chain l1 l2 (by omega)) l3 (by omega), by omega⟩; clear o3 l3))
 try rw [Exit.noGoto_ret]
 go_ret2
 exact ⟨_, rfl, ownsRow_base HO.out.1 HO.out.2.2, HO.out.2.1⟩
def peekL (key nonce more box : List Int) : List Int := if opensL key nonce more box = true then textL key nonce box else List.replicate (box.length - 16) 0
theorem peekL_length (key nonce more box : List Int) : (peekL key nonce more box).length = box.length - 16 := by
 unfold peekL
 split
 ·exact textL_length _ _ _
 ·simp
theorem mix_peek (key nonce more box : List Int) (h : Bytes box) : mix (mk (!opensL key nonce more box)) (box.length - 16) (textL key nonce box) (List.replicate (box.length - 16) 0) = peekL key nonce more box := by
 have hl := textL_length key nonce box
 have hb := textL_bytes key nonce h
 unfold peekL
 cases opensL key nonce more box with
 | true => simp only [Bool.not_true, mk_false, if_true]; exact mix_no _ _ _ hb
 | false =>
  simp only [Bool.not_false, mk_true, Bool.false_eq_true, if_false]
  have := mix_yes (textL key nonce box) (List.replicate (box.length - 16) 0) hb (rep0_bytes _) (by simp [hl])
  rwa [hl] at this
theorem isO_len {B n : Nat} {zs : List Int} {v : Value} {W : World} (h : isO B n zs v W) (hl : zs.length = n) : (v = .slice none 0 0 ∧ n = 0 ∧ zs = []) ∨ ∃ g cap, v = .slice (some ⟨g, 0, none⟩) n cap ∧ RowC W g cap zs ∧ B ≤ g ∧ n ≤ cap ∧ cap ≤ maxLen := by
 rcases own_len hl h with ⟨rfl, rfl⟩ | ⟨g, cap, rfl, hr, hg, h1, h2⟩
 ·exact .inl ⟨rfl, rfl, List.length_eq_zero_iff.1 hl⟩
 ·exact .inr ⟨g, cap, rfl, RowC.of_own h, hg, h1, h2⟩
theorem peek_any (key nonce : List Int) (n c m d : Nat) (ao bo : Option Addr) (ms zs : List Int) (hk : key.length = 32) (hno : nonce.length = 12) (hkb : Bytes key) (hnb : Bytes nonce) (h16 : 16 ≤ m) (hm : m ≤ 1048592) (hn : n ≤ 1048576) (w : World) (hx : Seen w ao n ms) (hy : Seen w bo m zs) (hc : n ≤ c) (hd : m ≤ d) :
  Calls Tryz.prog 110 #[.agg (u8s key).toArray, .agg (u8s nonce).toArray, .slice ao n c, .slice bo m d] w fun e w' => ∃ v, e = .returned (.tuple #[v, .int .u64 (mk (opensL key nonce ms zs)), .int .i64 0]) ∧ isO w.heap.size (m - 16) (peekL key nonce ms zs) v w' ∧ Below w.heap.size w w' := by
 obtain ⟨M, rfl⟩ : ∃ M, m = M + 16 := ⟨m - 16, by omega⟩
 have hM : M ≤ 1048576 := by omega
 have HX : Hid (Seen w ao n ms ∧ Seen w bo (M + 16) zs ∧ n ≤ c ∧ M + 16 ≤ d) := ⟨hx, hy, hc, hd⟩
 have HS : Hid (key.length = 32 ∧ nonce.length = 12 ∧ Bytes key ∧ Bytes nonce) := ⟨hk, hno, hkb, hnb⟩
 have t1 := hx.top
 have t2 := hy.top
 have hE := boxE_ok h16 hm hn
 obtain ⟨X, hXX⟩ : ∃ X, textL key nonce zs = X := ⟨_, rfl⟩
 obtain ⟨P, hP⟩ : ∃ P, peekL key nonce ms zs = P := ⟨_, rfl⟩
 have hl : zs.length - 16 = M := by rw [hy.len]; omega
 have HL : Hid (textL key nonce zs = X ∧ X.length = M ∧ Bytes X ∧ P.length = M ∧ (mix (mk (!opensL key nonce ms zs)) M X (List.replicate M 0) = P)) := by
  refine ⟨hXX, by rw [← hXX, textL_length, hl], by rw [← hXX]; exact textL_bytes _ _ hy.bytes, by rw [← hP, peekL_length, hl], ?_⟩
  have := mix_peek key nonce ms zs hy.bytes
  rwa [hl, hXX, hP] at this
 obtain ⟨O, hO⟩ : ∃ b, opensL key nonce ms zs = b := ⟨_, rfl⟩
 rw [hO] at HL
 rw [hO, hP, Nat.add_sub_cancel]
 have nm := not_mk O
 clear hx hy hk hno hkb hnb hc hd hXX hP hl
 go_enter Tryz.func110, Tryz.ntmps110
 go_wp2_with (first | (refine wpList_box_new rfl 23 _ rfl (u8s key) rfl ?_; intro w1 b1 s1 l1) | (refine wpList_box_new rfl 92 _ rfl (u8s nonce) rfl ?_; intro w2 b2 s2 l2) | (go_at_call 122; refine (checkBox_any ao bo n c (M + 16) d t1 t2 _).mono ?_; rintro e w' ⟨rfl, rfl⟩; rw [hE]) | (refine wpList_load_blk rfl 23 _ rfl _ rfl (u8s key) _ (by first | exact b1.later l2 (by omega)) Tryz.underlying23 rfl (by rw [u8s_length, HS.out.1]; exact sizeKey) ?_) | (refine wpList_load_blk rfl 92 _ rfl _ rfl (u8s nonce) _ (by first | exact b2 | (rw [← s1]; exact b2)) Tryz.underlying92 rfl (by rw [u8s_length, HS.out.2.1]; exact sizeNonce) ?_))
 refine (uncovered_any key nonce n c (M + 16) d ao bo ms zs HS.out.1 HS.out.2.1 HS.out.2.2.1 HS.out.2.2.2 h16 hm _ (HX.out.1.later (below_chain l1 l2 (by omega)) (Nat.le_refl _)) (HX.out.2.1.later (below_chain l1 l2 (by omega)) (Nat.le_refl _)) HX.out.2.2.1 HX.out.2.2.2).mono ?_
 rintro e w3 ⟨v, rfl, o3, l3⟩
 rw [hO]
 rw [HL.out.1, Nat.add_sub_cancel] at o3
 have HO : Hid (Below w.heap.size w w3 ∧ w.heap.size ≤ w2.heap.size) := ⟨below_chain (below_chain l1 l2 (by omega)) l3 (by omega), by omega⟩
 obtain ⟨i0, hi, hz0, hz1, hz2⟩ := info_parts info_byte
 have hmk := run_make (P := Tryz.prog) w3 32 5 i0 (.int .u8 0) Tryz.underlying32 hi hz0 .i64 .i64 (M : Int) (M : Int) (by omega) (Int.le_refl _) (by rw [hz2]; omega) (by omega)
 rw [hz1, show ((M : Int).toNat) = M by omega, Nat.mul_one, show (Value.int .u8 0).cells = #[.int .u8 0] from rfl, madeZ] at hmk
 obtain ⟨w4, hw4, HB⟩ : ∃ w4, w3.alloc (.cells (u8s (List.replicate M 0)).toArray 5) = w4 ∧ Hid (Blk w4 w3.heap.size 5 (u8s (List.replicate M 0)) ∧ Below w3.heap.size w3 w4) := ⟨_, rfl, ⟨heap_alloc_new w3 _, (Below.refl _ _).alloc (Nat.le_refl _) _⟩⟩
 rw [hw4] at hmk
 clear hw4 hi hz0 hz1 hz2 l1 l2 l3 b1 s1 b2 s2
 rcases isO_len o3 HL.out.2.1 with ⟨rfl, rfl, hX0⟩ | ⟨g, cap, rfl, hr, hg, hcap, hmax⟩
 ·have HP : Hid (P = [] ∧ w4.heap.size = w4.heap.size ∧ Below w.heap.size w w4) := ⟨List.length_eq_zero_iff.1 HL.out.2.2.2.1, rfl, below_chain HO.out.1 HB.out.2 HO.out.1.size⟩
  clear o3
  rw [show ((0 : Nat) : Int) = 0 from rfl] at hmk
  go_wp2_with (go_at_call 156; refine (mcopy_none _ _ _ _ _ _).mono ?_; rintro e w' ⟨rfl, rfl⟩)
  go_ret3
  exact ⟨_, rfl, by rw [HP.out.1]; exact World.ownsRow_nil _ _ _ _, HP.out.2.2⟩
 ·have hgl := hr.lt
  have H4 : Hid (RowC w4 g cap X ∧ w.heap.size ≤ g ∧ cap ≤ maxLen ∧ Below w.heap.size w w4) := ⟨hr.later HB.out.2 (Nat.le_refl _), by have := HO.out.2; omega, hmax, below_chain HO.out.1 HB.out.2 HO.out.1.size⟩
  have hcp := mcopy_any (mk (!O)) (mk_bd _) g w3.heap.size 0 M cap M X (List.replicate M 0) (by omega) (by have := HL.out.2.1; omega) (by simp) HL.out.2.2.1 (rep0_bytes _) (by unfold maxLen; omega) w4 H4.out.1 HB.out.1.lt (fun i hi => by rw [Nat.zero_add]; exact u8s_cell HB.out.1 i (by simpa using hi))
  rw [HL.out.2.2.2.2] at hcp
  clear o3 hr hgl hmax hg
  go_wp2_with fail
  refine hcp.mono ?_
  rintro e w5 ⟨rfl, r5, k5⟩
  clear hcp
  go_wp2_with fail
  go_ret3
  exact ⟨_, rfl, r5.own HL.out.2.2.2.1 H4.out.2.1 H4.out.2.2.1, below_kept H4.out.2.2.2 k5 H4.out.2.2.2.size (fun j hj => by have := H4.out.2.1; omega)⟩
theorem eqb_yes (ao bo : Option Addr) (n c d : Nat) (zs : List Int) (w : World) (hx : Seen w ao n zs) (hy : Seen w bo n zs) :
  Calls Tryz.prog 18 #[.slice ao n c, .slice bo n d] w fun e w' => e = .returned (.bool true) ∧ ∃ q, w' = w.drewN q := by
 have t1 := hx.top
 go_enter Tryz.func18, Tryz.ntmps18
 go_wp2
 go_loopw [5] (fun i wr => ∃ k : Nat, k ≤ n ∧ i = .int .i64 k ∧ ∃ q, wr = w.drewN q) (fun i _ => n - (intOf i).toNat)
 case atStart => exact ⟨0, Nat.zero_le _, rfl, 0, rfl⟩
 case round =>
  obtain ⟨k, hk, rfl, q, rfl⟩ := hrel
  by_cases hlt : k < n
  ·obtain ⟨b, o, rfl, hb, hc⟩ := hx.cells (by omega)
   obtain ⟨b2, o2, rfl, hb2, hc2⟩ := hy.cells (by omega)
   have c1 : (w.drewN q).cell? ⟨b, o + k, none⟩ = some (.int .u8 (zs.getD k 0)) := hc k hlt
   have c2 : (w.drewN q).cell? ⟨b2, o2 + k, none⟩ = some (.int .u8 (zs.getD k 0)) := hc2 k hlt
   obtain ⟨Z, hZ⟩ : ∃ Z, zs.getD k 0 = Z := ⟨_, rfl⟩
   rw [hZ] at c1 c2
   obtain ⟨wr, hwr⟩ : ∃ wr, w.drewN q = wr := ⟨_, rfl⟩
   rw [hwr] at c1 c2 ⊢
   have HW : Hid (w.drewN q = wr) := hwr
   have i1 : (0 : Int) ≤ (k : Int) := by omega
   have i2 : (k : Int) < (n : Int) := by omega
   clear hZ hc hc2 hx hy hwr
   go_wp2
   go_quiet (fail)
   go_wp2
   refine ⟨⟨k + 1, by omega, by go_num, q + nq, ?_⟩, by simp [intOf]; omega⟩
   rw [← HW.out, World.drewN_drewN]
  ·obtain rfl : k = n := by omega
   clear hx hy
   go_wp2
   go_ret
   exact ⟨rfl, q, rfl⟩
theorem b5 : Bytes [5] := fun z hz => by simp at hz; subst hz; decide
def lnonL (kind number : Int) : List Int := leB 4 kind ++ leB 8 number
theorem nonL_length (a b : Int) : (lnonL a b).length = 12 := by simp [lnonL, leB_length]
theorem nonL_bytes (a b : Int) : Bytes (lnonL a b) := bytes_app (leB_bytes _ _) (leB_bytes _ _)
theorem zeroNon : (Tryz.prog.info? 92).map (fun i => (i.zero, i.size)) = some (some (.agg (u8s (zs0 12)).toArray), 12) := by kernel_rfl
theorem row_range {w : World} {g : Nat} {zs : List Int} (h : RowAt w g zs) : w.rangeAt g 0 (u8s zs) := fun j v hv => by
 have hj : j < zs.length := by have := (List.getElem?_eq_some_iff.1 hv).1; simpa [u8s] using this
 rw [Nat.zero_add, h.cell j hj, ← hv]
 simp [u8s, List.getD, hj]
theorem nonce_any (kind number : Int) (hk : 0 ≤ kind ∧ kind < 4294967296) (hn : 0 ≤ number ∧ number < 18446744073709551616) (w : World) :
  Calls Tryz.prog 75 #[.int .u32 kind, .int .u64 number] w fun e w' => e = .returned (.agg (u8s (lnonL kind number)).toArray) ∧ Below w.heap.size w w' := by
 obtain ⟨X, hX⟩ : ∃ X, lnonL kind number = X := ⟨_, rfl⟩
 have HX : Hid (leB 4 kind ++ leB 8 number = X ∧ X.length = 12 ∧ Bytes X) := ⟨hX, by rw [← hX, nonL_length], by rw [← hX]; exact nonL_bytes _ _⟩
 rw [hX]
 clear hX
 go_enter Tryz.func75, Tryz.ntmps75
 go_wp2_with (first | (refine wpList_alloc_new rfl 92 rfl 12 _ zeroNon ?_; intro w1 b1 s1 l1))
 refine (put_32 none 0 0 [] kind w1 (Seen.empty _ _) (fun _ => rfl) (by decide) hk).mono ?_
 rintro e w2 ⟨v2, rfl, o2, l2⟩
 obtain ⟨p2, c2, rfl, d2, _⟩ := own_seen (by simp [leB_length]) (bytes_app (fun z hz => by cases hz) (leB_bytes _ _)) (by decide) o2
 have z2 : p2 = none → c2 = 0 := fun h => by
  obtain ⟨b, o, e, _⟩ := d2.cells (by decide)
  rw [h] at e; cases e
 have H2 : Hid (Blk w2 w.heap.size 92 (u8s (zs0 12)) ∧ Below w.heap.size w w2 ∧ Seen w2 p2 (0 + 4) ([] ++ leB 4 kind) ∧ w.heap.size < w2.heap.size) := ⟨b1.later l2 (by omega), below_chain l1 l2 (by omega), d2, by have := l2.size; omega⟩
 clear b1 s1 l1 o2 d2 l2
 go_wp2_with fail
 refine (put_64 p2 (0 + 4) c2 _ number w2 H2.out.2.2.1 z2 (by decide) hn).mono ?_
 rintro e w3 ⟨v3, rfl, o3, l3⟩
 rw [List.nil_append, HX.out.1] at o3
 have e12 : 0 + 4 + 8 = 12 := rfl
 rw [e12] at o3
 rcases own_len HX.out.2.1 o3 with ⟨_, h0⟩ | ⟨g, cap, rfl, r3, g3, c3, m3⟩
 ·cases h0
 have H3 : Hid (Blk w3 w.heap.size 92 (u8s (zs0 12)) ∧ Below w.heap.size w w3 ∧ RowAt w3 g X) := ⟨H2.out.1.later l3 H2.out.1.lt, below_chain H2.out.2.1 l3 H2.out.2.1.size, r3⟩
 have hat : ∀ W, (Instr.arrayAt 92 (.slice (some ⟨g, 0, none⟩) 12 cap)).run Tryz.prog W = .ok (.pointer (some ⟨g, 0, none⟩)) W := fun W => run_arrayAt W 92 5 12 _ 12 cap Tryz.underlying92 (Nat.le_refl _)
 clear o3 l3 r3 g3 m3 H2 z2
 go_wp2_with (first | (refine wpList_load_mid rfl 92 _ rfl g 0 rfl (u8s X) _ (row_range H3.out.2.2) Tryz.underlying92 rfl (by rw [u8s_length, HX.out.2.1]; exact sizeNonce) ?_) | (refine wpList_store_blk rfl 92 92 _ _ rfl _ rfl _ (u8s X) rfl H3.out.1 (by rw [u8s_length, u8s_length, HX.out.2.1]; rfl) (by rw [u8s_length, HX.out.2.1]; exact sizeNonce) (u8s_one _) ?_; intro w4 b4 s4 k4))
 exact ret_blk rfl w.heap.size (u8s X) _ rfl b4 Tryz.underlying92 rfl (by rw [u8s_length, HX.out.2.1]; exact sizeNonce) rfl ⟨rfl, below_kept H3.out.2.1 k4 H3.out.2.1.size (fun j hj => by omega)⟩
end Go.Proofs.YthlbjkfjkggdoaaGreatDoor
