/- Layer record: bytesOf, slices.Grow of nil, slices.Concat of two lists, Make. -/
import Derived.Test.YtabdjoljdefjdaaRcOrd
import Derived.Test.YtabdjoljdefjdaaDCopy
import Derived.Test.YtabdjoljdefjdaaSCopy
import Derived.Lib.AppendZeros
namespace Go.Proofs.Ytabdjoljdefjdaa
open Go.RowKit
set_option linter.unusedVariables false
set_option linter.unusedSimpArgs false

/-- Bytes of the call's own. -/
def isO (base n : Nat) (zs : List Int) (v : Value) (w : World) : Prop := w.ownsRow base 5 1 v n (zs.map (Value.int .u8))
theorem isO_later (base n : Nat) (zs : List Int) : ∀ v w w', Below w.heap.size w w' → isO base n zs v w → isO base n zs v w' := fun _ _ _ hb h => ownsRow_below h hb
theorem isO_base {base base' n : Nat} {zs : List Int} {v : Value} {w : World} (h : isO base n zs v w) (hb : base' ≤ base) : isO base' n zs v w := ownsRow_base h hb
theorem isO_sl {w : World} {B n : Nat} {v : Value} {zs : List Int} (hl : zs.length = n) (hb : Bytes zs) (ht : n ≤ 140737488355328) (o : isO B n zs v w) : ∃ vo cap, v = .slice vo n cap ∧ Seen w vo n zs ∧ n ≤ cap ∧ (vo = none → cap = 0) ∧ ∀ b o, vo = some ⟨b, o, none⟩ → B ≤ b := by
  rcases own_len hl o with ⟨rfl, rfl⟩ | ⟨g, cap, rfl, hr, hg, hc, _⟩
  · have e : zs = [] := List.length_eq_zero_iff.1 hl
    subst e
    exact ⟨none, 0, rfl, Seen.empty _ _, Nat.le_refl _, fun _ => rfl, fun b o h => by cases h⟩
  · refine ⟨_, cap, rfl, ?_, hc, fun h => (by cases h), fun b o h => by simp at h; omega⟩
    have := Seen.of_row (n := n) hr (by omega) ht hb
    rwa [List.take_of_length_le (by omega)] at this
theorem below_grown_own {w w1 w2 : World} {B : Nat} {v : Value} {n : Nat} {xs : List Value} (hb : Below B w w1) (hB : B ≤ w1.heap.size) (ho : w1.ownsRow B 5 1 v n xs) (hg : w1.grownBy w2 v.ownBlock) : Below B w w2 := hb.grown hg hB (fun j hj => (ho.lt j hj).1)
theorem wpList_buildSliceR {ops : Array Oper} {rest : List Oper} {o : Oper} {a : Act} {Q : Exit → Act → World → Prop} {w : World} (hgd : o.guard = none) (t : TypeId) (m : Nat) (parts : Array (Nat × Operand)) (ho : o.op = .buildSlice t m parts) (ps : Array (Nat × Value))
    (hp : (parts.map fun (i, x) => (i, a.eval x)) = ps) (v : Value) (w' : World) (hrun : (Instr.buildSlice t m ps).run Try.prog w = .ok v w') (h : wpList Try.prog ops Q rest (a.put o.dst v) w') : wpList Try.prog ops Q (o :: rest) a w := by
  refine wpList_plain hgd fun K hK => ?_
  unfold Oper.wp execOp
  simp only [ho, hp, Sem.run_bind, hrun, Sem.run_pure, Result.andThen_ok]
  exact hK _ _ h
theorem bs_two (x y : Int) (W : World) : (Instr.buildSlice 27 2 #[(0, .int .u8 x), (1, .int .u8 y)]).run Try.prog W = .ok (.slice (some ⟨W.heap.size, 0, none⟩) 2 2) (W.alloc (.cells (u8s [x, y]).toArray 5)) := by kernel_rfl
theorem bs_lists (ao bo : Option Addr) (n c m d : Nat) (W : World) : (Instr.buildSlice 32 2 #[(0, .slice ao n c), (1, .slice bo m d)]).run Try.prog W = .ok (.slice (some ⟨W.heap.size, 0, none⟩) 2 2) (W.alloc (.cells #[.slice ao n c, .slice bo m d] 27)) := by kernel_rfl
set_option maxRecDepth 20000 in
set_option maxHeartbeats 2000000 in
theorem bytesOf_any (h : Hd) (k : HdOk h) (w : World) :
    Calls Try.prog 34 #[.agg (hdC h).toArray] w fun e w' => ∃ v, e = .returned v ∧ isO w.heap.size 26 (hdB h) v w' ∧ Below w.heap.size w w' := by
  have HK : Hid (HdOk h) := k
  obtain ⟨A, eA⟩ : ∃ A, [h.live, h.flag] = A := ⟨_, rfl⟩
  have bA : Bytes A := by
    rw [← eA]
    intro z hz
    simp only [List.mem_cons, List.not_mem_nil, or_false] at hz
    rcases hz with rfl | rfl
    · exact k.live
    · exact k.flag
  have HA : Hid ([h.live, h.flag] = A ∧ A.length = 2 ∧ Bytes A) := ⟨eA, by rw [← eA]; rfl, bA⟩
  clear k eA bA
  go_enter Try.func34, Try.ntmps34
  go_wp2_with (first | (refine wpList_box_new rfl 26 _ rfl (hdC h) rfl ?_; intro w1 b1 s1 l1; have c0 : w1.cell? ⟨w.heap.size, 0, none⟩ = some (.int .u8 h.live) := b1.cell 0; have c1 : w1.cell? ⟨w.heap.size, 1, none⟩ = some (.int .u8 h.flag) := b1.cell 1; have c2 : w1.cell? ⟨w.heap.size, 2, none⟩ = some (.int .u32 h.index) := b1.cell 2))
  obtain ⟨w2, hw2⟩ : ∃ w2, w1.alloc (.cells #[.int .u8 h.live, .int .u8 h.flag] 5) = w2 := ⟨_, rfl⟩
  rw [hw2]
  have V2 : Hid (Blk w2 w.heap.size 26 (hdC h) ∧ Seen w2 (some ⟨w.heap.size + 1, 0, none⟩) 2 A ∧ Below w.heap.size w w2) := by
    have B2 : Below w1.heap.size w1 w2 := hw2 ▸ (Below.refl _ _).alloc (Nat.le_refl _) _
    have D2 : Blk w2 w1.heap.size 5 (u8s A) := by rw [← hw2, ← HA.out.1]; exact heap_alloc_new w1 _
    rw [s1] at D2
    refine ⟨b1.later B2 (by omega), ?_, below_chain l1 B2 (by omega)⟩
    have := seen_blk D2 HA.out.2.2 (by rw [HA.out.2.1]; decide)
    rwa [HA.out.2.1] at this
  clear hw2 b1 s1 l1 c0 c1 c2
  refine (put_32 _ 2 2 A h.index w2 V2.out.2.1 (fun e => by cases e) (by decide) HK.out.index).mono ?_
  rintro e w3 ⟨v3, rfl, o3, l3⟩
  obtain ⟨B, eB⟩ : ∃ B, A ++ leB 4 h.index = B := ⟨_, rfl⟩
  rw [eB] at o3
  have HB : Hid (A ++ leB 4 h.index = B ∧ B.length = 6 ∧ Bytes B) := ⟨eB, by rw [← eB, List.length_append, HA.out.2.1, leB_length], by rw [← eB]; exact bytes_two HA.out.2.2 (leB_bytes _ _)⟩
  obtain ⟨q3, n3, rfl, S3, -, f3, -⟩ := isO_sl HB.out.2.1 HB.out.2.2 (by decide) o3
  have V3 : Hid (Blk w3 w.heap.size 26 (hdC h) ∧ Seen w3 q3 6 B ∧ Below w.heap.size w w3) := ⟨V2.out.1.later l3 V2.out.1.lt, S3, below_chain V2.out.2.2 l3 V2.out.2.2.size⟩
  have c3 : w3.cell? ⟨w.heap.size, 3, none⟩ = some (.int .u32 h.rank) := V3.out.1.cell 3
  have F3 : Hid (q3 = none → n3 = 0) := f3
  clear o3 l3 eB S3 f3 V2
  go_wp2_with (fail)
  refine (put_32 q3 6 n3 B h.rank w3 V3.out.2.1 F3.out (by decide) HK.out.rank).mono ?_
  rintro e w4 ⟨v4, rfl, o4, l4⟩
  obtain ⟨C, eC⟩ : ∃ C, B ++ leB 4 h.rank = C := ⟨_, rfl⟩
  rw [eC] at o4
  have HC : Hid (B ++ leB 4 h.rank = C ∧ C.length = 10 ∧ Bytes C) := ⟨eC, by rw [← eC, List.length_append, HB.out.2.1, leB_length], by rw [← eC]; exact bytes_two HB.out.2.2 (leB_bytes _ _)⟩
  have V4 : Hid (Blk w4 w.heap.size 26 (hdC h) ∧ w4.ownsRow w.heap.size 5 1 v4 10 (C.map (Value.int .u8)) ∧ Below w.heap.size w w4) := ⟨V3.out.1.later l4 V3.out.1.lt, ownsRow_base o4 V3.out.2.2.size, below_chain V3.out.2.2 l4 V3.out.2.2.size⟩
  clear o4 l4 eC V3 c3
  go_wp2_with (first | (refine wpList_append_seen rfl _ _ rfl w.heap.size v4 10 _ rfl V4.out.2.1 (some ⟨w.heap.size, 4, none⟩) 16 16 h.group rfl (hd_seen V4.out.1 HK.out) (fun e => by cases e) (by decide) V4.out.2.2.size ?_; intro v5 w5 o5 g5; have V5 : Hid (isO w.heap.size 26 (hdB h) v5 w5 ∧ Below w.heap.size w w5) := (by refine ⟨?_, below_grown_own V4.out.2.2 V4.out.2.2.size V4.out.2.1 g5⟩; show w5.ownsRow _ _ _ _ _ _; rw [show hdB h = C ++ h.group by rw [hdB, HA.out.1, HB.out.1, HC.out.1], List.map_append]; exact o5); clear o5 g5))
  go_ret
  exact ⟨_, rfl, V5.out.1, V5.out.2⟩
set_option maxRecDepth 20000 in
set_option maxHeartbeats 2000000 in
theorem grow_any (n : Nat) (hn : 1 ≤ n) (hl : n ≤ 140737488355328) (w : World) :
    Calls Try.prog 49 #[.slice none 0 0, .int .i64 n] w fun e w' => ∃ v, e = .returned v ∧ w'.ownsRow w.heap.size 5 1 v 0 [] ∧ Below w.heap.size w w' := by
  obtain ⟨i0, hi, hz0, hz1, hz2⟩ := info_parts info_byte
  have happ := Lib.run_append_nil_zeros (P := Try.prog) w 27 3 27 5 i0 (.int .u8 0) .i64 .i64 Try.underlying27 Try.underlying3 hi hz0 n (by omega) (by omega) (by omega) (by rw [hz2]; omega)
  obtain ⟨cap, hcap⟩ : ∃ cap, grownCap w n 0 5 = cap := ⟨_, rfl⟩
  have hcapge : n ≤ cap := by rw [← hcap]; exact grownCap_ge w _ 0 5
  have hcaple : cap ≤ maxLen := by rw [← hcap]; exact grownCap_le_maxLen w _ 0 5 (by unfold maxLen; omega)
  rw [hcap] at happ
  obtain ⟨Z, hZ⟩ : ∃ Z, (Builtin.zeroCells (Value.int .u8 0).cells n ++ Builtin.zeroCells (Value.int .u8 0).cells (cap - n)) = Z := ⟨_, rfl⟩
  have hZs : Z.size = cap := by rw [← hZ]; simp [size_zeroCells, Value.cells]; omega
  rw [hZ] at happ
  obtain ⟨w1, hw1⟩ : ∃ w1, w.drew.alloc (.cells Z 5) = w1 := ⟨_, rfl⟩
  rw [hw1] at happ
  have V : Hid (w1.ownsRow w.heap.size 5 1 (.slice (some ⟨w.heap.size, 0, none⟩) 0 cap) 0 [] ∧ Below w.heap.size w w1) := ⟨hw1 ▸ own_made w.drew cap hcaple Z hZs, hw1 ▸ ((below_dn (Below.refl w.heap.size w) 1).alloc (Nat.le_refl _) _)⟩
  clear hi hz0 hz1 hz2 hcap hZ hw1
  go_enter Try.func49, Try.ntmps49
  go_wp2_with (first | (refine Lib.wpList_append_run _ rfl _ _ _ _ rfl _ _ rfl rfl _ _ happ ?_))
  go_ret
  exact ⟨_, rfl, V.out.1, V.out.2⟩
/-- The first k of two lists, one behind the other. -/
def szK (n m k : Nat) : Nat := if k = 0 then 0 else if k = 1 then n else n + m
def catK (xs ys : List Int) (k : Nat) : List Int := if k = 0 then [] else if k = 1 then xs else xs ++ ys
set_option maxRecDepth 20000 in
set_option maxHeartbeats 4000000 in
theorem concat_any (ao bo : Option Addr) (n c m d g : Nat) (xs ys : List Int) (h1 : 1 ≤ n) (hl : n + m ≤ 140737488355328) (fa : ao = none → c = 0) (fb : bo = none → d = 0) (w : World) (hx : Seen w ao n xs) (hy : Seen w bo m ys) (hg : Blk w g 27 [.slice ao n c, .slice bo m d]) :
    Calls Try.prog 33 #[.slice (some ⟨g, 0, none⟩) 2 2] w fun e w' => ∃ v, e = .returned v ∧ isO w.heap.size (n + m) (xs ++ ys) v w' ∧ Below w.heap.size w w' := by
  have HX : Hid (Seen w ao n xs ∧ Seen w bo m ys ∧ Blk w g 27 [.slice ao n c, .slice bo m d] ∧ (ao = none → c = 0) ∧ (bo = none → d = 0)) := ⟨hx, hy, hg, fa, fb⟩
  have c0 : w.cell? ⟨g, 0, none⟩ = some (.slice ao n c) := hg.cell 0
  have c1 : w.cell? ⟨g, 1, none⟩ = some (.slice bo m d) := hg.cell 1
  clear hx hy hg fa fb
  go_enter Try.func33, Try.ntmps33
  go_wp2_with (fail)
  go_loopw [3, 11] (fun s i wr => ∃ k : Nat, k ≤ 2 ∧ i = .int .i64 k ∧ s = .int .i64 (szK n m k : Nat) ∧ wr = w) (fun _ i _ => 2 - (intOf i).toNat)
  case atStart => exact ⟨0, by decide, rfl, rfl, rfl⟩
  case round =>
    obtain ⟨k, hk, rfl, rfl, rfl⟩ := hrel
    obtain rfl | rfl | rfl : k = 0 ∨ k = 1 ∨ k = 2 := by omega
    · have e0 : szK n m 0 = 0 := rfl
      rw [e0]
      have v1 : IntKind.i64.wrap (0 + (n : Int)) = (n : Int) := by simp only [IntKind.wrap, IntKind.bits, IntKind.signed]; simp; omega
      go_wp2
      go_roundw
      case rel => exact ⟨1, by decide, rfl, by first | rfl | (show Value.int _ _ = Value.int _ _; congr 1; simp [szK]), by first | rfl | trivial⟩
      case measure => simp [intOf]
    · have e0 : szK n m 1 = n := rfl
      rw [e0]
      have v1 : IntKind.i64.wrap ((n : Int) + (m : Int)) = (n : Int) + (m : Int) := by simp only [IntKind.wrap, IntKind.bits, IntKind.signed]; simp; omega
      go_wp2
      go_roundw
      case rel => exact ⟨2, by decide, rfl, by first | rfl | (show Value.int _ _ = Value.int _ _; congr 1; simp [szK]), by first | rfl | trivial⟩
      case measure => simp [intOf]
    · have e0 : ((szK n m 2 : Nat) : Int) = ((n + m : Nat) : Int) := rfl
      rw [e0]
      have G := grow_any (n + m) (by omega) hl wr
      rw [Int.natCast_add] at G
      obtain ⟨w0, rfl⟩ : ∃ w0, w0 = wr := ⟨_, rfl⟩
      go_wp2_with (go_at_call 49; refine G.mono ?_; rintro e w1 ⟨v1, rfl, o1, l1⟩)
      clear G
      have HL : Hid (xs.length = n ∧ ys.length = m ∧ n + m ≤ 140737488355328 ∧ 1 ≤ n) := ⟨HX.out.1.len, HX.out.2.1.len, hl, h1⟩
      clear hl h1 c0 c1
      go_loopw [6, 27] (fun v i wr => ∃ k : Nat, k ≤ 2 ∧ i = .int .i64 k ∧ isO w0.heap.size (szK n m k) (catK xs ys k) v wr ∧ Below w0.heap.size w0 wr) (fun _ i _ => 2 - (intOf i).toNat)
      case atStart => exact ⟨0, by decide, rfl, o1, l1⟩
      case round =>
        obtain ⟨k, hk, rfl, o2, l2⟩ := hrel
        have HG := HX.out.2.2.1.later l2 HX.out.2.2.1.lt
        have q2 := l2.size
        obtain rfl | rfl | rfl : k = 0 ∨ k = 1 ∨ k = 2 := by omega
        · have c0 : wr.cell? ⟨g, 0, none⟩ = some (.slice ao n c) := HG.cell 0
          clear HG l1 o1
          go_wp2_with (first | (refine wpList_append_seen rfl _ _ rfl w0.heap.size _ 0 [] rfl o2 ao n c xs rfl (HX.out.1.later l2 (Nat.le_refl _)) HX.out.2.2.2.1 (by have := HL.out.2.2.1; omega) q2 ?_; intro v5 w5 o5 g5))
          go_roundw
          case rel => exact ⟨1, by decide, rfl, by rw [Nat.zero_add, List.nil_append] at o5; exact o5, below_grown_own l2 q2 o2 g5⟩
          case measure => simp [intOf]
        · have c0 : wr.cell? ⟨g, 1, none⟩ = some (.slice bo m d) := HG.cell 1
          clear HG l1 o1
          go_wp2_with (first | (refine wpList_append_seen rfl _ _ rfl w0.heap.size _ n (xs.map (Value.int .u8)) rfl o2 bo m d ys rfl (HX.out.2.1.later l2 (Nat.le_refl _)) HX.out.2.2.2.2 HL.out.2.2.1 q2 ?_; intro v5 w5 o5 g5))
          go_roundw
          case rel => exact ⟨2, by decide, rfl, by rw [← List.map_append] at o5; exact o5, below_grown_own l2 q2 o2 g5⟩
          case measure => simp [intOf]
        · have V : Hid (isO w0.heap.size (n + m) (xs ++ ys) u6 wr ∧ Below w0.heap.size w0 wr) := ⟨o2, l2⟩
          clear o2 l2 HG l1 o1 q2
          go_wp2
          go_ret
          exact ⟨_, rfl, V.out.1, V.out.2⟩
set_option maxRecDepth 20000 in
set_option maxHeartbeats 2000000 in
theorem make_any (h : Hd) (k : HdOk h) (ao : Option Addr) (m c : Nat) (bs : List Int) (fa : ao = none → c = 0) (hm : 26 + m ≤ 140737488355328) (w : World) (hx : Seen w ao m bs) :
    Calls Try.prog 12 #[.agg (hdC h).toArray, .slice ao m c] w fun e w' => ∃ v, e = .returned v ∧ isO w.heap.size (26 + m) (hdB h ++ bs) v w' ∧ Below w.heap.size w w' := by
  have HK : Hid (HdOk h) := k
  have HX : Hid (Seen w ao m bs ∧ (ao = none → c = 0) ∧ 26 + m ≤ 140737488355328) := ⟨hx, fa, hm⟩
  clear k hx fa hm
  go_enter Try.func12, Try.ntmps12
  go_wp2_with (first | (refine wpList_box_new rfl 26 _ rfl (hdC h) rfl ?_; intro w1 b1 s1 l1) | (refine wpList_load_blk rfl 26 _ rfl _ rfl (hdC h) _ b1 Try.underlying26 rfl (hsizeC HK.out.len) ?_))
  refine (bytesOf_any h HK.out w1).mono ?_
  rintro e w2 ⟨v2, rfl, o2, l2⟩
  obtain ⟨q2, n2, rfl, S2, -, f2, -⟩ := isO_sl (hdB_length HK.out.len) (hdB_bytes HK.out) (by decide) o2
  have V2 : Hid (Seen w2 q2 26 (hdB h) ∧ (q2 = none → n2 = 0) ∧ Below w.heap.size w w2) := ⟨S2, f2, below_chain l1 l2 (by omega)⟩
  clear S2 f2 o2 l1 l2 b1 s1
  go_wp2_with (fail)
  have B3 : Below w2.heap.size w2 (w2.alloc (.cells #[.slice q2 26 n2, .slice ao m c] 27)) := (Below.refl _ _).alloc (Nat.le_refl _) _
  refine (concat_any q2 ao 26 n2 m c w2.heap.size (hdB h) bs (by decide) HX.out.2.2 V2.out.2.1 HX.out.2.1 _ (V2.out.1.later B3 (Nat.le_refl _)) (HX.out.1.later (below_chain V2.out.2.2 B3 V2.out.2.2.size) (Nat.le_refl _)) (heap_alloc_new w2 _)).mono ?_
  rintro e w4 ⟨v4, rfl, o4, l4⟩
  have V4 : Hid (isO w.heap.size (26 + m) (hdB h ++ bs) v4 w4 ∧ Below w.heap.size w w4) := ⟨isO_base o4 (by have := V2.out.2.2.size; have := B3.size; omega), below_chain (below_chain V2.out.2.2 B3 V2.out.2.2.size) l4 (by have := V2.out.2.2.size; have := B3.size; omega)⟩
  clear o4 l4 B3
  go_wp2
  go_ret
  exact ⟨_, rfl, V4.out.1, V4.out.2⟩
end Go.Proofs.Ytabdjoljdefjdaa
