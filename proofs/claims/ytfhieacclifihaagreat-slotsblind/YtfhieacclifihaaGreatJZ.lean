/- Two lives of slots with the same numbers, other keys and other bytes in every step (what is read being of bulk at most 1048576): the same accesses, and the hosts saw the same, touch by touch: trystlaw15.SlotsBlind returns true. Condition: the bulk. -/
import Derived.Test.YtfhieacclifihaaGreatRows
import Derived.ProofKit
import Derived.OpenShut
import Derived.ShutString
import Derived.ChangeOld
import Derived.SizedLaws
import Derived.Deep.Slices
import Derived.Deep.Strs
import Derived.JoinedCond
import Derived.Test.YtfhieacclifihaaGreatJA
import Derived.Test.YtfhieacclifihaaGreatJL
namespace Go.Proofs.YtfhieacclifihaaGreat
open Go.RowKit
set_option linter.unusedVariables false
set_option linter.unusedSimpArgs false

set_option maxRecDepth 20000 in
set_option maxHeartbeats 6000000 in
theorem blindLaw (pages text window : Int) (key : List Int) (round : Int) (fv : Value) (f0 f1 n0 n1 s0 s1 : Int) (so : Option Addr) (ns sc : Nat) (ops : List Opr) (key2 : List Int) (oo : Option Addr) (on oc : Nat) (pss : List (List Int)) (w : World) (hkey : key.length = 32) (hkb : Bytes key) (hkey2 : key2.length = 32) (hkb2 : Bytes key2) (hr : Word round) (hso : SeenO w so ops) (hns : ops.length = ns) (hnb : ns ≤ 1048575) (hoo : SeenP w oo on pss) (hob : on ≤ 1048575) :
    Calls Tryz.prog 5 #[.agg (wldC pages text window key round fv f0 f1 n0 n1 s0 s1 (.slice so ns sc)).toArray, .agg (u8s key2).toArray, .slice oo on oc] w fun e w' => e = .returned (.bool true) ∧ Below w.heap.size w w' := by
  have HW : Hid (SeenO w so ops ∧ ops.length = ns ∧ SeenP w oo on pss) := ⟨hso, hns, hoo⟩
  have HC := wld_at pages text window key round fv f0 f1 n0 n1 s0 s1 (.slice so ns sc) hkey
  have HC43 : Hid ((wldC pages text window key round fv f0 f1 n0 n1 s0 s1 (.slice so ns sc))[43]? = some (.slice so ns sc)) := HC.2.2.2.2.2.2
  obtain ⟨q, hq⟩ : ∃ q, qnOf pages text window n0 s0 = q := ⟨_, rfl⟩
  have QF : Hid (q.Fit) := by rw [← hq]; exact qn_fit _ _ _ _ _
  have CQ : Hid (∀ k W, k.length = 32 → Bytes k → Calls Tryz.prog 22 #[.agg (wldC pages text window key round fv f0 f1 n0 n1 s0 s1 (.slice so ns sc)).toArray, .agg (u8s k).toArray] W fun e w' => ∃ g h p S, e = .returned (.tuple #[.pointer (some ⟨g, 0, none⟩), .pointer (some ⟨h, 0, none⟩), .int .i64 (q.sz : Int), .bool true]) ∧ Lf w' q k round g h p [] nm0 S ∧ (∀ b, S b → W.heap.size ≤ b) ∧ Below W.heap.size W w') := fun k W h1 h2 => by rw [← hq]; exact quiet_L pages text window key round fv f0 f1 n0 n1 s0 s1 (.slice so ns sc) k W hkey h1 h2 hr
  have HS : Hid ((Tryz.prog.info? 62).map (·.size) = some (wldC pages text window key round fv f0 f1 n0 n1 s0 s1 (.slice so ns sc)).length) := sizeWld pages text window key round fv f0 f1 n0 n1 s0 s1 (.slice so ns sc) hkey
  have HKK : Hid ((Tryz.prog.info? 41).map (·.size) = some (u8s key).length ∧ (Tryz.prog.info? 41).map (·.size) = some (u8s key2).length ∧ key.length = 32 ∧ Bytes key ∧ key2.length = 32 ∧ Bytes key2) := ⟨by rw [u8s_length, hkey]; kernel_rfl, by rw [u8s_length, hkey2]; kernel_rfl, hkey, hkb, hkey2, hkb2⟩
  have RK : Hid (∀ {W : World} {g t : Nat}, Blk W g t (wldC pages text window key round fv f0 f1 n0 n1 s0 s1 (.slice so ns sc)) → W.rangeAt g 3 (u8s key)) := fun {W g t} h => wld_key h
  obtain ⟨cs, hcs⟩ : ∃ cs, wldC pages text window key round fv f0 f1 n0 n1 s0 s1 (.slice so ns sc) = cs := ⟨_, rfl⟩
  rw [hcs] at HC43 CQ HS RK ⊢
  clear hcs HC hq hkey hkb hkey2 hkb2 hr hso hns hoo
  have N1 : Hid True := trivial
  have N2 : Hid True := trivial
  have L1 : Hid True := trivial
  have L2 : Hid True := trivial
  have L3 : Hid True := trivial
  have L4 : Hid True := trivial
  have M1 : Hid True := trivial
  have M2 : Hid True := trivial
  have M3 : Hid True := trivial
  have M4 : Hid True := trivial
  go_enter Tryz.func5, Tryz.ntmps5
  go_wp2_with (first
    | (clear N1; refine wpList_box_new rfl 62 _ rfl cs rfl ?_; intro w1 d1 s1 l1)
    | (clear N2; refine wpList_box_new rfl 41 _ rfl (u8s key2) rfl ?_; intro w2 d2 s2 l2; have Z2 : Hid (w1.heap.size = w.heap.size + 1 ∧ w2.heap.size = w1.heap.size + 1) := ⟨s1, s2⟩; have D2 : Hid (Blk w2 w.heap.size 62 cs ∧ Blk w2 w1.heap.size 41 (u8s key2) ∧ Below w.heap.size w w2 ∧ w.heap.size < w2.heap.size ∧ w1.heap.size < w2.heap.size) := ⟨d1.later l2 d1.lt, d2, below_chain l1 l2 l1.size, by omega, by omega⟩; clear d1 d2 s1 s2 l1 l2)
    | (clear L1; refine wpList_load_blk rfl 62 _ rfl _ rfl cs _ D2.out.1 Tryz.underlying62 rfl HS.out ?_)
    | (clear L2; refine wpList_load_mid rfl 41 _ rfl w.heap.size 3 rfl (u8s key) _ (RK.out D2.out.1) Tryz.underlying41 rfl HKK.out.1 ?_)
    | (clear M1; go_at_call 22; refine (CQ.out key w2 HKK.out.2.2.1 HKK.out.2.2.2.1).mono ?_; rintro e w3 ⟨gA, hA, pA, SA0, rfl, xA, sA, lA⟩; have D3 : Hid (Blk w3 w.heap.size 62 cs ∧ Blk w3 w1.heap.size 41 (u8s key2) ∧ Below w2.heap.size w2 w3) := ⟨D2.out.1.later lA D2.out.2.2.2.1, D2.out.2.1.later lA D2.out.2.2.2.2, lA⟩)
    | (clear L3; refine wpList_load_blk rfl 62 _ rfl _ rfl cs _ D3.out.1 Tryz.underlying62 rfl HS.out ?_)
    | (clear L4; refine wpList_load_blk rfl 41 _ rfl _ rfl (u8s key2) _ D3.out.2.1 Tryz.underlying41 rfl HKK.out.2.1 ?_)
    | (clear M2; go_at_call 22; refine (CQ.out key2 w3 HKK.out.2.2.2.2.1 HKK.out.2.2.2.2.2).mono ?_; rintro e w4 ⟨gB, hB, pB, SB0, rfl, xB, sB, lB⟩)
    | (clear M3; go_at_call 21; refine (swks_any w4).mono ?_; rintro e w5 ⟨rfl, l5⟩; have E5 : Hid (Lf w5 q key round gA hA pA [] nm0 SA0 ∧ Lf w5 q key2 round gB hB pB [] nm0 SB0 ∧ (∀ b, SA0 b → ¬ SB0 b) ∧ (∀ b, SA0 b ∨ SB0 b → w2.heap.size ≤ b) ∧ Below w2.heap.size w2 w5) := ⟨(xA.later lB).later l5, xB.later l5, fun b h1 h2 => by have := xA.lt b h1; have := sB b h2; omega, fun b hb => hb.elim (sA b) (fun e => Nat.le_trans lA.size (sB b e)), below_chain (below_chain lA lB lA.size) l5 (Nat.le_trans lA.size lB.size)⟩; clear xA sA lA xB sB lB l5)
    | (clear M4; go_at_call 18; refine (len_L E5.out.1).mono ?_; rintro e _ ⟨rfl, rfl⟩))
  go_loopw [16] (fun i wr => ∃ (m : Nat) (l : List Ax) (nm : Nm) (SA SB : Nat → Prop), m ≤ ns ∧ i = .int .i64 (m : Int) ∧ Bnd q l nm m ∧ Lf wr q key round gA hA pA l nm SA ∧ Lf wr q key2 round gB hB pB l nm SB ∧ (∀ b, SA b → ¬ SB b) ∧ (∀ b, SA b ∨ SB b → w2.heap.size ≤ b) ∧ Below w2.heap.size w2 wr) (fun i _ => ns - (intOf i).toNat)
  case atStart => exact ⟨0, [], nm0, SA0, SB0, Nat.zero_le _, rfl, ⟨Nat.le_refl _, Nat.zero_le _, Nat.le_refl _, Nat.le_refl _⟩, E5.out⟩
  case round =>
    obtain ⟨m, l, nm, SA, SB, hm, rfl, hbn, hxA, hxB, hdj, hge, hbw⟩ := hrel
    have Y : Hid (Bnd q l nm m ∧ Lf wr q key round gA hA pA l nm SA ∧ Lf wr q key2 round gB hB pB l nm SB ∧ (∀ b, SA b → ¬ SB b) ∧ (∀ b, SA b ∨ SB b → w2.heap.size ≤ b) ∧ Below w2.heap.size w2 wr) := ⟨hbn, hxA, hxB, hdj, hge, hbw⟩
    have c43 : wr.cell? ⟨w.heap.size, 43, none⟩ = some (.slice so ns sc) := (hbw.cell (p := ⟨w.heap.size, 43, none⟩) D2.out.2.2.2.1).trans ((D2.out.1.cell 43).trans HC43.out)
    clear hbn hxA hxB hdj hge hbw
    have fin : ∀ (K : Prop), True := fun _ => trivial
    by_cases hn0 : q.n = 0
    · have hq0 : (q.n : Int) = 0 := by omega
      have j1 : (m : Int) < (ns : Int) ∨ ¬ (m : Int) < (ns : Int) := by omega
      have T1 : Hid True := trivial
      have T2 : Hid True := trivial
      have T3 : Hid True := trivial
      have T4 : Hid True := trivial
      have T5 : Hid True := trivial
      have T6 : Hid True := trivial
      clear fin
      rcases j1 with j1 | j1
      all_goals

        go_wp2_with (first
          | (clear T1; go_at_call 20; refine (slog_L Y.out.2.1 (by have := Y.out.1.l; omega)).mono ?_; rintro e x1 ⟨v1, rfl, u1, k1⟩)
          | (clear T2; go_at_call 20; refine (slog_L (Y.out.2.2.1.later k1) (by have := Y.out.1.l; omega)).mono ?_; rintro e x2 ⟨v2, rfl, u2, k2⟩))
        go_at_call 32
        refine (sameAxs_yes v1 v2 l x2 (u1.later k2) u2 (by have := Y.out.1.l; omega)).mono ?_
        rintro e x3 ⟨rfl, qd, hx3⟩
        have X3 : Hid (Below w2.heap.size w2 x3 ∧ Below wr.heap.size wr x3) := by
          have h2 := below_chain k1 k2 k1.size
          have h3 : Below wr.heap.size wr x3 := by rw [hx3]; exact below_dn h2 _
          exact ⟨below_chain Y.out.2.2.2.2.2 h3 Y.out.2.2.2.2.2.size, h3⟩
        clear u1 u2 k1 k2 hx3
        go_wp2_with (first
          | (clear T4; go_at_call 16; refine (hlog_L (Y.out.2.1.later X3.out.2)).mono ?_; rintro e x4 ⟨v4, rfl, u4, k4⟩)
          | (clear T5; go_at_call 16; refine (hlog_L ((Y.out.2.2.1.later X3.out.2).later k4)).mono ?_; rintro e x5 ⟨v5, rfl, u5, k5⟩))
        go_at_call 33
        refine (sameTouches_yes v4 v5 nm.log x5 (u4.later k5) u5 (by have := Y.out.1.log; omega)).mono ?_
        rintro e x6 ⟨rfl, qd2, hx6⟩
        go_wp2
        go_ret
        exact ⟨rfl, below_chain D2.out.2.2.1 (below_dn (below_chain (below_chain X3.out.1 k4 X3.out.1.size) k5 (Nat.le_trans X3.out.1.size k4.size)) _) D2.out.2.2.1.size⟩

    · have i1 : (0 : Int) < (q.n : Int) := by omega
      by_cases hlt : m < ns
      · have j2 : (m : Int) < (ns : Int) := by omega
        have j3 : (0 : Int) ≤ (m : Int) := by omega
        obtain ⟨x, hx⟩ : ∃ x, ops.getD m default = x := ⟨_, rfl⟩
        have LW : Hid (Below w.heap.size w wr) := below_chain D2.out.2.2.1 Y.out.2.2.2.2.2 D2.out.2.2.1.size
        obtain ⟨og, of, bo, c, he, hog, hrg0, hsb⟩ := HW.out.1.cells m (by rw [HW.out.2.1]; exact hlt)
        have hrg := range_later hrg0 hog LW.out
        clear hrg0
        subst he
        rw [hx] at hrg hsb
        obtain ⟨ki, wi, ii, ji, bs⟩ := x
        obtain ⟨bl, hbl⟩ : ∃ n, bs.length = n := ⟨_, rfl⟩
        have R0 : Hid (wr.rangeAt og (of + m * 5) (oprC ⟨ki, wi, ii, ji, bs⟩ (.slice bo bl c)) ∧ Seen w bo bl bs) := ⟨by rw [← hbl]; exact hrg, by rw [← hbl]; exact hsb⟩
        clear hx hrg hsb hog hbl
        obtain ⟨y, hy⟩ : ∃ y, wiN ii q.n = y := ⟨_, rfl⟩
        obtain ⟨z, hz⟩ : ∃ z, wiN ji q.n = z := ⟨_, rfl⟩
        have hqn : q.n ≤ 9600 := Nat.le_trans QF.out.n (Nat.mul_le_mul QF.out.pg.2 QF.out.per.2.2.1)
        have WY : Hid (∀ W, Calls Tryz.prog 10 #[.int .i64 ii, .int .i64 (q.n : Int)] W fun e w' => e = .returned (.int .i64 (y : Int)) ∧ W = w') := fun W => by rw [← hy]; exact within_is ii q.n (by omega) (by omega) W
        have WZ : Hid (∀ W, Calls Tryz.prog 10 #[.int .i64 ji, .int .i64 (q.n : Int)] W fun e w' => e = .returned (.int .i64 (z : Int)) ∧ W = w') := fun W => by rw [← hz]; exact within_is ji q.n (by omega) (by omega) W
        have YZ : Hid (y < q.n ∧ z < q.n ∧ q.sz ≤ 4096) := ⟨by rw [← hy]; exact wiN_lt ii q.n (by omega), by rw [← hz]; exact wiN_lt ji q.n (by omega), by have := QF.out.sz.2; have := QF.out.tx.2; omega⟩
        clear hy hz hqn fin
        have O1 : Hid True := trivial
        have O2 : Hid True := trivial
        have O3 : Hid True := trivial
        have O4 : Hid True := trivial
        have O5 : Hid True := trivial
        have O6 : Hid True := trivial
        have O7 : Hid True := trivial
        have O8 : Hid True := trivial
        have O9 : Hid True := trivial
        have O10 : Hid True := trivial
        have G1 : Hid True := trivial
        have G2 : Hid True := trivial
        have P1 : Hid True := trivial
        have P2 : Hid True := trivial
        by_cases hon : m < on
        · obtain ⟨pg, po, bo2, bc2, he2, hpl0, hpc0, hps, _⟩ := HW.out.2.2.cells m hon
          have hpl : pg < wr.heap.size := Nat.lt_of_lt_of_le hpl0 LW.out.size
          have hpc := (LW.out.cell (p := ⟨pg, po + m, none⟩) hpl0).trans hpc0
          clear hpc0
          subst he2
          obtain ⟨b2, hb2⟩ : ∃ b, pss.getD m [] = b := ⟨_, rfl⟩
          rw [hb2] at hpc hps
          obtain ⟨bn, hbn⟩ : ∃ n, b2.length = n := ⟨_, rfl⟩
          rw [hbn] at hpc hps
          have i5 : (m : Int) < (on : Int) := by omega
          have P2 : Hid (Seen w bo2 bn b2) := hps
          clear hps hb2 hbn
          have NA : Hid (∀ b, wr.heap.size ≤ b → ¬ SA b ∧ ¬ SB b) := fun b hb => ⟨fun e => by have := Y.out.2.1.lt b e; omega, fun e => by have := Y.out.2.2.1.lt b e; omega⟩
          have FACTS : Hid (∀ w6 w7 : World, Below wr.heap.size wr w6 → w6.heap.size = wr.heap.size + 1 → w7.heap.size = w6.heap.size → Blk w7 wr.heap.size 68 (oprC ⟨ki, wi, ii, ji, bs⟩ (.slice bo bl c)) → Kept (fun k => k = wr.heap.size) w6 w7 → ((w7.alloc (Obj.cells #[.slice bo2 bn bc2] 66)).cell? ⟨wr.heap.size, 0, none⟩ = some (.int .i64 ki) ∧ (w7.alloc (Obj.cells #[.slice bo2 bn bc2] 66)).cell? ⟨wr.heap.size, 2, none⟩ = some (.int .i64 ii) ∧ (w7.alloc (Obj.cells #[.slice bo2 bn bc2] 66)).cell? ⟨wr.heap.size, 3, none⟩ = some (.int .i64 ji) ∧ (w7.alloc (Obj.cells #[.slice bo2 bn bc2] 66)).cell? ⟨wr.heap.size, 4, none⟩ = some (.slice bo bl c) ∧ (w7.alloc (Obj.cells #[.slice none 0 0] 66)).cell? ⟨pg, po + m, none⟩ = some (.slice bo2 bn bc2) ∧ (w7.alloc (Obj.cells #[.slice none 0 0] 66)).frozen? ⟨wr.heap.size + 1, 0, none⟩ = false ∧ (w7.alloc (Obj.cells #[.slice none 0 0] 66)).cell? ⟨wr.heap.size + 1, 0, none⟩ = some (.slice none 0 0) ∧ (Below wr.heap.size wr (w7.alloc (Obj.cells #[.slice bo2 bn bc2] 66)) ∧ Blk (w7.alloc (Obj.cells #[.slice bo2 bn bc2] 66)) (wr.heap.size + 1) 66 [.slice bo2 bn bc2] ∧ Blk (w7.alloc (Obj.cells #[.slice bo2 bn bc2] 66)) wr.heap.size 68 (oprC ⟨ki, wi, ii, ji, bs⟩ (.slice bo bl c))) ∧ Below w.heap.size w (w7.alloc (Obj.cells #[.slice bo2 bn bc2] 66)) ∧ Duo w2 (w7.alloc (Obj.cells #[.slice bo2 bn bc2] 66)) q key key2 round gA hA pA gB hB pB l l nm nm SA SB ∧ (w7.alloc (Obj.cells #[.slice bo2 bn bc2] 66)).cell? ⟨wr.heap.size + 1, 0, none⟩ = some (.slice bo2 bn bc2) ∧ wr.heap.size + 1 < (w7.alloc (Obj.cells #[.slice bo2 bn bc2] 66)).heap.size)) := by
            intro w6 w7 l6 s6 s7 b7 k7
            have z7 : w7.heap.size = wr.heap.size + 1 := by omega
            have l8 : Below w7.heap.size w7 (w7.alloc (Obj.cells #[.slice none 0 0] 66)) := (Below.refl _ _).alloc (Nat.le_refl _) _
            have b8 : Blk (w7.alloc (Obj.cells #[.slice none 0 0] 66)) (wr.heap.size + 1) 66 [.slice none 0 0] := by rw [← z7]; exact heap_alloc_new w7 _
            have B8 : Blk (w7.alloc (Obj.cells #[.slice none 0 0] 66)) wr.heap.size 68 (oprC ⟨ki, wi, ii, ji, bs⟩ (.slice bo bl c)) := b7.later l8 b7.lt
            have h9 : Below w7.heap.size w7 (w7.alloc (Obj.cells #[.slice bo2 bn bc2] 66)) := (Below.refl _ _).alloc (Nat.le_refl _) _
            have BW : Blk (w7.alloc (Obj.cells #[.slice bo2 bn bc2] 66)) wr.heap.size 68 (oprC ⟨ki, wi, ii, ji, bs⟩ (.slice bo bl c)) := b7.later h9 b7.lt
            have h1 : Below wr.heap.size wr w7 := below_chain l6 (k7.below (B := wr.heap.size) l6.size (fun b e => by omega)) (Nat.le_refl _)
            have h2 : Below wr.heap.size wr (w7.alloc (Obj.cells #[.slice none 0 0] 66)) := below_chain h1 l8 h1.size
            have h3 : Below wr.heap.size wr (w7.alloc (Obj.cells #[.slice bo2 bn bc2] 66)) := below_chain h1 h9 h1.size
            have b9 : Blk (w7.alloc (Obj.cells #[.slice bo2 bn bc2] 66)) (wr.heap.size + 1) 66 [.slice bo2 bn bc2] := by rw [← z7]; exact heap_alloc_new w7 _
            exact ⟨BW.cell 0, BW.cell 2, BW.cell 3, BW.cell 4, (h2.cell (p := ⟨pg, po + m, none⟩) hpl).trans hpc, b8.frozen 0, b8.cell 0, ⟨h3, b9, BW⟩, below_chain LW.out h3 LW.out.size, Duo.later Y.out.2 h3, b9.cell 0, b9.lt⟩
          go_wp2_with (first
            | (clear O1; refine wpList_load_mid rfl 68 _ rfl og (of + m * 5) rfl (oprC ⟨ki, wi, ii, ji, bs⟩ (.slice bo bl c)) _ R0.out.1 Tryz.underlying68 rfl (sizeOp15 _ _) ?_)
            | (clear O2; refine wpList_alloc_new rfl 68 rfl 5 _ zeroOp15 ?_; intro w6 b6 s6 l6)
            | (clear O3; refine wpList_store_blk rfl 68 68 _ _ rfl _ rfl _ (oprC ⟨ki, wi, ii, ji, bs⟩ (.slice bo bl c)) rfl b6 rfl (sizeOp15 _ _) (opr_one _ _ _ _) ?_; intro w7 b7 s7 k7; obtain ⟨C0, C2, C3, C4, P8, F8, E8, R8, R9a, DUa, CBa⟩ := FACTS.out w6 w7 l6 s6 s7 b7 k7; have R9 : Hid (Below w.heap.size w (w7.alloc (Obj.cells #[.slice bo2 bn bc2] 66))) := R9a; have DU : Hid (Duo w2 (w7.alloc (Obj.cells #[.slice bo2 bn bc2] 66)) q key key2 round gA hA pA gB hB pB l l nm nm SA SB) := DUa; have CB : Hid ((w7.alloc (Obj.cells #[.slice bo2 bn bc2] 66)).cell? ⟨wr.heap.size + 1, 0, none⟩ = some (.slice bo2 bn bc2) ∧ wr.heap.size + 1 < (w7.alloc (Obj.cells #[.slice bo2 bn bc2] 66)).heap.size) := CBa; clear R8 R9a DUa CBa l6 b6 b7 k7)
            | (clear O5; go_at_call 10; refine (WY.out _).mono ?_; rintro e _ ⟨rfl, rfl⟩)
            | (clear O6; go_at_call 10; refine (WZ.out _).mono ?_; rintro e _ ⟨rfl, rfl⟩)
            | (clear O7; go_at_call 23; refine (sized_any bo bl c q.sz bs (w7.alloc (Obj.cells #[.slice bo2 bn bc2] 66)) (R0.out.2.later R9.out (Nat.le_refl _)) YZ.out.2.2).mono ?_; rintro e w9 ⟨he9, b9, l9⟩; obtain ⟨n8, hn8⟩ : ∃ n, (w7.alloc (Obj.cells #[.slice bo2 bn bc2] 66)).heap.size = n := ⟨_, rfl⟩; rw [hn8] at he9 b9; subst he9; have HN8 : Hid ((w7.alloc (Obj.cells #[.slice bo2 bn bc2] 66)).heap.size = n8) := hn8; clear hn8; have U9 : Hid (Duo w2 w9 q key key2 round gA hA pA gB hB pB l l nm nm SA SB) := DU.out.later l9; have E9 : Hid (w9.cell? ⟨wr.heap.size + 1, 0, none⟩ = some (.slice bo2 bn bc2) ∧ wr.heap.size + 1 < w9.heap.size) := ⟨(l9.cell (p := ⟨wr.heap.size + 1, 0, none⟩) CB.out.2).trans CB.out.1, Nat.lt_of_lt_of_le CB.out.2 l9.size⟩)
            | (clear O8; go_at_call 24; refine (set_L QF.out key round gA hA pA y m n8 q.sz (szL bs q.sz bl) l nm SA w9 U9.out.1 Y.out.1 (by omega) YZ.out.1 b9 (szL_length _ _ _) (szL_bytes R0.out.2.bytes _ _) (fun e => by have h1 := DU.out.1.lt n8 e; have h2 := HN8.out; omega)).mono ?_; rintro e w10 ⟨⟨v10, rfl⟩, SA', xA, kA, fA⟩; have D10 : Hid (Duo w2 w10 q key key2 round gA hA pA gB hB pB (l ++ [Ax.mk 1 (y : Int) 0]) l ((nm.load (q.cf [] round) (0 + y / q.per)).save (q.cf [] round) (0 + y / q.per)) nm SA' SB) := U9.out.one xA kA fA; have e10 : w10.cell? ⟨wr.heap.size + 1, 0, none⟩ = some (.slice bo2 bn bc2) := kept_cell kA _ _ E9.out.2 (NA.out _ (by omega)).1 E9.out.1; have R10 : Hid (Below w.heap.size w w10) := below_chain D2.out.2.2.1 D10.out.2.2.2.2 D2.out.2.2.1.size; clear xA kA fA b9 l9)
            | (clear O9; go_at_call 23; refine (sized_any bo2 bn bc2 q.sz b2 w10 (P2.out.later R10.out (Nat.le_refl _)) YZ.out.2.2).mono ?_; rintro e w11 ⟨rfl, b11, l11⟩; have U11 : Hid (Duo w2 w11 q key key2 round gA hA pA gB hB pB (l ++ [Ax.mk 1 (y : Int) 0]) l ((nm.load (q.cf [] round) (0 + y / q.per)).save (q.cf [] round) (0 + y / q.per)) nm SA' SB) := D10.out.later l11)
            | (clear O10; go_at_call 24; refine (set_L QF.out key2 round gB hB pB y m w10.heap.size q.sz (szL b2 q.sz bn) l nm SB w11 U11.out.2.1 Y.out.1 (by omega) YZ.out.1 b11 (szL_length _ _ _) (szL_bytes P2.out.bytes _ _) (fun e => absurd (D10.out.2.1.lt _ e) (Nat.lt_irrefl _))).mono ?_; rintro e w12 ⟨⟨v12, rfl⟩, SB', xB, kB, fB⟩; have HD12 : Hid (Duo w2 w12 q key key2 round gA hA pA gB hB pB (l ++ [Ax.mk 1 (y : Int) 0]) (l ++ [Ax.mk 1 (y : Int) 0]) ((nm.load (q.cf [] round) (0 + y / q.per)).save (q.cf [] round) (0 + y / q.per)) ((nm.load (q.cf [] round) (0 + y / q.per)).save (q.cf [] round) (0 + y / q.per)) SA' SB') := U11.out.two xB kB fB; clear xB kB fB b11 l11)
            | (clear G1; go_at_call 28; refine (get_L QF.out key round gA hA pA y m l nm SA _ DU.out.1 Y.out.1 (by omega) YZ.out.1).mono ?_; rintro e w10 ⟨⟨v10, rfl⟩, SA', xA, kA, fA⟩; have G10 : Hid (Duo w2 w10 q key key2 round gA hA pA gB hB pB (l ++ [Ax.mk 0 (y : Int) 0]) l (nm.load (q.cf [] round) (0 + y / q.per)) nm SA' SB) := DU.out.one xA kA fA; clear xA kA fA)
            | (clear G2; go_at_call 28; refine (get_L QF.out key2 round gB hB pB y m l nm SB w10 G10.out.2.1 Y.out.1 (by omega) YZ.out.1).mono ?_; rintro e w12 ⟨⟨v12, rfl⟩, SB', xB, kB, fB⟩; have GD12 : Hid (Duo w2 w12 q key key2 round gA hA pA gB hB pB (l ++ [Ax.mk 0 (y : Int) 0]) (l ++ [Ax.mk 0 (y : Int) 0]) (nm.load (q.cf [] round) (0 + y / q.per)) (nm.load (q.cf [] round) (0 + y / q.per)) SA' SB') := G10.out.two xB kB fB; clear xB kB fB))
          · have BN1 : Bnd q (l ++ [Ax.mk 1 (y : Int) 0]) ((nm.load (q.cf [] round) (0 + y / q.per)).save (q.cf [] round) (0 + y / q.per)) (m + 1) := set_bnd QF.out Y.out.1 round _ _
            exact ⟨⟨m + 1, (l ++ [Ax.mk 1 (y : Int) 0]), ((nm.load (q.cf [] round) (0 + y / q.per)).save (q.cf [] round) (0 + y / q.per)), SA', SB', by omega, by go_num, BN1, HD12.out⟩, by simp [intOf]; omega⟩
          · by_cases hyz : y = z
            · subst hyz
              refine (pairE_L DU.out.1 y YZ.out.1 30 #[]).mono ?_
              rintro e w10 ⟨⟨v10, rfl⟩, k10⟩
              have K10 : Hid (Duo w2 w10 q key key2 round gA hA pA gB hB pB l l nm nm SA SB) := DU.out.later k10
              clear k10
              go_wp2_with (go_at_call 25; refine (pairE_L K10.out.2.1 y YZ.out.1 31 _).mono ?_; rintro e w12 ⟨⟨v12, rfl⟩, k12⟩)
              exact ⟨⟨m + 1, l, nm, SA, SB, by omega, by go_num, Y.out.1.up, K10.out.later k12⟩, by simp [intOf]; omega⟩
            · have HZ : Hid (y ≠ z) := hyz
              clear hyz
              refine (pair_L QF.out key round gA hA pA y z m 30 #[] l nm SA _ DU.out.1 Y.out.1 (by omega) YZ.out.1 YZ.out.2.1 HZ.out enter_blind1 (fun A0 B0 h1 h2 b1 b3 => ⟨itX A0 q.sz, B0, by rw [itX_length]; exact h1, itX_bytes b1 _, h2, b3, fun W' hk => blind1_any W' q.sz A0 B0 h1 YZ.out.2.2⟩)).mono ?_
              rintro e w10 ⟨⟨v10, rfl⟩, SA', xA, kA, fA⟩
              have K10 : Hid (Duo w2 w10 q key key2 round gA hA pA gB hB pB (l ++ [Ax.mk 2 (y : Int) (z : Int)]) l (nm.pair (q.cf [] round) (0 + y / q.per) (0 + z / q.per)) nm SA' SB) := DU.out.one xA kA fA
              have E10 : Hid (w10.cell? ⟨wr.heap.size + 1, 0, none⟩ = some (.slice bo2 bn bc2) ∧ wr.heap.size + 1 < w10.heap.size) := ⟨kept_cell kA _ _ CB.out.2 (NA.out _ (by omega)).1 CB.out.1, Nat.lt_of_lt_of_le CB.out.2 kA.size⟩
              have R10 : Hid (Below w.heap.size w w10) := below_chain D2.out.2.2.1 K10.out.2.2.2.2 D2.out.2.2.1.size
              clear xA kA fA
              have CPB : Hid (Calls Tryz.prog 25 #[.pointer (some ⟨gB, 0, none⟩), .int .i64 (y : Int), .int .i64 (z : Int), .func (.func 31) #[] #[.pointer (some ⟨wr.heap.size + 1, 0, none⟩)]] w10 fun e w' => (∃ v, e = .returned v) ∧ ∃ S', Lf w' q key2 round gB hB pB (l ++ [⟨2, y, z⟩]) (nm.pair (q.cf [] round) (0 + y / q.per) (0 + z / q.per)) S' ∧ Kept SB w10 w' ∧ ∀ b, S' b → SB b ∨ w10.heap.size ≤ b) := pair_L QF.out key2 round gB hB pB y z m 31 #[.pointer (some ⟨wr.heap.size + 1, 0, none⟩)] l nm SB w10 K10.out.2.1 Y.out.1 (by omega) YZ.out.1 YZ.out.2.1 HZ.out enter_blind2 (fun A0 B0 h1 h2 b1 b3 => ⟨A0, itB B0 b2 (min q.sz bn), h1, b1, by rw [itB_length]; exact h2, itB_bytes b3 P2.out.bytes _, fun W' hk => blind2_any W' q.sz (wr.heap.size + 1) bn bc2 bo2 A0 B0 b2 h2 YZ.out.2.2 (Nat.lt_of_lt_of_le E10.out.2 hk.size) (kept_cell hk _ _ E10.out.2 (NA.out _ (by omega)).2 E10.out.1) (P2.out.later (below_chain R10.out (hk.below (B := w.heap.size) R10.out.size (fun b hb => by have := K10.out.2.2.2.1 b (.inr hb); have := D2.out.2.2.1.size; omega)) (Nat.le_refl _)) (Nat.le_refl _))⟩)
              go_wp2_with (go_at_call 25; refine CPB.out.mono ?_; rintro e w12 ⟨⟨v12, rfl⟩, SB', xB, kB, fB⟩)
              have BN1 : Bnd q (l ++ [Ax.mk 2 (y : Int) (z : Int)]) (nm.pair (q.cf [] round) (0 + y / q.per) (0 + z / q.per)) (m + 1) := pair_bnd QF.out Y.out.1 round _ _ _
              exact ⟨⟨m + 1, (l ++ [Ax.mk 2 (y : Int) (z : Int)]), (nm.pair (q.cf [] round) (0 + y / q.per) (0 + z / q.per)), SA', SB', by omega, by go_num, BN1, K10.out.two xB kB fB⟩, by simp [intOf]; omega⟩
          · have BN1 : Bnd q (l ++ [Ax.mk 0 (y : Int) 0]) (nm.load (q.cf [] round) (0 + y / q.per)) (m + 1) := load_bnd QF.out Y.out.1 round _ _
            exact ⟨⟨m + 1, (l ++ [Ax.mk 0 (y : Int) 0]), (nm.load (q.cf [] round) (0 + y / q.per)), SA', SB', by omega, by go_num, BN1, GD12.out⟩, by simp [intOf]; omega⟩
        · have i5 : ¬ (m : Int) < (on : Int) := by omega
          have NA : Hid (∀ b, wr.heap.size ≤ b → ¬ SA b ∧ ¬ SB b) := fun b hb => ⟨fun e => by have := Y.out.2.1.lt b e; omega, fun e => by have := Y.out.2.2.1.lt b e; omega⟩
          have FACTS : Hid (∀ w6 w7 : World, Below wr.heap.size wr w6 → w6.heap.size = wr.heap.size + 1 → w7.heap.size = w6.heap.size → Blk w7 wr.heap.size 68 (oprC ⟨ki, wi, ii, ji, bs⟩ (.slice bo bl c)) → Kept (fun k => k = wr.heap.size) w6 w7 → ((w7.alloc (Obj.cells #[.slice none 0 0] 66)).cell? ⟨wr.heap.size, 0, none⟩ = some (.int .i64 ki) ∧ (w7.alloc (Obj.cells #[.slice none 0 0] 66)).cell? ⟨wr.heap.size, 2, none⟩ = some (.int .i64 ii) ∧ (w7.alloc (Obj.cells #[.slice none 0 0] 66)).cell? ⟨wr.heap.size, 3, none⟩ = some (.int .i64 ji) ∧ (w7.alloc (Obj.cells #[.slice none 0 0] 66)).cell? ⟨wr.heap.size, 4, none⟩ = some (.slice bo bl c) ∧ (Below wr.heap.size wr (w7.alloc (Obj.cells #[.slice none 0 0] 66)) ∧ Blk (w7.alloc (Obj.cells #[.slice none 0 0] 66)) (wr.heap.size + 1) 66 [.slice none 0 0] ∧ Blk (w7.alloc (Obj.cells #[.slice none 0 0] 66)) wr.heap.size 68 (oprC ⟨ki, wi, ii, ji, bs⟩ (.slice bo bl c))) ∧ Below w.heap.size w (w7.alloc (Obj.cells #[.slice none 0 0] 66)) ∧ Duo w2 (w7.alloc (Obj.cells #[.slice none 0 0] 66)) q key key2 round gA hA pA gB hB pB l l nm nm SA SB ∧ (w7.alloc (Obj.cells #[.slice none 0 0] 66)).cell? ⟨wr.heap.size + 1, 0, none⟩ = some (.slice none 0 0) ∧ wr.heap.size + 1 < (w7.alloc (Obj.cells #[.slice none 0 0] 66)).heap.size)) := by
            intro w6 w7 l6 s6 s7 b7 k7
            have z7 : w7.heap.size = wr.heap.size + 1 := by omega
            have l8 : Below w7.heap.size w7 (w7.alloc (Obj.cells #[.slice none 0 0] 66)) := (Below.refl _ _).alloc (Nat.le_refl _) _
            have b8 : Blk (w7.alloc (Obj.cells #[.slice none 0 0] 66)) (wr.heap.size + 1) 66 [.slice none 0 0] := by rw [← z7]; exact heap_alloc_new w7 _
            have B8 : Blk (w7.alloc (Obj.cells #[.slice none 0 0] 66)) wr.heap.size 68 (oprC ⟨ki, wi, ii, ji, bs⟩ (.slice bo bl c)) := b7.later l8 b7.lt
            have h9 : Below w7.heap.size w7 (w7.alloc (Obj.cells #[.slice none 0 0] 66)) := (Below.refl _ _).alloc (Nat.le_refl _) _
            have BW : Blk (w7.alloc (Obj.cells #[.slice none 0 0] 66)) wr.heap.size 68 (oprC ⟨ki, wi, ii, ji, bs⟩ (.slice bo bl c)) := B8
            have h1 : Below wr.heap.size wr w7 := below_chain l6 (k7.below (B := wr.heap.size) l6.size (fun b e => by omega)) (Nat.le_refl _)
            have h2 : Below wr.heap.size wr (w7.alloc (Obj.cells #[.slice none 0 0] 66)) := below_chain h1 l8 h1.size
            exact ⟨BW.cell 0, BW.cell 2, BW.cell 3, BW.cell 4, ⟨h2, b8, BW⟩, below_chain LW.out h2 LW.out.size, Duo.later Y.out.2 h2, b8.cell 0, b8.lt⟩
          go_wp2_with (first
            | (clear O1; refine wpList_load_mid rfl 68 _ rfl og (of + m * 5) rfl (oprC ⟨ki, wi, ii, ji, bs⟩ (.slice bo bl c)) _ R0.out.1 Tryz.underlying68 rfl (sizeOp15 _ _) ?_)
            | (clear O2; refine wpList_alloc_new rfl 68 rfl 5 _ zeroOp15 ?_; intro w6 b6 s6 l6)
            | (clear O3; refine wpList_store_blk rfl 68 68 _ _ rfl _ rfl _ (oprC ⟨ki, wi, ii, ji, bs⟩ (.slice bo bl c)) rfl b6 rfl (sizeOp15 _ _) (opr_one _ _ _ _) ?_; intro w7 b7 s7 k7; obtain ⟨C0, C2, C3, C4, R8, R9a, DUa, CBa⟩ := FACTS.out w6 w7 l6 s6 s7 b7 k7; have R9 : Hid (Below w.heap.size w (w7.alloc (Obj.cells #[.slice none 0 0] 66))) := R9a; have DU : Hid (Duo w2 (w7.alloc (Obj.cells #[.slice none 0 0] 66)) q key key2 round gA hA pA gB hB pB l l nm nm SA SB) := DUa; have CB : Hid ((w7.alloc (Obj.cells #[.slice none 0 0] 66)).cell? ⟨wr.heap.size + 1, 0, none⟩ = some (.slice none 0 0) ∧ wr.heap.size + 1 < (w7.alloc (Obj.cells #[.slice none 0 0] 66)).heap.size) := CBa; clear R8 R9a DUa CBa l6 b6 b7 k7)
            | (clear O5; go_at_call 10; refine (WY.out _).mono ?_; rintro e _ ⟨rfl, rfl⟩)
            | (clear O6; go_at_call 10; refine (WZ.out _).mono ?_; rintro e _ ⟨rfl, rfl⟩)
            | (clear O7; go_at_call 23; refine (sized_any bo bl c q.sz bs (w7.alloc (Obj.cells #[.slice none 0 0] 66)) (R0.out.2.later R9.out (Nat.le_refl _)) YZ.out.2.2).mono ?_; rintro e w9 ⟨he9, b9, l9⟩; obtain ⟨n8, hn8⟩ : ∃ n, (w7.alloc (Obj.cells #[.slice none 0 0] 66)).heap.size = n := ⟨_, rfl⟩; rw [hn8] at he9 b9; subst he9; have HN8 : Hid ((w7.alloc (Obj.cells #[.slice none 0 0] 66)).heap.size = n8) := hn8; clear hn8; have U9 : Hid (Duo w2 w9 q key key2 round gA hA pA gB hB pB l l nm nm SA SB) := DU.out.later l9; have E9 : Hid (w9.cell? ⟨wr.heap.size + 1, 0, none⟩ = some (.slice none 0 0) ∧ wr.heap.size + 1 < w9.heap.size) := ⟨(l9.cell (p := ⟨wr.heap.size + 1, 0, none⟩) CB.out.2).trans CB.out.1, Nat.lt_of_lt_of_le CB.out.2 l9.size⟩)
            | (clear O8; go_at_call 24; refine (set_L QF.out key round gA hA pA y m n8 q.sz (szL bs q.sz bl) l nm SA w9 U9.out.1 Y.out.1 (by omega) YZ.out.1 b9 (szL_length _ _ _) (szL_bytes R0.out.2.bytes _ _) (fun e => by have h1 := DU.out.1.lt n8 e; have h2 := HN8.out; omega)).mono ?_; rintro e w10 ⟨⟨v10, rfl⟩, SA', xA, kA, fA⟩; have D10 : Hid (Duo w2 w10 q key key2 round gA hA pA gB hB pB (l ++ [Ax.mk 1 (y : Int) 0]) l ((nm.load (q.cf [] round) (0 + y / q.per)).save (q.cf [] round) (0 + y / q.per)) nm SA' SB) := U9.out.one xA kA fA; have e10 : w10.cell? ⟨wr.heap.size + 1, 0, none⟩ = some (.slice none 0 0) := kept_cell kA _ _ E9.out.2 (NA.out _ (by omega)).1 E9.out.1; have R10 : Hid (Below w.heap.size w w10) := below_chain D2.out.2.2.1 D10.out.2.2.2.2 D2.out.2.2.1.size; clear xA kA fA b9 l9)
            | (clear O9; go_at_call 23; refine (sized_any none 0 0 q.sz [] w10 (Seen.empty _ _) YZ.out.2.2).mono ?_; rintro e w11 ⟨rfl, b11, l11⟩; have U11 : Hid (Duo w2 w11 q key key2 round gA hA pA gB hB pB (l ++ [Ax.mk 1 (y : Int) 0]) l ((nm.load (q.cf [] round) (0 + y / q.per)).save (q.cf [] round) (0 + y / q.per)) nm SA' SB) := D10.out.later l11)
            | (clear O10; go_at_call 24; refine (set_L QF.out key2 round gB hB pB y m w10.heap.size q.sz (szL [] q.sz 0) l nm SB w11 U11.out.2.1 Y.out.1 (by omega) YZ.out.1 b11 (szL_length _ _ _) (szL_bytes (Seen.empty w none).bytes _ _) (fun e => absurd (D10.out.2.1.lt _ e) (Nat.lt_irrefl _))).mono ?_; rintro e w12 ⟨⟨v12, rfl⟩, SB', xB, kB, fB⟩; have HD12 : Hid (Duo w2 w12 q key key2 round gA hA pA gB hB pB (l ++ [Ax.mk 1 (y : Int) 0]) (l ++ [Ax.mk 1 (y : Int) 0]) ((nm.load (q.cf [] round) (0 + y / q.per)).save (q.cf [] round) (0 + y / q.per)) ((nm.load (q.cf [] round) (0 + y / q.per)).save (q.cf [] round) (0 + y / q.per)) SA' SB') := U11.out.two xB kB fB; clear xB kB fB b11 l11)
            | (clear G1; go_at_call 28; refine (get_L QF.out key round gA hA pA y m l nm SA _ DU.out.1 Y.out.1 (by omega) YZ.out.1).mono ?_; rintro e w10 ⟨⟨v10, rfl⟩, SA', xA, kA, fA⟩; have G10 : Hid (Duo w2 w10 q key key2 round gA hA pA gB hB pB (l ++ [Ax.mk 0 (y : Int) 0]) l (nm.load (q.cf [] round) (0 + y / q.per)) nm SA' SB) := DU.out.one xA kA fA; clear xA kA fA)
            | (clear G2; go_at_call 28; refine (get_L QF.out key2 round gB hB pB y m l nm SB w10 G10.out.2.1 Y.out.1 (by omega) YZ.out.1).mono ?_; rintro e w12 ⟨⟨v12, rfl⟩, SB', xB, kB, fB⟩; have GD12 : Hid (Duo w2 w12 q key key2 round gA hA pA gB hB pB (l ++ [Ax.mk 0 (y : Int) 0]) (l ++ [Ax.mk 0 (y : Int) 0]) (nm.load (q.cf [] round) (0 + y / q.per)) (nm.load (q.cf [] round) (0 + y / q.per)) SA' SB') := G10.out.two xB kB fB; clear xB kB fB))
          · have BN1 : Bnd q (l ++ [Ax.mk 1 (y : Int) 0]) ((nm.load (q.cf [] round) (0 + y / q.per)).save (q.cf [] round) (0 + y / q.per)) (m + 1) := set_bnd QF.out Y.out.1 round _ _
            exact ⟨⟨m + 1, (l ++ [Ax.mk 1 (y : Int) 0]), ((nm.load (q.cf [] round) (0 + y / q.per)).save (q.cf [] round) (0 + y / q.per)), SA', SB', by omega, by go_num, BN1, HD12.out⟩, by simp [intOf]; omega⟩
          · by_cases hyz : y = z
            · subst hyz
              refine (pairE_L DU.out.1 y YZ.out.1 30 #[]).mono ?_
              rintro e w10 ⟨⟨v10, rfl⟩, k10⟩
              have K10 : Hid (Duo w2 w10 q key key2 round gA hA pA gB hB pB l l nm nm SA SB) := DU.out.later k10
              clear k10
              go_wp2_with (go_at_call 25; refine (pairE_L K10.out.2.1 y YZ.out.1 31 _).mono ?_; rintro e w12 ⟨⟨v12, rfl⟩, k12⟩)
              exact ⟨⟨m + 1, l, nm, SA, SB, by omega, by go_num, Y.out.1.up, K10.out.later k12⟩, by simp [intOf]; omega⟩
            · have HZ : Hid (y ≠ z) := hyz
              clear hyz
              refine (pair_L QF.out key round gA hA pA y z m 30 #[] l nm SA _ DU.out.1 Y.out.1 (by omega) YZ.out.1 YZ.out.2.1 HZ.out enter_blind1 (fun A0 B0 h1 h2 b1 b3 => ⟨itX A0 q.sz, B0, by rw [itX_length]; exact h1, itX_bytes b1 _, h2, b3, fun W' hk => blind1_any W' q.sz A0 B0 h1 YZ.out.2.2⟩)).mono ?_
              rintro e w10 ⟨⟨v10, rfl⟩, SA', xA, kA, fA⟩
              have K10 : Hid (Duo w2 w10 q key key2 round gA hA pA gB hB pB (l ++ [Ax.mk 2 (y : Int) (z : Int)]) l (nm.pair (q.cf [] round) (0 + y / q.per) (0 + z / q.per)) nm SA' SB) := DU.out.one xA kA fA
              have E10 : Hid (w10.cell? ⟨wr.heap.size + 1, 0, none⟩ = some (.slice none 0 0) ∧ wr.heap.size + 1 < w10.heap.size) := ⟨kept_cell kA _ _ CB.out.2 (NA.out _ (by omega)).1 CB.out.1, Nat.lt_of_lt_of_le CB.out.2 kA.size⟩
              have R10 : Hid (Below w.heap.size w w10) := below_chain D2.out.2.2.1 K10.out.2.2.2.2 D2.out.2.2.1.size
              clear xA kA fA
              have CPB : Hid (Calls Tryz.prog 25 #[.pointer (some ⟨gB, 0, none⟩), .int .i64 (y : Int), .int .i64 (z : Int), .func (.func 31) #[] #[.pointer (some ⟨wr.heap.size + 1, 0, none⟩)]] w10 fun e w' => (∃ v, e = .returned v) ∧ ∃ S', Lf w' q key2 round gB hB pB (l ++ [⟨2, y, z⟩]) (nm.pair (q.cf [] round) (0 + y / q.per) (0 + z / q.per)) S' ∧ Kept SB w10 w' ∧ ∀ b, S' b → SB b ∨ w10.heap.size ≤ b) := pair_L QF.out key2 round gB hB pB y z m 31 #[.pointer (some ⟨wr.heap.size + 1, 0, none⟩)] l nm SB w10 K10.out.2.1 Y.out.1 (by omega) YZ.out.1 YZ.out.2.1 HZ.out enter_blind2 (fun A0 B0 h1 h2 b1 b3 => ⟨A0, itB B0 [] (min q.sz 0), h1, b1, by rw [itB_length]; exact h2, itB_bytes b3 (Seen.empty w none).bytes _, fun W' hk => blind2_any W' q.sz (wr.heap.size + 1) 0 0 none A0 B0 [] h2 YZ.out.2.2 (Nat.lt_of_lt_of_le E10.out.2 hk.size) (kept_cell hk _ _ E10.out.2 (NA.out _ (by omega)).2 E10.out.1) (Seen.empty _ _)⟩)
              go_wp2_with (go_at_call 25; refine CPB.out.mono ?_; rintro e w12 ⟨⟨v12, rfl⟩, SB', xB, kB, fB⟩)
              have BN1 : Bnd q (l ++ [Ax.mk 2 (y : Int) (z : Int)]) (nm.pair (q.cf [] round) (0 + y / q.per) (0 + z / q.per)) (m + 1) := pair_bnd QF.out Y.out.1 round _ _ _
              exact ⟨⟨m + 1, (l ++ [Ax.mk 2 (y : Int) (z : Int)]), (nm.pair (q.cf [] round) (0 + y / q.per) (0 + z / q.per)), SA', SB', by omega, by go_num, BN1, K10.out.two xB kB fB⟩, by simp [intOf]; omega⟩
          · have BN1 : Bnd q (l ++ [Ax.mk 0 (y : Int) 0]) (nm.load (q.cf [] round) (0 + y / q.per)) (m + 1) := load_bnd QF.out Y.out.1 round _ _
            exact ⟨⟨m + 1, (l ++ [Ax.mk 0 (y : Int) 0]), (nm.load (q.cf [] round) (0 + y / q.per)), SA', SB', by omega, by go_num, BN1, GD12.out⟩, by simp [intOf]; omega⟩

      · have j2 : ¬ (m : Int) < (ns : Int) := by omega
        have T1 : Hid True := trivial
        have T2 : Hid True := trivial
        have T3 : Hid True := trivial
        have T4 : Hid True := trivial
        have T5 : Hid True := trivial
        have T6 : Hid True := trivial


        go_wp2_with (first
          | (clear T1; go_at_call 20; refine (slog_L Y.out.2.1 (by have := Y.out.1.l; omega)).mono ?_; rintro e x1 ⟨v1, rfl, u1, k1⟩)
          | (clear T2; go_at_call 20; refine (slog_L (Y.out.2.2.1.later k1) (by have := Y.out.1.l; omega)).mono ?_; rintro e x2 ⟨v2, rfl, u2, k2⟩))
        go_at_call 32
        refine (sameAxs_yes v1 v2 l x2 (u1.later k2) u2 (by have := Y.out.1.l; omega)).mono ?_
        rintro e x3 ⟨rfl, qd, hx3⟩
        have X3 : Hid (Below w2.heap.size w2 x3 ∧ Below wr.heap.size wr x3) := by
          have h2 := below_chain k1 k2 k1.size
          have h3 : Below wr.heap.size wr x3 := by rw [hx3]; exact below_dn h2 _
          exact ⟨below_chain Y.out.2.2.2.2.2 h3 Y.out.2.2.2.2.2.size, h3⟩
        clear u1 u2 k1 k2 hx3
        go_wp2_with (first
          | (clear T4; go_at_call 16; refine (hlog_L (Y.out.2.1.later X3.out.2)).mono ?_; rintro e x4 ⟨v4, rfl, u4, k4⟩)
          | (clear T5; go_at_call 16; refine (hlog_L ((Y.out.2.2.1.later X3.out.2).later k4)).mono ?_; rintro e x5 ⟨v5, rfl, u5, k5⟩))
        go_at_call 33
        refine (sameTouches_yes v4 v5 nm.log x5 (u4.later k5) u5 (by have := Y.out.1.log; omega)).mono ?_
        rintro e x6 ⟨rfl, qd2, hx6⟩
        go_wp2
        go_ret
        exact ⟨rfl, below_chain D2.out.2.2.1 (below_dn (below_chain (below_chain X3.out.1 k4 X3.out.1.size) k5 (Nat.le_trans X3.out.1.size k4.size)) _) D2.out.2.2.1.size⟩


end Go.Proofs.YtfhieacclifihaaGreat
namespace Go.Proofs.YtfhieacclifihaaGreat
open Go.ChangeShapes Go.WideShapes Go.ChangeAt Go.RowKit Go.Deep
set_option linter.unusedVariables false
set_option linter.unusedSimpArgs false

theorem wCellsB : Tryz.prog.cellsOf 5 = 1 := by kernel_rfl
theorem wCellsL : Tryz.prog.cellsOf 66 = 1 := by kernel_rfl
theorem wCellsO : Tryz.prog.cellsOf 68 = 5 := by kernel_rfl
theorem wCellsOs : Tryz.prog.cellsOf 60 = 1 := by kernel_rfl
theorem wCellsW : Tryz.prog.cellsOf 62 = 44 := by kernel_rfl
theorem wCellsK : Tryz.prog.cellsOf 41 = 32 := by kernel_rfl
theorem wCellsA : Tryz.prog.cellsOf 59 = 2 := by kernel_rfl
theorem wCellsI : Tryz.prog.cellsOf 3 = 1 := by kernel_rfl
theorem wCellsU : Tryz.prog.cellsOf 42 = 1 := by kernel_rfl
theorem wbulk_one {H : Type} (d : DataW H) : 1 ≤ Rows.uptoBulk d := by
  cases d with
  | lit l => cases l <;> simp [Rows.uptoBulk]
  | _ => simp [Rows.uptoBulk]
theorem wbulk_length {H : Type} (l : List (DataW H)) : l.length ≤ Rows.uptoBulkAll l := by
  induction l with
  | nil => simp [Rows.uptoBulkAll]
  | cons x r ih => have := wbulk_one x; simp only [Rows.uptoBulkAll, List.length_cons]; omega
theorem wbulk_mem {H : Type} {l : List (DataW H)} {d : DataW H} (h : d ∈ l) : Rows.uptoBulk d ≤ Rows.uptoBulkAll l := by
  induction l with
  | nil => cases h
  | cons x r ih =>
    simp only [Rows.uptoBulkAll]
    rcases List.mem_cons.1 h with rfl | h
    · omega
    · have := ih h; omega
def wUnByte : Value → Int
  | .int _ z => z
  | _ => 0
theorem wbyte_wf {x : Int} (h : (Lit.int .u8 x).wf = true) : 0 ≤ x ∧ x < 256 := by
  simp [Lit.wf, IntKind.min, IntKind.max, IntKind.signed, IntKind.bits] at h
  omega
theorem wBytes_arr {H : Type} {enc : TypeId × Value → H} {W : World} {base : Nat} {sp : Nat → Bool} {held : Bool} {fuel n : Nat} {t : TypeId} {cs : List Value} {x : DataW H × List MemPlace} (ht : Tryz.prog.underlying t = some (.array n 5)) (hn : Tryz.prog.cellsOf t = n)
    (h : DataW.trod enc Tryz.prog W base sp held fuel t cs = some x) : ∃ zs : List Int, cs = u8s zs ∧ zs.length = n ∧ Bytes zs := by
  obtain ⟨xs, m, _, _, hlen, hxl, hf⟩ := DataW.trod_array ht h
  have hc : cs.length = n := hlen.trans hn
  have key : ∀ i, (hi : i < cs.length) → ∃ z, cs[i] = .int .u8 z ∧ 0 ≤ z ∧ z < 256 := by
    intro i hi
    have h1 := hf i (by omega)
    rw [wCellsB, Nat.mul_one, List.getElem?_eq_getElem (by omega)] at h1
    obtain ⟨z, hz, _, hw⟩ := DataW.trod_int Tryz.underlying5 h1
    refine ⟨z, ?_, wbyte_wf hw⟩
    rw [List.drop_eq_getElem_cons hi, List.take_succ_cons, List.take_zero] at hz
    exact (List.cons.inj hz).1
  refine ⟨cs.map wUnByte, ?_, by simpa using hc, ?_⟩
  · apply List.ext_getElem
    · simp [u8s]
    · intro i h1 h2
      obtain ⟨z, hz, _⟩ := key i h1
      simp [u8s, hz, wUnByte]
  · intro z hz
    obtain ⟨v, hv, rfl⟩ := List.mem_map.1 hz
    obtain ⟨i, hi, rfl⟩ := List.mem_iff_getElem.1 hv
    obtain ⟨z, hz, hb⟩ := key i hi
    rw [hz]; exact hb
set_option maxRecDepth 20000 in
theorem wTwo_arr {H : Type} {enc : TypeId × Value → H} {W : World} {base : Nat} {sp : Nat → Bool} {held : Bool} {fuel : Nat} {cs : List Value} {x : DataW H × List MemPlace} (h : DataW.trod enc Tryz.prog W base sp held fuel 59 cs = some x) : ∃ a b : Int, cs = [.int .i64 a, .int .i64 b] := by
  obtain ⟨xs, m, _, _, hlen, hxl, hf⟩ := DataW.trod_array Tryz.underlying59 h
  rw [wCellsA] at hlen
  obtain ⟨v0, v1, rfl⟩ : ∃ v0 v1, cs = [v0, v1] := by
    match cs, hlen with
    | [v0, v1], _ => exact ⟨v0, v1, rfl⟩
  obtain ⟨y0, y1, rfl⟩ : ∃ y0 y1, xs = [y0, y1] := by
    match xs, hxl with
    | [y0, y1], _ => exact ⟨y0, y1, rfl⟩
  · skip
    have h0 := hf 0 (by decide)
    have h1 := hf 1 (by decide)
    rw [wCellsI] at h0 h1
    simp only [Nat.zero_mul, Nat.one_mul, List.drop_zero, List.drop_succ_cons, List.take_succ_cons, List.take_zero, List.getElem?_cons_zero, List.getElem?_cons_succ] at h0 h1
    obtain ⟨a, ea, _⟩ := DataW.trod_int Tryz.underlying3 h0
    obtain ⟨b, eb, _⟩ := DataW.trod_int Tryz.underlying3 h1
    simp at ea eb
    exact ⟨a, b, by rw [ea, eb]⟩
/-- Bytes in a cell. -/
theorem wbytes_in {H : Type} {enc : TypeId × Value → H} {W : World} {fuel : Nat} {v : Value} {y : DataW H × List MemPlace} (h : DataW.trod enc Tryz.prog W 0 (fun _ => true) true fuel 66 [v] = some y)
    (hs : Rows.uptoBulk y.1 ≤ 1048576) : ∃ (so : Option Addr) (n c : Nat) (zs : List Int), v = .slice so n c ∧ Seen W so n zs ∧ n ≤ c := by
  rcases open_ints Tryz.underlying66 Tryz.underlying5 (by kernel_rfl) h with ⟨hcs, _⟩ | ⟨x, l, c, zs, hcs, _, hl, hm, hz, hx, hcell, hwz⟩
  · simp at hcs
    subst hcs
    exact ⟨none, 0, 0, [], rfl, Seen.empty _ _, by decide⟩
  · simp at hcs
    subst hcs
    have hz' : zs.length = c := by simpa using hz
    rw [hx] at hs
    have h1 := wbulk_length (lits (H := H) .u8 (zs.take l))
    simp only [Rows.uptoBulk] at hs
    simp only [lits, List.length_map, List.length_take] at h1
    simp only [lits] at hs
    exact ⟨some x, l, c, _, rfl, Seen.of_ints (by omega) hl hz' hcell hwz, hl⟩
/-- One step of a script in five cells. -/
theorem wop_in {H : Type} {enc : TypeId × Value → H} {W : World} {fuel : Nat} {cs : List Value} {y : DataW H × List MemPlace} (hl : cs.length = 5) (h : DataW.trod enc Tryz.prog W 0 (fun _ => true) true fuel 68 cs = some y) (hs : Rows.uptoBulk y.1 ≤ 1048576) :
    ∃ (o : Opr) (so : Option Addr) (c : Nat), cs = oprC o (.slice so o.b.length c) ∧ Seen W so o.b.length o.b := by
  match cs, hl with
  | [v0, v1, v2, v3, v4], _ =>
    obtain ⟨xs, n, _, rfl, _, hlen, hf⟩ := DataW.trod_struct Tryz.underlying68 h
    match xs, hlen with
    | [y0, y1, y2, y3, y4], _ =>
      have t0 : DataW.trod enc Tryz.prog W 0 (fun _ => true) true n 3 [v0] = some y0 := by simpa [wCellsI, wCellsL] using hf 0 _ rfl
      have t1 : DataW.trod enc Tryz.prog W 0 (fun _ => true) true n 3 [v1] = some y1 := by simpa [wCellsI, wCellsL] using hf 1 _ rfl
      have t2 : DataW.trod enc Tryz.prog W 0 (fun _ => true) true n 3 [v2] = some y2 := by simpa [wCellsI, wCellsL] using hf 2 _ rfl
      have t3 : DataW.trod enc Tryz.prog W 0 (fun _ => true) true n 3 [v3] = some y3 := by simpa [wCellsI, wCellsL] using hf 3 _ rfl
      have t4 : DataW.trod enc Tryz.prog W 0 (fun _ => true) true n 66 [v4] = some y4 := by simpa [wCellsI, wCellsL] using hf 4 _ rfl
      obtain ⟨a0, e0, _⟩ := DataW.trod_int Tryz.underlying3 t0
      obtain ⟨a1, e1, _⟩ := DataW.trod_int Tryz.underlying3 t1
      obtain ⟨a2, e2, _⟩ := DataW.trod_int Tryz.underlying3 t2
      obtain ⟨a3, e3, _⟩ := DataW.trod_int Tryz.underlying3 t3
      simp at e0 e1 e2 e3
      subst e0 e1 e2 e3
      obtain ⟨so, m, c, zs, rfl, s4, _⟩ := wbytes_in t4 (by simp only [Rows.uptoBulk, List.map_cons, List.map_nil, Rows.uptoBulkAll] at hs; omega)
      have hl := s4.len
      subst hl
      exact ⟨⟨a0, a1, a2, a3, zs⟩, so, c, rfl, s4⟩
theorem wops_in {H : Type} {enc : TypeId × Value → H} {W : World} {fuel : Nat} {v : Value} {y : DataW H × List MemPlace} (h : DataW.trod enc Tryz.prog W 0 (fun _ => true) true fuel 60 [v] = some y) (hs : Rows.uptoBulk y.1 ≤ 1048576) :
    ∃ so n c ops, v = .slice so n c ∧ SeenO W so ops ∧ ops.length = n ∧ n ≤ 1048575 := by
  rcases open_slice Tryz.underlying60 h with ⟨hcs, hx⟩ | h
  · simp at hcs
    subst hcs
    exact ⟨none, 0, 0, [], rfl, ⟨fun i hi => (by cases hi)⟩, rfl, by decide⟩
  · obtain ⟨a, len, cap, m, nn, D, Pl, hcs, _, hl, hm, hmm, hx, hcell⟩ := h
    simp at hcs
    subst hcs
    have hmm' : m = cap := by simpa using hmm
    rw [wCellsO] at hcell
    rw [hx] at hs
    simp only [Rows.uptoBulk] at hs
    have hlen : len ≤ 1048575 := by
      have h1 := wbulk_length ((List.range len).map D)
      simp only [List.length_map, List.length_range] at h1
      omega
    have hw : ∀ i, i < len → Rows.uptoBulk (D i) ≤ 1048576 := fun i hi => by
      have := wbulk_mem (l := (List.range len).map D) (List.mem_map.2 ⟨i, List.mem_range.2 hi, rfl⟩)
      omega
    obtain ⟨f, hf⟩ := choose_lt (n := len) (p := fun i (r : Opr) => ∃ so c, W.cells? 0 (a.add (i * 5)) 5 = some (oprC r (.slice so r.b.length c)) ∧ Seen W so r.b.length r.b) (fun i hi => by
      obtain ⟨cs', h1, h2⟩ := hcell i (by omega)
      have hl5 := (World.cells?_some h1).2.1
      obtain ⟨r, so, c, rfl, rest⟩ := wop_in hl5 h2 (hw i hi)
      exact ⟨r, so, c, h1, rest⟩)
    have hgz : ∀ i, i < len → ((List.range len).map f).getD i default = f i := fun i hi => by simp [List.getD, hi]
    have hL : ((List.range len).map f).length = len := by simp
    refine ⟨some a, len, cap, (List.range len).map f, rfl, ⟨fun i hi => ?_⟩, hL, hlen⟩
    rw [hL] at hi
    obtain ⟨b, off, spot⟩ := a
    obtain ⟨so, c, h1, hsn⟩ := hf i hi
    obtain ⟨so0, c0, g1, _⟩ := hf 0 (by omega)
    have hc0 := (World.cells?_some g1).2.2 0 (by decide)
    have hspot : spot = none := by
      have : W.cell? ⟨b, off, spot⟩ = some (.int .i64 (f 0).k) := by simpa [Addr.add, oprC] using hc0
      exact World.cell?_spot this
    subst hspot
    have hcs := (World.cells?_some h1).2.2
    rw [hgz i hi]
    have k0 := hcs 0 (by decide)
    have k1 := hcs 1 (by decide)
    have k2 := hcs 2 (by decide)
    have k3 := hcs 3 (by decide)
    have k4 := hcs 4 (by decide)
    rw [add_at, add_at] at k0 k1 k2 k3 k4
    refine ⟨b, off, so, c, rfl, World.block_lt_of_cell? _ _ k0, fun j u hj => ?_, hsn⟩
    have hj5 : j < 5 := (List.getElem?_eq_some_iff.1 hj).1
    match j, hj5 with
    | 0, _ => simp only [oprC, List.getElem?_cons_zero, Option.some.injEq] at hj; rw [← hj]; exact k0
    | 1, _ => simp only [oprC, List.getElem?_cons_zero, List.getElem?_cons_succ, Option.some.injEq] at hj; rw [← hj]; exact k1
    | 2, _ => simp only [oprC, List.getElem?_cons_zero, List.getElem?_cons_succ, Option.some.injEq] at hj; rw [← hj]; exact k2
    | 3, _ => simp only [oprC, List.getElem?_cons_zero, List.getElem?_cons_succ, Option.some.injEq] at hj; rw [← hj]; exact k3
    | 4, _ => simp only [oprC, List.getElem?_cons_zero, List.getElem?_cons_succ, Option.some.injEq] at hj; rw [← hj]; exact k4
/-- Rows of bytes. -/
theorem wrows_in {H : Type} {enc : TypeId × Value → H} {W : World} {fuel : Nat} {v : Value} {y : DataW H × List MemPlace} (h : DataW.trod enc Tryz.prog W 0 (fun _ => true) true fuel 65 [v] = some y) (hs : Rows.uptoBulk y.1 ≤ 1048576) :
    ∃ so n c pss, v = .slice so n c ∧ SeenP W so n pss ∧ n ≤ 1048575 := by
  rcases open_slice Tryz.underlying65 h with ⟨hcs, hx⟩ | h
  · simp at hcs
    subst hcs
    exact ⟨none, 0, 0, [], rfl, ⟨rfl, fun i hi => by omega⟩, by decide⟩
  · obtain ⟨a, len, cap, m, nn, D, Pl, hcs, _, hl, hm, hmm, hx, hcell⟩ := h
    simp at hcs
    subst hcs
    have hmm' : m = cap := by simpa using hmm
    rw [wCellsL] at hcell
    rw [hx] at hs
    simp only [Rows.uptoBulk] at hs
    have hlen : len ≤ 1048575 := by
      have h1 := wbulk_length ((List.range len).map D)
      simp only [List.length_map, List.length_range] at h1
      omega
    have hw : ∀ i, i < len → Rows.uptoBulk (D i) ≤ 1048576 := fun i hi => by
      have := wbulk_mem (l := (List.range len).map D) (List.mem_map.2 ⟨i, List.mem_range.2 hi, rfl⟩)
      omega
    obtain ⟨f, hf⟩ := choose_lt (n := len) (p := fun i (z : List Int) => ∃ so c, W.cells? 0 (a.add (i * 1)) 1 = some [.slice so z.length c] ∧ Seen W so z.length z ∧ z.length ≤ c) (fun i hi => by
      obtain ⟨cs', h1, h2⟩ := hcell i (by omega)
      have hl1 := (World.cells?_some h1).2.1
      match cs', hl1 with
      | [v0], _ =>
        obtain ⟨so, k, c, zs, rfl, s, hkc⟩ := wbytes_in h2 (hw i hi)
        have hl := s.len
        subst hl
        exact ⟨zs, so, c, h1, s, hkc⟩)
    have hgz : ∀ i, i < len → ((List.range len).map f).getD i [] = f i := fun i hi => by simp [List.getD, hi]
    refine ⟨some a, len, cap, (List.range len).map f, rfl, ⟨by simp, fun i hi => ?_⟩, hlen⟩
    obtain ⟨b, off, spot⟩ := a
    obtain ⟨so, c, h1, hsn, hkc⟩ := hf i hi
    obtain ⟨so0, c0, g1, _⟩ := hf 0 (by omega)
    have hc0 := (World.cells?_some g1).2.2 0 (by decide)
    have hspot : spot = none := by
      have : W.cell? ⟨b, off, spot⟩ = some (.slice so0 (f 0).length c0) := by simpa [Addr.add] using hc0
      exact World.cell?_spot this
    subst hspot
    rw [hgz i hi]
    have k0 := (World.cells?_some h1).2.2 0 (by decide)
    rw [add_at, add_at] at k0
    refine ⟨b, off, so, c, rfl, World.block_lt_of_cell? _ _ k0, by simpa using k0, hsn, hkc⟩
theorem wcut {α : Type} (l : List α) (a n : Nat) : l.drop a = (l.drop a).take n ++ l.drop (a + n) := by
  rw [← List.drop_drop]; exact (List.take_append_drop n (l.drop a)).symm
set_option maxRecDepth 20000 in
theorem wld_in {H : Type} {enc : TypeId × Value → H} {W : World} {fuel : Nat} {cs : List Value} {y : DataW H × List MemPlace} (hl : cs.length = 44) (h : DataW.trod enc Tryz.prog W 0 (fun _ => true) true fuel 62 cs = some y) (hs : Rows.uptoBulk y.1 ≤ 1048576) :
    ∃ pages text window key round fv f0 f1 n0 n1 s0 s1 so ns sc ops, cs = wldC pages text window key round fv f0 f1 n0 n1 s0 s1 (.slice so ns sc) ∧ key.length = 32 ∧ Bytes key ∧ Word round ∧ SeenO W so ops ∧ ops.length = ns ∧ ns ≤ 1048575 := by
  obtain ⟨xs, n, _, rfl, _, hlen, hf⟩ := DataW.trod_struct Tryz.underlying62 h
  match xs, hlen with
  | [y0, y1, y2, y3, y4, y5, y6, y7, y8, y9], _ =>
    have t0 : DataW.trod enc Tryz.prog W 0 (fun _ => true) true n 3 ((cs.drop 0).take 1) = some y0 := by have q : DataW.trod enc Tryz.prog W 0 (fun _ => true) true n 3 ((cs.drop 0).take (Tryz.prog.cellsOf 3)) = some y0 := hf 0 _ rfl; rw [wCellsI] at q; exact q
    have t1 : DataW.trod enc Tryz.prog W 0 (fun _ => true) true n 3 ((cs.drop 1).take 1) = some y1 := by have q : DataW.trod enc Tryz.prog W 0 (fun _ => true) true n 3 ((cs.drop 1).take (Tryz.prog.cellsOf 3)) = some y1 := hf 1 _ rfl; rw [wCellsI] at q; exact q
    have t2 : DataW.trod enc Tryz.prog W 0 (fun _ => true) true n 3 ((cs.drop 2).take 1) = some y2 := by have q : DataW.trod enc Tryz.prog W 0 (fun _ => true) true n 3 ((cs.drop 2).take (Tryz.prog.cellsOf 3)) = some y2 := hf 2 _ rfl; rw [wCellsI] at q; exact q
    have t3 : DataW.trod enc Tryz.prog W 0 (fun _ => true) true n 41 ((cs.drop 3).take 32) = some y3 := by have q : DataW.trod enc Tryz.prog W 0 (fun _ => true) true n 41 ((cs.drop 3).take (Tryz.prog.cellsOf 41)) = some y3 := hf 3 _ rfl; rw [wCellsK] at q; exact q
    have t4 : DataW.trod enc Tryz.prog W 0 (fun _ => true) true n 42 ((cs.drop 35).take 1) = some y4 := by have q : DataW.trod enc Tryz.prog W 0 (fun _ => true) true n 42 ((cs.drop 35).take (Tryz.prog.cellsOf 42)) = some y4 := hf 4 _ rfl; rw [wCellsU] at q; exact q
    have t6 : DataW.trod enc Tryz.prog W 0 (fun _ => true) true n 59 ((cs.drop 37).take 2) = some y6 := by have q : DataW.trod enc Tryz.prog W 0 (fun _ => true) true n 59 ((cs.drop 37).take (Tryz.prog.cellsOf 59)) = some y6 := hf 6 _ rfl; rw [wCellsA] at q; exact q
    have t7 : DataW.trod enc Tryz.prog W 0 (fun _ => true) true n 59 ((cs.drop 39).take 2) = some y7 := by have q : DataW.trod enc Tryz.prog W 0 (fun _ => true) true n 59 ((cs.drop 39).take (Tryz.prog.cellsOf 59)) = some y7 := hf 7 _ rfl; rw [wCellsA] at q; exact q
    have t8 : DataW.trod enc Tryz.prog W 0 (fun _ => true) true n 59 ((cs.drop 41).take 2) = some y8 := by have q : DataW.trod enc Tryz.prog W 0 (fun _ => true) true n 59 ((cs.drop 41).take (Tryz.prog.cellsOf 59)) = some y8 := hf 8 _ rfl; rw [wCellsA] at q; exact q
    have t9 : DataW.trod enc Tryz.prog W 0 (fun _ => true) true n 60 ((cs.drop 43).take 1) = some y9 := by have q : DataW.trod enc Tryz.prog W 0 (fun _ => true) true n 60 ((cs.drop 43).take (Tryz.prog.cellsOf 60)) = some y9 := hf 9 _ rfl; rw [wCellsOs] at q; exact q
    obtain ⟨a0, e0, _⟩ := DataW.trod_int Tryz.underlying3 t0
    obtain ⟨a1, e1, _⟩ := DataW.trod_int Tryz.underlying3 t1
    obtain ⟨a2, e2, _⟩ := DataW.trod_int Tryz.underlying3 t2
    obtain ⟨key, e3, hk, hkb⟩ := wBytes_arr Tryz.underlying41 wCellsK t3
    obtain ⟨r, e4, _, w4⟩ := DataW.trod_int Tryz.underlying42 t4
    obtain ⟨f0, f1, e6⟩ := wTwo_arr t6
    obtain ⟨n0, n1, e7⟩ := wTwo_arr t7
    obtain ⟨s0, s1, e8⟩ := wTwo_arr t8
    obtain ⟨fv, e5⟩ : ∃ fv, (cs.drop 36).take 1 = [fv] := by
      have hd : ((cs.drop 36).take 1).length = 1 := by rw [List.length_take, List.length_drop, hl]; decide
      match (cs.drop 36).take 1, hd with
      | [v], _ => exact ⟨v, rfl⟩
    obtain ⟨sv, e9⟩ : ∃ sv, (cs.drop 43).take 1 = [sv] := by
      have hd : ((cs.drop 43).take 1).length = 1 := by rw [List.length_take, List.length_drop, hl]; decide
      match (cs.drop 43).take 1, hd with
      | [v], _ => exact ⟨v, rfl⟩
    rw [e9] at t9
    obtain ⟨so, ns, sc, ops, rfl, h1, h2, h3⟩ := wops_in t9 (by simp only [Rows.uptoBulk, List.map_cons, List.map_nil, Rows.uptoBulkAll] at hs; omega)
    refine ⟨a0, a1, a2, key, r, fv, f0, f1, n0, n1, s0, s1, so, ns, sc, ops, ?_, hk, hkb, word_of_wf w4, h1, h2, h3⟩
    have e : cs = cs.drop 0 := rfl
    rw [e, wcut cs 0 1, e0, wcut cs 1 1, e1, wcut cs 2 1, e2, wcut cs 3 32, e3, wcut cs 35 1, e4, wcut cs 36 1, e5, wcut cs 37 2, e6, wcut cs 39 2, e7, wcut cs 41 2, e8, wcut cs 43 1, e9, List.drop_eq_nil_of_le (by omega : cs.length ≤ 43 + 1)]
    simp [wldC]
end Go.Proofs.YtfhieacclifihaaGreat
namespace Go.Proofs.YtfhieacclifihaaGreat.slotsBlind
open Go.ChangeShapes Go.WideShapes Go.ChangeAt Go.RowKit Go.Deep
set_option linter.unusedVariables false
set_option linter.unusedSimpArgs false

theorem own : ownKnob Tryz.prog.godebug = none := by kernel_rfl
theorem laidOut : laidOutB Tryz.prog = true := by kernel_rfl
theorem okWide_arr {P : Program} {W : World} {r : Reach} {base n : Nat} {t e : TypeId} {v : Value} (ht : P.underlying t = some (.array n e)) (h : Value.okWide P W r base t v) : ∃ cs, v = .agg cs := by
  unfold Value.okWide at h
  rw [ht] at h
  cases v <;> simp_all
def zK : List Int := List.replicate 32 0
def zW : Value := .agg (wldC 0 0 0 zK 0 (.slice none 0 0) 0 0 0 0 0 0 (.slice none 0 0)).toArray
def zD {H : Type} : DataW H := .agg [.lit (.int .i64 0), .lit (.int .i64 0), .lit (.int .i64 0), .agg (lits .u8 zK), .lit (.int .u64 0), .nil, .agg [.lit (.int .i64 0), .lit (.int .i64 0)], .agg [.lit (.int .i64 0), .lit (.int .i64 0)], .agg [.lit (.int .i64 0), .lit (.int .i64 0)], .nil]
set_option maxRecDepth 100000 in
theorem contract (H : Type) (enc : TypeId × Value → H) (W : World) (base : Nat) (args : Array Value) (ds gs : List (DataW H)) (before : List MemPlace)
    (hval0 : ∀ (j : Nat) t v, Tryz.f5.params[j]? = some t → args[j]? = some v → Value.okWide Tryz.prog W .any base t v)
    (hW : DataW.Whole enc Tryz.prog Tryz.f5.params.toList Rows.slotsBlindSpec.vars false W args.toList ds gs before) (hk : Rows.uptoSmall H (ds ++ gs) = true) :
    Calls Tryz.prog 5 args W fun e W' => ∃ v, e = .returned v ∧ Rows.slotsBlindSpec.post enc Tryz.prog Tryz.f5 false true false false W args v W' := by
  have hval := hval0
  have hW' := hW
  obtain ⟨p, q, hA0, hV, rfl, hfz, hnd⟩ := hW
  have hA : DataW.TrodAll enc Tryz.prog W 0 (fun _ => true) true Tryz.f5.params.toList args.toList ds p := hA0
  rw [Tryz.params5] at hA hval
  obtain ⟨v0, vs0, d0, ds0, p0, q0, hargs, rfl, rfl, h0, r0⟩ := trodAll_cons hA
  obtain ⟨v1, vs1, d1, ds1, p1, q1, rfl, rfl, rfl, h1, r1⟩ := trodAll_cons r0
  obtain ⟨v2, vs2, d2, ds2, p2, q2, rfl, rfl, rfl, h2, r2⟩ := trodAll_cons r1
  obtain ⟨rfl, rfl, rfl⟩ := trodAll_nil r2
  obtain rfl : args = #[v0, v1, v2] := by cases args; simp_all
  obtain ⟨rfl, rfl⟩ := trodVars_none hV
  have hb := of_decide_eq_true hk
  simp only [List.cons_append, List.nil_append, Rows.uptoBulkAll] at hb
  have k0 := h0
  have lt0 : ∀ x ∈ p0, x.block < W.heap.size := by obtain ⟨m, hm⟩ := k0; exact DataW.trod_lt m _ _ _ hm
  have k1 := h1
  have lt1 : ∀ x ∈ p1, x.block < W.heap.size := by obtain ⟨m, hm⟩ := k1; exact DataW.trod_lt m _ _ _ hm
  have k2 := h2
  have lt2 : ∀ x ∈ p2, x.block < W.heap.size := by obtain ⟨m, hm⟩ := k2; exact DataW.trod_lt m _ _ _ hm
  obtain ⟨cs0, rfl, hcs0⟩ := okWide_struct Tryz.underlying62 (hval 0 62 v0 rfl rfl)
  obtain ⟨pages, text, window, key, round, fv, f0, f1, n0, n1, s0, s1, so, ns, sc, ops, ec0, g1, g2, g3, g4, g5, g6⟩ : ∃ pages text window key round fv f0 f1 n0 n1 s0 s1 so ns sc ops, cs0.toList = wldC pages text window key round fv f0 f1 n0 n1 s0 s1 (.slice so ns sc) ∧ key.length = 32 ∧ Bytes key ∧ Word round ∧ SeenO W so ops ∧ ops.length = ns ∧ ns ≤ 1048575 := by
    obtain ⟨fuel, hf⟩ := h0
    exact wld_in (y := (d0, p0)) (by simpa using hcs0.trans wCellsW) (by simpa [Value.cells] using hf) (by show Rows.uptoBulk d0 ≤ 1048576; omega)
  obtain rfl : cs0 = (wldC pages text window key round fv f0 f1 n0 n1 s0 s1 (.slice so ns sc)).toArray := by rw [← ec0]
  obtain ⟨cs1, rfl⟩ := okWide_arr Tryz.underlying41 (hval 1 41 v1 rfl rfl)
  obtain ⟨z1, ez1, w1⟩ : ∃ zs : List Int, cs1.toList = u8s zs ∧ zs.length = 32 ∧ Bytes zs := by
    obtain ⟨fuel, hf⟩ := h1
    exact wBytes_arr Tryz.underlying41 wCellsK (by simpa [Value.cells] using hf)
  obtain rfl : cs1 = (u8s z1).toArray := by rw [← ez1]
  obtain ⟨a2, len2, cap2, rfl⟩ := okWide_slice Tryz.underlying65 (hval 2 65 v2 rfl rfl)
  have hbulk2 : Rows.uptoBulk d2 ≤ 1048576 := by omega
  obtain ⟨fuel2, hf2⟩ := h2
  obtain ⟨ao2, nn2, c2, pss, e2, hs2, hl2⟩ := wrows_in (y := (d2, p2)) hf2 hbulk2
  simp only [Value.slice.injEq] at e2
  obtain ⟨rfl, rfl, rfl⟩ := e2
  clear hA0 hval0 hb hk
  refine (blindLaw pages text window key round fv f0 f1 n0 n1 s0 s1 so ns sc ops z1 a2 len2 cap2 pss W g1 g2 w1.1 w1.2 g3 g4 g5 g6 hs2 hl2).mono fun e W' ⟨he, bel⟩ => ?_
  subst he
  exact ⟨_, rfl, _, _, _, [], _, [], hW', trodAll_mk1 (shut_bool Tryz.underlying4 _), (trodAll_cons_mk (Below.trod laidOut (by kernel_rfl) (of_decide_eq_true (by kernel_rfl)) k0 bel lt0) (trodAll_cons_mk (Below.trod laidOut (by kernel_rfl) (of_decide_eq_true (by kernel_rfl)) k1 bel lt1) (trodAll_cons_mk (Below.trod laidOut (by kernel_rfl) (of_decide_eq_true (by kernel_rfl)) k2 bel lt2) trodAll_mk0))), rfl, bel.frame _, fun h => by cases h⟩
set_option maxRecDepth 100000 in
theorem lifted (os : Os) (started : os.Started) (H : Type) (enc : TypeId × Value → H) (F : Stop.Interp) :
    ReturnsInHanded {} Tryz.checked os 5 .any ((Rows.OpenSpec.upto Rows.slotsBlindSpec).pre6 enc Tryz.prog Tryz.f5 Rows.slotsBlindUptoRow.domain false) (((Rows.OpenSpec.upto Rows.slotsBlindSpec).at F).post enc Tryz.prog Tryz.f5 false true false false) := by
  refine returnsInHanded_of_cond (C := Tryz.checked) (s := Rows.OpenSpec.upto Rows.slotsBlindSpec) (k := Rows.uptoSmall) rfl own started (by kernel_rfl) Tryz.func5
    (OpenSpec.witness (enc := enc) (C := Tryz.checked) (s := Rows.OpenSpec.upto Rows.slotsBlindSpec) (k := Rows.uptoSmall) rfl false ⟨#[], #[zW, .agg (u8s zK).toArray, .slice none 0 0], []⟩ 8 (by kernel_rfl) (by kernel_rfl) (by kernel_rfl)
      (x := ([zD, .agg (lits .u8 zK), .nil], [], [])) (by kernel_rfl) rfl (by kernel_rfl)) ?_
  intro W base args ds gs before hval hW _ hk _
  exact contract H enc W base args ds gs before hval hW hk
theorem proved : Rows.SlotsBlindUptoSaid :=
  OpenClaim.holds_of_cond 5 Tryz.f5 rfl rfl rfl rfl rfl rfl rfl ⟨rfl, rfl, rfl, rfl, rfl⟩ rfl rfl rfl rfl rfl (by kernel_rfl) Tryz.func5 (by kernel_rfl)
    (of_decide_eq_true (by kernel_rfl)) (by unfold Func.isWrapper; first | (rw [if_pos (by decide +kernel)]; kernel_rfl) | (rw [if_neg (by decide +kernel)]; exact ⟨rfl, rfl⟩))
    (fun os started H enc _ F => lifted os started H enc F)
end Go.Proofs.YtfhieacclifihaaGreat.slotsBlind
namespace Go.Proofs.YtfhieacclifihaaGreat
theorem slotsBlindUpto_holds : Rows.SlotsBlindUptoSaid := slotsBlind.proved
#print axioms slotsBlindUpto_holds
end Go.Proofs.YtfhieacclifihaaGreat
