/- The walk of RecordOrder. -/
import Derived.Test.YtabdjoljdefjdaaRcOrdM
import Derived.Test.YtabdjoljdefjdaaRcROrd
import Derived.Test.YtabdjoljdefjdaaRcRParse
import Derived.Test.YtabdjoljdefjdaaRInvF
namespace Go.Proofs.Ytabdjoljdefjdaa.recordOrder
open Go.RowKit
set_option linter.unusedVariables false
set_option linter.unusedSimpArgs false

theorem GdsU.nil {E : List Exp} {U : List Bool} {j : Nat} : GdsU E U j [] := trivial
theorem GdsU.nog {E : List Exp} {U : List Bool} {j : Nat} {o : Oper} {r : List Oper} (hg : o.guard = none) (hu : U.getD j true = true) (hr : GdsU E U (j + 1) r) : GdsU E U j (o :: r) := by
  refine ⟨?_, hr⟩; rw [hg]; exact hu
theorem GdsU.yes {E : List Exp} {U : List Bool} {j : Nat} {o : Oper} {r : List Oper} (k : Nat) (b : Bool) (hg : o.guard = some (k, b)) (hu : U.getD j true = true) (he : E.getD k (.val undef) = .val (.bool b)) (hr : GdsU E U (j + 1) r) : GdsU E U j (o :: r) := by
  refine ⟨?_, hr⟩; rw [hg]; exact .inl ⟨hu, he⟩
theorem GdsU.no {E : List Exp} {U : List Bool} {j : Nat} {o : Oper} {r : List Oper} (k : Nat) (b : Bool) (hg : o.guard = some (k, b)) (hu : U.getD j true = false) (hv : E.getD j (.val undef) = .val undef) (he : E.getD k (.val undef) = .val (.bool (!b)) ∨ E.getD k (.val undef) = .val undef) (hr : GdsU E U (j + 1) r) : GdsU E U j (o :: r) := by
  refine ⟨?_, hr⟩; rw [hg]; exact .inr ⟨hu, hv, he⟩
theorem last_valueS {o : Oper} {a : Act} {w : World} {K : Act → World → Prop} {Q : Exit → Act → World → Prop} (d : Option Tmp) (hdst : o.dst = d) (v : Value) (hv : (execOp a.eval o).run Try.prog w = .ok (.value v) w) (h : K (a.put d v) w) : o.wp Try.prog a w K Q := by
  unfold Oper.wp
  rw [hv]
  subst hdst
  exact h
theorem mk_xor (p q : Bool) : bits .xor .u64 (mk p) (mk q) = mk (p != q) := by cases p <;> cases q <;> decide
set_option maxRecDepth 40000 in
set_option maxHeartbeats 32000000 in
theorem walk_bad (ao : Option Addr) (n c : Nat) (xs : List Int) (bo : Option Addr) (m d : Nat) (ys : List Int) (co : Option Addr) (l e : Nat) (zs : List Int) (w : World) (hx : Seen w ao n xs) (hn : n ≤ 140737488351232) (fa : ao = none → c = 0) (hc : n ≤ c) (hy : Seen w bo m ys) (hm : m ≤ 140737488351232) (fb : bo = none → d = 0) (hd' : m ≤ d) (hz : Seen w co l zs) (hl : l ≤ 140737488351232) (fc : co = none → e = 0) (he : l ≤ e) (hr : (isR xs && isR ys) = false) :
    Calls Try.prog 9 #[.slice ao n c, .slice bo m d, .slice co l e] w fun r w' => r = .returned (.bool true) ∧ Below w.heap.size w w' := by
  have HX : Hid (Seen w ao n xs ∧ n ≤ c ∧ xs.length = n ∧ Bytes xs ∧ n ≤ 140737488351232) := ⟨hx, hc, hx.len, hx.bytes, hn⟩
  have HY : Hid (Seen w bo m ys ∧ m ≤ d ∧ ys.length = m ∧ Bytes ys ∧ m ≤ 140737488351232) := ⟨hy, hd', hy.len, hy.bytes, hm⟩
  have HZ : Hid (Seen w co l zs ∧ l ≤ e) := ⟨hz, he⟩
  clear hx fa hc hy fb hd' hz fc he hl hn hm
  go_enter Try.func9, Try.ntmps9
  go_wp2_with fail
  refine (awake_any w).mono ?_
  rintro r w1 ⟨rfl, l1⟩
  have A1 : Hid (Below w.heap.size w w1) := l1
  clear l1
  go_wp2_with fail
  refine (ByGroup_any ao bo n m c d xs ys HX.out.2.1 HY.out.2.1 w1 (HX.out.1.later A1.out (Nat.le_refl _)) (HY.out.1.later A1.out (Nat.le_refl _))).mono ?_
  rintro r w2 ⟨rfl, l2⟩
  have A2 : Hid (Below w.heap.size w w2) := below_chain A1.out l2 A1.out.size
  clear l2 A1
  go_wp2_with fail
  refine (ByGroup_any bo ao m n d c ys xs HY.out.2.1 HX.out.2.1 w2 (HY.out.1.later A2.out (Nat.le_refl _)) (HX.out.1.later A2.out (Nat.le_refl _))).mono ?_
  rintro r w3 ⟨rfl, l3⟩
  have A3 : Hid (Below w.heap.size w w3) := below_chain A2.out l3 A2.out.size
  clear l3 A2
  go_wp2_with fail
  refine (ByGroup_any bo co m l d e ys zs HY.out.2.1 HZ.out.2 w3 (HY.out.1.later A3.out (Nat.le_refl _)) (HZ.out.1.later A3.out (Nat.le_refl _))).mono ?_
  rintro r w4 ⟨rfl, l4⟩
  have A4 : Hid (Below w.heap.size w w4) := below_chain A3.out l4 A3.out.size
  clear l4 A3
  go_wp2_with fail
  refine (ByGroup_any ao co n l c e xs zs HX.out.2.1 HZ.out.2 w4 (HX.out.1.later A4.out (Nat.le_refl _)) (HZ.out.1.later A4.out (Nat.le_refl _))).mono ?_
  rintro r w5 ⟨rfl, l5⟩
  have A5 : Hid (Below w.heap.size w w5) := below_chain A4.out l5 A4.out.size
  clear l5 A4
  go_wp2_with fail
  refine (ByGroup_any ao ao n n c c xs xs HX.out.2.1 HX.out.2.1 w5 (HX.out.1.later A5.out (Nat.le_refl _)) (HX.out.1.later A5.out (Nat.le_refl _))).mono ?_
  rintro r w6 ⟨rfl, l6⟩
  have A6 : Hid (Below w.heap.size w w6) := below_chain A5.out l6 A5.out.size
  clear l6 A5
  go_wp2_with fail
  rw [(byG_order xs ys zs).1]
  refine (order_any (byG xs ys) (byG ys xs) (byG ys zs) (byG xs zs) (byG_order xs ys zs).2.1 (byG_order xs ys zs).2.2 w6).mono ?_
  rintro r _ ⟨rfl, rfl⟩
  go_wp2_with fail
  refine (ByIndex_any ao bo n m c d xs ys HX.out.2.1 HY.out.2.1 w6 (HX.out.1.later A6.out (Nat.le_refl _)) (HY.out.1.later A6.out (Nat.le_refl _))).mono ?_
  rintro r w7 ⟨rfl, l7⟩
  have A7 : Hid (Below w.heap.size w w7) := below_chain A6.out l7 A6.out.size
  clear l7 A6
  go_wp2_with fail
  refine (ByIndex_any bo ao m n d c ys xs HY.out.2.1 HX.out.2.1 w7 (HY.out.1.later A7.out (Nat.le_refl _)) (HX.out.1.later A7.out (Nat.le_refl _))).mono ?_
  rintro r w8 ⟨rfl, l8⟩
  have A8 : Hid (Below w.heap.size w w8) := below_chain A7.out l8 A7.out.size
  clear l8 A7
  go_wp2_with fail
  refine (ByIndex_any bo co m l d e ys zs HY.out.2.1 HZ.out.2 w8 (HY.out.1.later A8.out (Nat.le_refl _)) (HZ.out.1.later A8.out (Nat.le_refl _))).mono ?_
  rintro r w9 ⟨rfl, l9⟩
  have A9 : Hid (Below w.heap.size w w9) := below_chain A8.out l9 A8.out.size
  clear l9 A8
  go_wp2_with fail
  refine (ByIndex_any ao co n l c e xs zs HX.out.2.1 HZ.out.2 w9 (HX.out.1.later A9.out (Nat.le_refl _)) (HZ.out.1.later A9.out (Nat.le_refl _))).mono ?_
  rintro r w10 ⟨rfl, l10⟩
  have A10 : Hid (Below w.heap.size w w10) := below_chain A9.out l10 A9.out.size
  clear l10 A9
  go_wp2_with fail
  refine (ByIndex_any ao ao n n c c xs xs HX.out.2.1 HX.out.2.1 w10 (HX.out.1.later A10.out (Nat.le_refl _)) (HX.out.1.later A10.out (Nat.le_refl _))).mono ?_
  rintro r w11 ⟨rfl, l11⟩
  have A11 : Hid (Below w.heap.size w w11) := below_chain A10.out l11 A10.out.size
  clear l11 A10
  go_wp2_with fail
  rw [(byI_order xs ys zs).1]
  refine (order_any (byI xs ys) (byI ys xs) (byI ys zs) (byI xs zs) (byI_order xs ys zs).2.1 (byI_order xs ys zs).2.2 w11).mono ?_
  rintro r _ ⟨rfl, rfl⟩
  go_wp2_with fail
  obtain ⟨X, eX⟩ : ∃ X, psX xs = X := ⟨_, rfl⟩
  obtain ⟨Y, eY⟩ : ∃ Y, psX ys = Y := ⟨_, rfl⟩
  have XE' : Hid (HdOk X) := eX ▸ ps_ok HX.out.2.2.2.1
  have YE' : Hid (HdOk Y) := eY ▸ ps_ok HY.out.2.2.2.1
  rcases (by cases hx : isR xs <;> cases hy : isR ys <;> simp_all : (isR xs = false ∧ isR ys = true) ∨ (isR xs = false ∧ isR ys = false) ∨ (isR xs = true ∧ isR ys = false)) with ⟨rx, ry⟩ | ⟨rx, ry⟩ | ⟨rx, ry⟩
  · clear hr
    have XE : Hid (psX xs = X ∧ psE xs = 140) := ⟨eX, by rw [psE, rx]; rfl⟩
    have YE : Hid (psX ys = Y ∧ psE ys = 0) := ⟨eY, by rw [psE, ry]; rfl⟩
    have NN : Hid (byG xs ys = false ∧ byI xs ys = false ∧ togB xs ys = false) := by refine ⟨?_, ?_, ?_⟩ <;> simp [byG, byI, togB, rx, ry]
    clear rx ry eX eY
    refine (copyB_any ao n c xs w11 (HX.out.1.later A11.out (Nat.le_refl _))).mono ?_
    rintro r w12 ⟨v12, rfl, o12, l12⟩
    obtain ⟨q12, c12, rfl, S12, f12, -, -⟩ := isO_sl HX.out.2.2.1 HX.out.2.2.2.1 (by have := HX.out.2.2.2.2; omega) o12
    have A12 : Hid (Below w.heap.size w w12 ∧ Seen w12 q12 n xs ∧ n ≤ c12) := ⟨below_chain A11.out l12 A11.out.size, S12, f12⟩
    clear o12 l12 S12 f12 A11
    go_wp2_with fail
    refine (parse_one q12 n c12 xs A12.out.2.2 w12 A12.out.2.1).mono ?_
    rintro r w13 ⟨v13, rfl, o13, l13⟩
    rw [XE.out.1, XE.out.2]
    have A13 : Hid (Below w.heap.size w w13) := below_chain A12.out.1 l13 A12.out.1.size
    clear o13 l13 A12
    go_wp2_with (first | (refine wpList_alloc_new rfl 26 rfl 20 _ hzero ?_; intro w14 bw14 sw14 lw14) | (refine wpList_store_blk rfl 26 26 _ _ rfl _ rfl _ (hdC X) rfl bw14 (by rw [hdC_length XE'.out.len]; rfl) (hsizeC XE'.out.len) (hdC_one _) ?_; intro w15 bw15 sw15 kw15; have L15 : Below w13.heap.size w13 w15 := below_kept lw14 kw15 (by omega) (fun j hj => by omega); have A15 : Hid (Below w.heap.size w w15 ∧ Blk w15 w13.heap.size 26 (hdC X)) := ⟨below_chain A13.out L15 A13.out.size, bw15⟩; clear bw14 sw14 lw14 bw15 sw15 kw15 L15 A13))
    refine (copyB_any bo m d ys w15 (HY.out.1.later A15.out.1 (Nat.le_refl _))).mono ?_
    rintro r w16 ⟨v16, rfl, o16, l16⟩
    obtain ⟨q16, c16, rfl, S16, f16, -, -⟩ := isO_sl HY.out.2.2.1 HY.out.2.2.2.1 (by have := HY.out.2.2.2.2; omega) o16
    have A16 : Hid (Below w.heap.size w w16 ∧ Blk w16 w13.heap.size 26 (hdC X) ∧ Seen w16 q16 m ys ∧ m ≤ c16) := ⟨below_chain A15.out.1 l16 A15.out.1.size, A15.out.2.later l16 A15.out.2.lt, S16, f16⟩
    clear o16 l16 S16 f16 A15
    go_wp2_with fail
    refine (parse_one q16 m c16 ys A16.out.2.2.2 w16 A16.out.2.2.1).mono ?_
    rintro r w17 ⟨v17, rfl, o17, l17⟩
    rw [YE.out.1, YE.out.2]
    have A17 : Hid (Below w.heap.size w w17 ∧ Blk w17 w13.heap.size 26 (hdC X)) := ⟨below_chain A16.out.1 l17 A16.out.1.size, A16.out.2.1.later l17 A16.out.2.1.lt⟩
    clear o17 l17 A16
    go_wp2_with (first | (refine wpList_alloc_new rfl 26 rfl 20 _ hzero ?_; intro w18 bw18 sw18 lw18) | (refine wpList_store_blk rfl 26 26 _ _ rfl _ rfl _ (hdC Y) rfl bw18 (by rw [hdC_length YE'.out.len]; rfl) (hsizeC YE'.out.len) (hdC_one _) ?_; intro w19 bw19 sw19 kw19; have L19 : Below w17.heap.size w17 w19 := below_kept lw18 kw19 (by omega) (fun j hj => by omega); have A19 : Hid (Below w.heap.size w w19 ∧ Blk w19 w13.heap.size 26 (hdC X) ∧ Blk w19 w17.heap.size 26 (hdC Y)) := ⟨below_chain A17.out.1 L19 A17.out.1.size, A17.out.2.later L19 A17.out.2.lt, bw19⟩; clear bw18 sw18 lw18 bw19 sw19 kw19 L19 A17))
    refine (ByGroup_any ao bo n m c d xs ys HX.out.2.1 HY.out.2.1 w19 (HX.out.1.later A19.out.1 (Nat.le_refl _)) (HY.out.1.later A19.out.1 (Nat.le_refl _))).mono ?_
    rintro r w20 ⟨rfl, l20⟩
    rw [NN.out.1, mk_false]
    have A20 : Hid (Below w.heap.size w w20 ∧ Blk w20 w13.heap.size 26 (hdC X) ∧ Blk w20 w17.heap.size 26 (hdC Y)) := ⟨below_chain A19.out.1 l20 A19.out.1.size, A19.out.2.1.later l20 A19.out.2.1.lt, A19.out.2.2.later l20 A19.out.2.2.lt⟩
    clear l20 A19
    go_wp2_with fail
    refine (ByIndex_any ao bo n m c d xs ys HX.out.2.1 HY.out.2.1 w20 (HX.out.1.later A20.out.1 (Nat.le_refl _)) (HY.out.1.later A20.out.1 (Nat.le_refl _))).mono ?_
    rintro r w21 ⟨rfl, l21⟩
    rw [NN.out.2.1, mk_false]
    have A21 : Hid (Below w.heap.size w w21 ∧ Blk w21 w13.heap.size 26 (hdC X) ∧ Blk w21 w17.heap.size 26 (hdC Y)) := ⟨below_chain A20.out.1 l21 A20.out.1.size, A20.out.2.1.later l21 A20.out.2.1.lt, A20.out.2.2.later l21 A20.out.2.2.lt⟩
    clear l21 A20
    go_wp2_with fail
    refine (Together_any ao bo n m c d xs ys HX.out.2.1 HY.out.2.1 w21 (HX.out.1.later A21.out.1 (Nat.le_refl _)) (HY.out.1.later A21.out.1 (Nat.le_refl _))).mono ?_
    rintro r w22 ⟨rfl, l22⟩
    rw [NN.out.2.2, mk_false]
    have A22 : Hid (Below w.heap.size w w22 ∧ Blk w22 w13.heap.size 26 (hdC X) ∧ Blk w22 w17.heap.size 26 (hdC Y)) := ⟨below_chain A21.out.1 l22 A21.out.1.size, A21.out.2.1.later l22 A21.out.2.1.lt, A21.out.2.2.later l22 A21.out.2.2.lt⟩
    clear l22 A21
    go_wp2
    go_ret
    exact ⟨rfl, A22.out.1⟩
  · clear hr
    have XE : Hid (psX xs = X ∧ psE xs = 140) := ⟨eX, by rw [psE, rx]; rfl⟩
    have YE : Hid (psX ys = Y ∧ psE ys = 140) := ⟨eY, by rw [psE, ry]; rfl⟩
    have NN : Hid (byG xs ys = false ∧ byI xs ys = false ∧ togB xs ys = false) := by refine ⟨?_, ?_, ?_⟩ <;> simp [byG, byI, togB, rx, ry]
    clear rx ry eX eY
    refine (copyB_any ao n c xs w11 (HX.out.1.later A11.out (Nat.le_refl _))).mono ?_
    rintro r w12 ⟨v12, rfl, o12, l12⟩
    obtain ⟨q12, c12, rfl, S12, f12, -, -⟩ := isO_sl HX.out.2.2.1 HX.out.2.2.2.1 (by have := HX.out.2.2.2.2; omega) o12
    have A12 : Hid (Below w.heap.size w w12 ∧ Seen w12 q12 n xs ∧ n ≤ c12) := ⟨below_chain A11.out l12 A11.out.size, S12, f12⟩
    clear o12 l12 S12 f12 A11
    go_wp2_with fail
    refine (parse_one q12 n c12 xs A12.out.2.2 w12 A12.out.2.1).mono ?_
    rintro r w13 ⟨v13, rfl, o13, l13⟩
    rw [XE.out.1, XE.out.2]
    have A13 : Hid (Below w.heap.size w w13) := below_chain A12.out.1 l13 A12.out.1.size
    clear o13 l13 A12
    go_wp2_with (first | (refine wpList_alloc_new rfl 26 rfl 20 _ hzero ?_; intro w14 bw14 sw14 lw14) | (refine wpList_store_blk rfl 26 26 _ _ rfl _ rfl _ (hdC X) rfl bw14 (by rw [hdC_length XE'.out.len]; rfl) (hsizeC XE'.out.len) (hdC_one _) ?_; intro w15 bw15 sw15 kw15; have L15 : Below w13.heap.size w13 w15 := below_kept lw14 kw15 (by omega) (fun j hj => by omega); have A15 : Hid (Below w.heap.size w w15 ∧ Blk w15 w13.heap.size 26 (hdC X)) := ⟨below_chain A13.out L15 A13.out.size, bw15⟩; clear bw14 sw14 lw14 bw15 sw15 kw15 L15 A13))
    refine (copyB_any bo m d ys w15 (HY.out.1.later A15.out.1 (Nat.le_refl _))).mono ?_
    rintro r w16 ⟨v16, rfl, o16, l16⟩
    obtain ⟨q16, c16, rfl, S16, f16, -, -⟩ := isO_sl HY.out.2.2.1 HY.out.2.2.2.1 (by have := HY.out.2.2.2.2; omega) o16
    have A16 : Hid (Below w.heap.size w w16 ∧ Blk w16 w13.heap.size 26 (hdC X) ∧ Seen w16 q16 m ys ∧ m ≤ c16) := ⟨below_chain A15.out.1 l16 A15.out.1.size, A15.out.2.later l16 A15.out.2.lt, S16, f16⟩
    clear o16 l16 S16 f16 A15
    go_wp2_with fail
    refine (parse_one q16 m c16 ys A16.out.2.2.2 w16 A16.out.2.2.1).mono ?_
    rintro r w17 ⟨v17, rfl, o17, l17⟩
    rw [YE.out.1, YE.out.2]
    have A17 : Hid (Below w.heap.size w w17 ∧ Blk w17 w13.heap.size 26 (hdC X)) := ⟨below_chain A16.out.1 l17 A16.out.1.size, A16.out.2.1.later l17 A16.out.2.1.lt⟩
    clear o17 l17 A16
    go_wp2_with (first | (refine wpList_alloc_new rfl 26 rfl 20 _ hzero ?_; intro w18 bw18 sw18 lw18) | (refine wpList_store_blk rfl 26 26 _ _ rfl _ rfl _ (hdC Y) rfl bw18 (by rw [hdC_length YE'.out.len]; rfl) (hsizeC YE'.out.len) (hdC_one _) ?_; intro w19 bw19 sw19 kw19; have L19 : Below w17.heap.size w17 w19 := below_kept lw18 kw19 (by omega) (fun j hj => by omega); have A19 : Hid (Below w.heap.size w w19 ∧ Blk w19 w13.heap.size 26 (hdC X) ∧ Blk w19 w17.heap.size 26 (hdC Y)) := ⟨below_chain A17.out.1 L19 A17.out.1.size, A17.out.2.later L19 A17.out.2.lt, bw19⟩; clear bw18 sw18 lw18 bw19 sw19 kw19 L19 A17))
    refine (ByGroup_any ao bo n m c d xs ys HX.out.2.1 HY.out.2.1 w19 (HX.out.1.later A19.out.1 (Nat.le_refl _)) (HY.out.1.later A19.out.1 (Nat.le_refl _))).mono ?_
    rintro r w20 ⟨rfl, l20⟩
    rw [NN.out.1, mk_false]
    have A20 : Hid (Below w.heap.size w w20 ∧ Blk w20 w13.heap.size 26 (hdC X) ∧ Blk w20 w17.heap.size 26 (hdC Y)) := ⟨below_chain A19.out.1 l20 A19.out.1.size, A19.out.2.1.later l20 A19.out.2.1.lt, A19.out.2.2.later l20 A19.out.2.2.lt⟩
    clear l20 A19
    go_wp2_with fail
    refine (ByIndex_any ao bo n m c d xs ys HX.out.2.1 HY.out.2.1 w20 (HX.out.1.later A20.out.1 (Nat.le_refl _)) (HY.out.1.later A20.out.1 (Nat.le_refl _))).mono ?_
    rintro r w21 ⟨rfl, l21⟩
    rw [NN.out.2.1, mk_false]
    have A21 : Hid (Below w.heap.size w w21 ∧ Blk w21 w13.heap.size 26 (hdC X) ∧ Blk w21 w17.heap.size 26 (hdC Y)) := ⟨below_chain A20.out.1 l21 A20.out.1.size, A20.out.2.1.later l21 A20.out.2.1.lt, A20.out.2.2.later l21 A20.out.2.2.lt⟩
    clear l21 A20
    go_wp2_with fail
    refine (Together_any ao bo n m c d xs ys HX.out.2.1 HY.out.2.1 w21 (HX.out.1.later A21.out.1 (Nat.le_refl _)) (HY.out.1.later A21.out.1 (Nat.le_refl _))).mono ?_
    rintro r w22 ⟨rfl, l22⟩
    rw [NN.out.2.2, mk_false]
    have A22 : Hid (Below w.heap.size w w22 ∧ Blk w22 w13.heap.size 26 (hdC X) ∧ Blk w22 w17.heap.size 26 (hdC Y)) := ⟨below_chain A21.out.1 l22 A21.out.1.size, A21.out.2.1.later l22 A21.out.2.1.lt, A21.out.2.2.later l22 A21.out.2.2.lt⟩
    clear l22 A21
    go_wp2
    go_ret
    exact ⟨rfl, A22.out.1⟩
  · clear hr
    have XE : Hid (psX xs = X ∧ psE xs = 0) := ⟨eX, by rw [psE, rx]; rfl⟩
    have YE : Hid (psX ys = Y ∧ psE ys = 140) := ⟨eY, by rw [psE, ry]; rfl⟩
    have NN : Hid (byG xs ys = false ∧ byI xs ys = false ∧ togB xs ys = false) := by refine ⟨?_, ?_, ?_⟩ <;> simp [byG, byI, togB, rx, ry]
    clear rx ry eX eY
    refine (copyB_any ao n c xs w11 (HX.out.1.later A11.out (Nat.le_refl _))).mono ?_
    rintro r w12 ⟨v12, rfl, o12, l12⟩
    obtain ⟨q12, c12, rfl, S12, f12, -, -⟩ := isO_sl HX.out.2.2.1 HX.out.2.2.2.1 (by have := HX.out.2.2.2.2; omega) o12
    have A12 : Hid (Below w.heap.size w w12 ∧ Seen w12 q12 n xs ∧ n ≤ c12) := ⟨below_chain A11.out l12 A11.out.size, S12, f12⟩
    clear o12 l12 S12 f12 A11
    go_wp2_with fail
    refine (parse_one q12 n c12 xs A12.out.2.2 w12 A12.out.2.1).mono ?_
    rintro r w13 ⟨v13, rfl, o13, l13⟩
    rw [XE.out.1, XE.out.2]
    have A13 : Hid (Below w.heap.size w w13) := below_chain A12.out.1 l13 A12.out.1.size
    clear o13 l13 A12
    go_wp2_with (first | (refine wpList_alloc_new rfl 26 rfl 20 _ hzero ?_; intro w14 bw14 sw14 lw14) | (refine wpList_store_blk rfl 26 26 _ _ rfl _ rfl _ (hdC X) rfl bw14 (by rw [hdC_length XE'.out.len]; rfl) (hsizeC XE'.out.len) (hdC_one _) ?_; intro w15 bw15 sw15 kw15; have L15 : Below w13.heap.size w13 w15 := below_kept lw14 kw15 (by omega) (fun j hj => by omega); have A15 : Hid (Below w.heap.size w w15 ∧ Blk w15 w13.heap.size 26 (hdC X)) := ⟨below_chain A13.out L15 A13.out.size, bw15⟩; clear bw14 sw14 lw14 bw15 sw15 kw15 L15 A13))
    refine (copyB_any bo m d ys w15 (HY.out.1.later A15.out.1 (Nat.le_refl _))).mono ?_
    rintro r w16 ⟨v16, rfl, o16, l16⟩
    obtain ⟨q16, c16, rfl, S16, f16, -, -⟩ := isO_sl HY.out.2.2.1 HY.out.2.2.2.1 (by have := HY.out.2.2.2.2; omega) o16
    have A16 : Hid (Below w.heap.size w w16 ∧ Blk w16 w13.heap.size 26 (hdC X) ∧ Seen w16 q16 m ys ∧ m ≤ c16) := ⟨below_chain A15.out.1 l16 A15.out.1.size, A15.out.2.later l16 A15.out.2.lt, S16, f16⟩
    clear o16 l16 S16 f16 A15
    go_wp2_with fail
    refine (parse_one q16 m c16 ys A16.out.2.2.2 w16 A16.out.2.2.1).mono ?_
    rintro r w17 ⟨v17, rfl, o17, l17⟩
    rw [YE.out.1, YE.out.2]
    have A17 : Hid (Below w.heap.size w w17 ∧ Blk w17 w13.heap.size 26 (hdC X)) := ⟨below_chain A16.out.1 l17 A16.out.1.size, A16.out.2.1.later l17 A16.out.2.1.lt⟩
    clear o17 l17 A16
    go_wp2_with (first | (refine wpList_alloc_new rfl 26 rfl 20 _ hzero ?_; intro w18 bw18 sw18 lw18) | (refine wpList_store_blk rfl 26 26 _ _ rfl _ rfl _ (hdC Y) rfl bw18 (by rw [hdC_length YE'.out.len]; rfl) (hsizeC YE'.out.len) (hdC_one _) ?_; intro w19 bw19 sw19 kw19; have L19 : Below w17.heap.size w17 w19 := below_kept lw18 kw19 (by omega) (fun j hj => by omega); have A19 : Hid (Below w.heap.size w w19 ∧ Blk w19 w13.heap.size 26 (hdC X) ∧ Blk w19 w17.heap.size 26 (hdC Y)) := ⟨below_chain A17.out.1 L19 A17.out.1.size, A17.out.2.later L19 A17.out.2.lt, bw19⟩; clear bw18 sw18 lw18 bw19 sw19 kw19 L19 A17))
    refine (ByGroup_any ao bo n m c d xs ys HX.out.2.1 HY.out.2.1 w19 (HX.out.1.later A19.out.1 (Nat.le_refl _)) (HY.out.1.later A19.out.1 (Nat.le_refl _))).mono ?_
    rintro r w20 ⟨rfl, l20⟩
    rw [NN.out.1, mk_false]
    have A20 : Hid (Below w.heap.size w w20 ∧ Blk w20 w13.heap.size 26 (hdC X) ∧ Blk w20 w17.heap.size 26 (hdC Y)) := ⟨below_chain A19.out.1 l20 A19.out.1.size, A19.out.2.1.later l20 A19.out.2.1.lt, A19.out.2.2.later l20 A19.out.2.2.lt⟩
    clear l20 A19
    go_wp2_with fail
    refine (ByIndex_any ao bo n m c d xs ys HX.out.2.1 HY.out.2.1 w20 (HX.out.1.later A20.out.1 (Nat.le_refl _)) (HY.out.1.later A20.out.1 (Nat.le_refl _))).mono ?_
    rintro r w21 ⟨rfl, l21⟩
    rw [NN.out.2.1, mk_false]
    have A21 : Hid (Below w.heap.size w w21 ∧ Blk w21 w13.heap.size 26 (hdC X) ∧ Blk w21 w17.heap.size 26 (hdC Y)) := ⟨below_chain A20.out.1 l21 A20.out.1.size, A20.out.2.1.later l21 A20.out.2.1.lt, A20.out.2.2.later l21 A20.out.2.2.lt⟩
    clear l21 A20
    go_wp2_with fail
    refine (Together_any ao bo n m c d xs ys HX.out.2.1 HY.out.2.1 w21 (HX.out.1.later A21.out.1 (Nat.le_refl _)) (HY.out.1.later A21.out.1 (Nat.le_refl _))).mono ?_
    rintro r w22 ⟨rfl, l22⟩
    rw [NN.out.2.2, mk_false]
    have A22 : Hid (Below w.heap.size w w22 ∧ Blk w22 w13.heap.size 26 (hdC X) ∧ Blk w22 w17.heap.size 26 (hdC Y)) := ⟨below_chain A21.out.1 l22 A21.out.1.size, A21.out.2.1.later l22 A21.out.2.1.lt, A21.out.2.2.later l22 A21.out.2.2.lt⟩
    clear l22 A21
    go_wp2
    go_ret
    exact ⟨rfl, A22.out.1⟩
end Go.Proofs.Ytabdjoljdefjdaa.recordOrder
