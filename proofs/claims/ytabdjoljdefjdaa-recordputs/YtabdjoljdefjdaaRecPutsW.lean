/- The walk of RecordPuts. -/
import Derived.Test.YtabdjoljdefjdaaRcSt
import Derived.Test.YtabdjoljdefjdaaRcRPut
namespace Go.Proofs.Ytabdjoljdefjdaa.recordPuts
open Go.RowKit
set_option linter.unusedVariables false
set_option linter.unusedSimpArgs false

set_option maxRecDepth 20000 in
set_option maxHeartbeats 8000000 in
theorem walk (ao : Option Addr) (m c : Nat) (bs : List Int) (h : Hd) (w : World) (hx : Seen w ao m bs) (hm : m ≤ 140737488351232) (fa : ao = none → c = 0) (hc : m ≤ c) (kh : HdOk h) :
    Calls Try.prog 5 #[.slice ao m c, .agg (hdC h).toArray] w fun e w' => e = .returned (.bool true) ∧ Below w.heap.size w w' := by
  have HK : Hid (HdOk h) := kh
  have HX : Hid (Seen w ao m bs ∧ m ≤ 140737488351232 ∧ m ≤ c ∧ bs.length = m ∧ Bytes bs) := ⟨hx, hm, hc, hx.len, hx.bytes⟩
  clear kh hx fa hc
  go_enter Try.func5, Try.ntmps5
  go_wp2_with (first | (refine wpList_box_new rfl 26 _ rfl (hdC h) rfl ?_; intro w1 b1 s1 l1))
  refine (spare_big ao m c bs w1 (HX.out.1.later l1 (Nat.le_refl _)) HX.out.2.1).mono ?_
  rintro e w2 ⟨rfl, b2, s2, l2⟩
  have hg : w.heap.size + 1 = w1.heap.size := s1.symm
  obtain ⟨g, eg⟩ : ∃ g, w1.heap.size = g := ⟨_, rfl⟩
  rw [eg] at b2 s2 l2 hg ⊢
  have A2 : Hid (Ld w w2 g bs ∧ Bk w w2 h) := ⟨⟨b2, below_chain l1 (eg ▸ l2) (by omega), by omega⟩, ⟨b1.later (eg ▸ l2) (by omega), below_chain l1 (eg ▸ l2) (by omega)⟩⟩
  have z2 : Hid (g < w2.heap.size ∧ w.heap.size + 1 = g) := ⟨by omega, hg⟩
  clear b1 s1 l1 b2 s2 l2 eg hg
  go_wp2_with (first | ((with_reducible show wpList _ _ _ (({ dst := some 12, op := _, type := _, pos := _, after := _, guard := _ } : Oper) :: _) _ _); refine wpList_load_blk rfl 26 (.tmp 3) rfl _ rfl (hdC h) _ A2.out.2.b Try.underlying26 rfl (hsizeC HK.out.len) ?_))
  rcases Nat.lt_or_ge m 26 with hn | hn
  · refine (put_short h _ m (m + 80) hn w2).mono ?_
    rintro e w3 ⟨rfl, l3⟩
    have A3 : Hid (Ld w w3 g bs ∧ Bk w w3 h) := ⟨A2.out.1.later l3, A2.out.2.later l3⟩
    clear l3 A2
    go_wp2_with (first | ((with_reducible show wpList _ _ _ (({ dst := some 16, op := _, type := _, pos := _, after := _, guard := _ } : Oper) :: _) _ _); refine wpList_load_blk rfl 26 (.tmp 3) rfl _ rfl (hdC h) _ A3.out.2.b Try.underlying26 rfl (hsizeC HK.out.len) ?_))
    refine (rput_short h ao m c bs hn w3 (HX.out.1.later A3.out.1.bel (Nat.le_refl _))).mono ?_
    rintro e w4 ⟨v4, rfl, o4, l4⟩
    obtain ⟨q4, c4, rfl, S4, -, -, -⟩ := isO_sl HX.out.2.2.2.1 HX.out.2.2.2.2 (by omega) o4
    have A4 : Hid (Ld w w4 g bs ∧ Seen w4 q4 m bs) := ⟨A3.out.1.later l4, S4⟩
    clear S4 o4 l4 A3
    go_wp2_with fail
    refine (kept_big g q4 m c4 bs w4 A4.out.1.s A4.out.2 HX.out.2.1).mono ?_
    rintro e _ ⟨rfl, qd, rfl⟩
    go_wp2
    go_ret
    exact ⟨rfl, below_dn A4.out.1.bel qd⟩
  · obtain ⟨Q, eQ⟩ : ∃ Q, hdB h ++ bs.drop 26 = Q := ⟨_, rfl⟩
    have HQ : Hid (hdB h ++ bs.drop 26 = Q ∧ Q.length = m ∧ Bytes Q) := ⟨eQ, by rw [← eQ, List.length_append, hdB_length HK.out.len, List.length_drop, HX.out.2.2.2.1]; omega, by rw [← eQ]; exact bytes_two (hdB_bytes HK.out) (fun z hz => HX.out.2.2.2.2 z (List.mem_of_mem_drop hz))⟩
    have P := put_long h HK.out g m (m + 80) bs (u8s ((List.range 80).map (fun j => markB (bs.length + j)))) hn (by omega) HX.out.2.2.2.1 w2 (by have := A2.out.1.s; rwa [spared, u8s, List.map_append] at this)
    rw [eQ] at P
    refine P.mono ?_
    clear P
    rintro e w3 ⟨rfl, b3, k3⟩
    have A3 : Hid (Ld w w3 g Q ∧ Bk w w3 h) := by
      refine ⟨⟨?_, below_kept A2.out.1.bel k3 A2.out.1.bel.size (fun j hj e => by have := z2.out; omega), A2.out.1.lt⟩, A2.out.2.kept k3 (fun j e => by have := z2.out; omega)⟩
      rw [spared, u8s, List.map_append, HQ.out.2.1]
      rw [HX.out.2.2.2.1] at b3
      exact b3
    clear b3 k3 A2 eQ
    go_wp2_with (first | ((with_reducible show wpList _ _ _ (({ dst := some 16, op := _, type := _, pos := _, after := _, guard := _ } : Oper) :: _) _ _); refine wpList_load_blk rfl 26 (.tmp 3) rfl _ rfl (hdC h) _ A3.out.2.b Try.underlying26 rfl (hsizeC HK.out.len) ?_))
    refine (rput_long h HK.out ao m c bs hn (by omega) HX.out.2.2.1 w3 (HX.out.1.later A3.out.1.bel (Nat.le_refl _))).mono ?_
    rintro e w4 ⟨v4, rfl, o4, l4⟩
    rw [HQ.out.1] at o4
    obtain ⟨q4, c4, rfl, S4, -, -, -⟩ := isO_sl HQ.out.2.1 HQ.out.2.2 (by omega) o4
    have A4 : Hid (Ld w w4 g Q ∧ Seen w4 q4 m Q) := ⟨A3.out.1.later l4, S4⟩
    clear S4 o4 l4 A3
    go_wp2_with fail
    refine (kept_big g q4 m c4 Q w4 A4.out.1.s A4.out.2 HX.out.2.1).mono ?_
    rintro e _ ⟨rfl, qd, rfl⟩
    go_wp2
    go_ret
    exact ⟨rfl, below_dn A4.out.1.bel qd⟩
end Go.Proofs.Ytabdjoljdefjdaa.recordPuts
