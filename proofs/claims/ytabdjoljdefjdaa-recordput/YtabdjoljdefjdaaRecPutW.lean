/- The walk of RecordPut. -/
import Derived.Test.YtabdjoljdefjdaaRcPutM
namespace Go.Proofs.Ytabdjoljdefjdaa.recordPut
open Go.RowKit
set_option linter.unusedVariables false
set_option linter.unusedSimpArgs false

set_option maxRecDepth 40000 in
set_option maxHeartbeats 16000000 in
theorem walk (h g : Hd) (ao : Option Addr) (m c : Nat) (bs : List Int) (w : World) (kh : HdOk h) (kg : HdOk g) (hx : Seen w ao m bs) (hm : m ≤ 140737488351232) (fa : ao = none → c = 0) (hc : m ≤ c) :
    Calls Try.prog 8 #[.agg (hdC h).toArray, .agg (hdC g).toArray, .slice ao m c] w fun e w' => e = .returned (.bool true) ∧ Below w.heap.size w w' := by
  have HX : Hid (Seen w ao m bs ∧ m ≤ 140737488351232) := ⟨hx, hm⟩
  have e1 : h.live.tmod 2 = h.live % 2 := Int.tmod_eq_emod_of_nonneg kh.live.1
  have e2 : h.flag.tmod 2 = h.flag % 2 := Int.tmod_eq_emod_of_nonneg kh.flag.1
  have e3 : g.live.tmod 2 = g.live % 2 := Int.tmod_eq_emod_of_nonneg kg.live.1
  have e4 : g.flag.tmod 2 = g.flag % 2 := Int.tmod_eq_emod_of_nonneg kg.flag.1
  obtain ⟨X, eX⟩ : ∃ X, hd2 h = X := ⟨_, rfl⟩
  obtain ⟨Y, eY⟩ : ∃ Y, hd2 g = Y := ⟨_, rfl⟩
  obtain ⟨Z, eZ⟩ : ∃ Z, hdB X ++ bs = Z := ⟨_, rfl⟩
  obtain ⟨V, eV⟩ : ∃ V, hdB Y ++ bs = V := ⟨_, rfl⟩
  have oX : HdOk X := eX ▸ hd2_ok kh
  have oY : HdOk Y := eY ▸ hd2_ok kg
  have dr : ∀ (q : Hd), HdOk q → (hdB q ++ bs).drop 26 = bs := fun q k => by rw [List.drop_append_of_le_length (by rw [hdB_length k.len]; exact Nat.le_refl _), List.drop_of_length_le (by rw [hdB_length k.len]; exact Nat.le_refl _), List.nil_append]
  have HZ : Hid (hdB X ++ bs = Z ∧ Z.length = 26 + m ∧ Bytes Z ∧ isR Z = true ∧ hdOf Z = X ∧ Z.drop 26 = bs) := ⟨eZ, by rw [← eZ, List.length_append, hdB_length oX.len, hx.len], by rw [← eZ]; exact bytes_two (hdB_bytes oX) hx.bytes, by rw [← eZ, ← eX]; exact hd2_isR kh bs, by rw [← eZ]; exact hdOf_hdB oX bs, by rw [← eZ]; exact dr X oX⟩
  have HV : Hid (hdB Y ++ bs = V ∧ V.length = 26 + m ∧ Bytes V ∧ isR V = true ∧ hdOf V = Y ∧ V.drop 26 = bs) := ⟨eV, by rw [← eV, List.length_append, hdB_length oY.len, hx.len], by rw [← eV]; exact bytes_two (hdB_bytes oY) hx.bytes, by rw [← eV, ← eY]; exact hd2_isR kg bs, by rw [← eV]; exact hdOf_hdB oY bs, by rw [← eV]; exact dr Y oY⟩
  have HO : Hid (HdOk X ∧ HdOk Y ∧ hd2 h = X ∧ hd2 g = Y) := ⟨oX, oY, eX, eY⟩
  have NY := neq_self Y oY.len
  have lX : X.live = 0 ∨ X.live = 1 := by rw [← eX]; show h.live % 2 = 0 ∨ h.live % 2 = 1; omega
  have LV : Hid (liveB Z = decide (X.live = 1)) := by
    show _ = _
    rw [liveB, HZ.out.2.2.2.1, Bool.true_and, hdV_long (isR_long HZ.out.2.2.2.1), HZ.out.2.2.2.2.1, lvB]
    rcases lX with e | e <;> rw [e] <;> decide
  clear kh kg hx hm fa hc eX eY eZ eV oX oY dr
  go_enter Try.func8, Try.ntmps8
  go_wp2_with (first | ((with_reducible show wpList _ _ _ (({ dst := some 3, op := _, type := _, pos := _, after := _, guard := _ } : Oper) :: _) _ _); refine wpList_box_new rfl 26 _ rfl (hdC h) rfl ?_; intro w1 b1 s1 l1) | ((with_reducible show wpList _ _ _ (({ dst := some 4, op := _, type := _, pos := _, after := _, guard := _ } : Oper) :: _) _ _); refine wpList_box_new rfl 26 _ rfl (hdC g) rfl ?_; intro w2 b2 s2 l2; have hp : w.heap.size < w1.heap.size := (by omega); have b1 := b1.later l2 (by omega); have l1 := below_chain l1 l2 (by omega); clear s1 s2 l2))
  refine (awake_any w2).mono ?_
  rintro e w3 ⟨rfl, l3⟩
  have K3 : Hid (Tw w w3 w1.heap.size h g) := ⟨b1.later l3 b1.lt, b2.later l3 b2.lt, below_chain l1 l3 l1.size, hp⟩
  obtain ⟨p, ep⟩ : ∃ p, w1.heap.size = p := ⟨_, rfl⟩
  rw [ep] at K3 ⊢
  clear b1 l1 b2 l3 hp ep
  go_wp2_with fail
  refine wp_region_noPanic (till_region 17 (fun W => Blk W p 26 (hdC g)) (by kernel_rfl) ?_)
  change wpTill _ _ _ _ _ _ _ _ w3.drew
  have HS : Hid (Blk w3.drew p 26 (hdC g)) := K3.out.bY.drew
  refine tTake 0 (some 15) (.pointer (some ⟨w.heap.size, 0, none⟩)) rfl rfl (by kernel_rfl) (by kernel_rfl) (by kernel_rfl) (by decide) (fun _ _ _ h => h) (by rfl) (fun W' => by go_simp) HS.out ?_
  simp only [Act.put, List.setIfInBounds_toArray, List.set_cons_zero, List.set_cons_succ]
  refine tTake 3 (some 18) (.pointer (some ⟨w.heap.size, 1, none⟩)) rfl rfl (by kernel_rfl) (by kernel_rfl) (by kernel_rfl) (by decide) (fun _ _ _ h => h) (by rfl) (fun W' => by go_simp) HS.out ?_
  simp only [Act.put, List.setIfInBounds_toArray, List.set_cons_zero, List.set_cons_succ]
  refine tTake 6 (some 21) (.pointer (some ⟨p, 0, none⟩)) rfl rfl (by kernel_rfl) (by kernel_rfl) (by kernel_rfl) (by decide) (fun _ _ _ h => h) (by rfl) (fun W' => by go_simp) HS.out ?_
  simp only [Act.put, List.setIfInBounds_toArray, List.set_cons_zero, List.set_cons_succ]
  refine tTake 9 (some 24) (.pointer (some ⟨p, 1, none⟩)) rfl rfl (by kernel_rfl) (by kernel_rfl) (by kernel_rfl) (by decide) (fun _ _ _ h => h) (by rfl) (fun W' => by go_simp) HS.out ?_
  simp only [Act.put, List.setIfInBounds_toArray, List.set_cons_zero, List.set_cons_succ]
  refine tLoad 7 (some 22) (.int .u8 g.live) rfl rfl (by kernel_rfl) (by kernel_rfl) (by kernel_rfl) (by decide) (by kernel_rfl) (by kernel_rfl) (fun _ _ _ h => h) (by rfl) (fun W' hS' => by have cx : W'.cell? ⟨p, 0, none⟩ = some (.int .u8 g.live) := hS'.cell 0; go_simp) HS.out ?_
  simp only [Act.put, List.setIfInBounds_toArray, List.set_cons_zero, List.set_cons_succ]
  refine tTake 8 (some 23) (.int .u8 (g.live % 2)) rfl rfl (by kernel_rfl) (by kernel_rfl) (by kernel_rfl) (by decide) (fun _ _ _ h => h) (by rfl) (fun W' => by go_simp) HS.out ?_
  simp only [Act.put, List.setIfInBounds_toArray, List.set_cons_zero, List.set_cons_succ]
  refine tLoad 10 (some 25) (.int .u8 g.flag) rfl rfl (by kernel_rfl) (by kernel_rfl) (by kernel_rfl) (by decide) (by kernel_rfl) (by kernel_rfl) (fun _ _ _ h => h) (by rfl) (fun W' hS' => by have cx : W'.cell? ⟨p, 1, none⟩ = some (.int .u8 g.flag) := hS'.cell 1; go_simp) HS.out ?_
  simp only [Act.put, List.setIfInBounds_toArray, List.set_cons_zero, List.set_cons_succ]
  refine tTake 11 (some 26) (.int .u8 (g.flag % 2)) rfl rfl (by kernel_rfl) (by kernel_rfl) (by kernel_rfl) (by decide) (fun _ _ _ h => h) (by rfl) (fun W' => by go_simp) HS.out ?_
  simp only [Act.put, List.setIfInBounds_toArray, List.set_cons_zero, List.set_cons_succ]
  have cl : w3.drew.cell? ⟨w.heap.size, 0, none⟩ = some (.int .u8 h.live) := K3.out.bx.drew.cell 0
  have cf : w3.drew.cell? ⟨w.heap.size, 1, none⟩ = some (.int .u8 h.flag) := K3.out.bx.drew.cell 1
  refine till_pair 1 4 (by kernel_rfl) rfl rfl (fun K hK => ?_) (fun K hK => ?_)
  · rw [if_pos (by rfl)]
    refine last_valueP (some 16) rfl (.int .u8 h.live) (by go_simp) ?_
    refine hK _ _ ⟨HS.out, ?_⟩
    clear hK K
    simp only [Act.put, List.setIfInBounds_toArray, List.set_cons_zero, List.set_cons_succ]
    refine tTake 2 (some 17) (.int .u8 (h.live % 2)) rfl rfl (by kernel_rfl) (by kernel_rfl) (by kernel_rfl) (by decide) (fun _ _ _ h => h) (by rfl) (fun W' => by go_simp) HS.out ?_
    simp only [Act.put, List.setIfInBounds_toArray, List.set_cons_zero, List.set_cons_succ]
    refine till_ready 4 (by kernel_rfl) rfl (fun K hK => ?_)
    rw [if_pos (by rfl)]
    refine last_valueP (some 19) rfl (.int .u8 h.flag) (by go_simp) ?_
    refine hK _ _ ⟨HS.out, ?_⟩
    clear hK K
    simp only [Act.put, List.setIfInBounds_toArray, List.set_cons_zero, List.set_cons_succ]
    refine tTake 5 (some 20) (.int .u8 (h.flag % 2)) rfl rfl (by kernel_rfl) (by kernel_rfl) (by kernel_rfl) (by decide) (fun _ _ _ h => h) (by rfl) (fun W' => by go_simp) HS.out ?_
    simp only [Act.put, List.setIfInBounds_toArray, List.set_cons_zero, List.set_cons_succ]
    clear cl cf
    refine tTake 12 (some 27) (.pointer (some ⟨w.heap.size, 0, none⟩)) rfl rfl (by kernel_rfl) (by kernel_rfl) (by kernel_rfl) (by decide) (fun _ _ _ h => h) (by rfl) (fun W' => by go_simp) HS.out ?_
    simp only [Act.put, List.setIfInBounds_toArray, List.set_cons_zero, List.set_cons_succ]
    refine till_ready 13 (by kernel_rfl) rfl (fun K hK => ?_)
    rw [if_pos (by rfl)]
    refine last_cellH (.tmp 27) (.tmp 17) rfl rfl w.heap.size 0 rfl (hdC h) h.live (h.live % 2) rfl K3.out.bx.drew rfl ?_
    intro y1 b1 s1 k1
    have H1 : Hid (Blk y1 p 26 (hdC g)) := HS.out.kept k1 (fun e => by have := K3.out.lt; omega)
    refine hK _ _ ⟨H1.out, ?_⟩
    clear hK K
    refine tTake 14 (some 28) (.pointer (some ⟨w.heap.size, 1, none⟩)) rfl rfl (by kernel_rfl) (by kernel_rfl) (by kernel_rfl) (by decide) (fun _ _ _ h => h) (by rfl) (fun W' => by go_simp) H1.out ?_
    simp only [Act.put, List.setIfInBounds_toArray, List.set_cons_zero, List.set_cons_succ]
    refine till_ready 15 (by kernel_rfl) rfl (fun K hK => ?_)
    rw [if_pos (by rfl)]
    refine last_cellH (.tmp 28) (.tmp 20) rfl rfl w.heap.size 1 rfl ((hdC h).set 0 (.int .u8 (h.live % 2))) h.flag (h.flag % 2) rfl b1 rfl ?_
    intro y2 b2 s2 k2
    have H2 : Hid (Blk y2 p 26 (hdC g)) := H1.out.kept k2 (fun e => by have := K3.out.lt; omega)
    refine hK _ _ ⟨H2.out, ?_⟩
    clear hK K
    refine tTake 16 (some 29) (.pointer (some ⟨p, 0, none⟩)) rfl rfl (by kernel_rfl) (by kernel_rfl) (by kernel_rfl) (by decide) (fun _ _ _ h => h) (by rfl) (fun W' => by go_simp) H2.out ?_
    simp only [Act.put, List.setIfInBounds_toArray, List.set_cons_zero, List.set_cons_succ]
    refine till_at (by kernel_rfl) ?_
    refine wpAny_ready (rs := [17]) (by kernel_rfl) (by simp) (AllReady.cons rfl (fun K hK => ?_) AllReady.nil)
    rw [if_pos (by rfl)]
    refine last_cellH (.tmp 29) (.tmp 23) rfl rfl p 0 rfl (hdC g) g.live (g.live % 2) rfl H2.out rfl ?_
    intro y3 b3 s3 k3
    refine hK _ _ ?_
    clear hK K
    refine take_op 18 (some 30) (.pointer (some ⟨p, 1, none⟩)) rfl rfl (by kernel_rfl) (by kernel_rfl) (by kernel_rfl) (fun _ _ _ h => h) (by rfl) (fun W' => by go_simp) ?_
    simp only [Act.put, List.setIfInBounds_toArray, List.set_cons_zero, List.set_cons_succ]
    refine wpAny_ready (rs := [19]) (by kernel_rfl) (by simp) (AllReady.cons rfl (fun K hK => ?_) AllReady.nil)
    rw [if_pos (by rfl)]
    refine last_cellH (.tmp 30) (.tmp 26) rfl rfl p 1 rfl ((hdC g).set 0 (.int .u8 (g.live % 2))) g.flag (g.flag % 2) rfl b3 rfl ?_
    intro y4 b4 s4 k4
    refine hK _ _ ?_
    clear hK K
    refine wpAny_done (by kernel_rfl) (NoPanic.normal ?_) _
    have K4 : Hid (Tw w y4 p X Y) := by
      have l0 := K3.out.lt
      have q0 := K3.out.bel.size
      have bx : Blk y4 w.heap.size 26 (hdC (hd2 h)) := (b2.kept k3 (fun e => by omega)).kept k4 (fun e => by omega)
      have bY : Blk y4 p 26 (hdC (hd2 g)) := b4
      rw [HO.out.2.2.1] at bx
      rw [HO.out.2.2.2] at bY
      have m1 : Below w.heap.size w y1 := below_kept (below_dn K3.out.bel 1) k1 q0 (fun j hj => by omega)
      have m2 := below_kept m1 k2 m1.size (fun j hj => by omega)
      have m3 := below_kept m2 k3 m2.size (fun j hj => by omega)
      exact ⟨bx, bY, below_kept m3 k4 m3.size (fun j hj => by omega), l0⟩
    clear b1 s1 k1 b2 s2 k2 b3 s3 k3 b4 s4 k4 H1 H2 HS K3
    go_wp2_with fail
    refine region_inv [.val (.agg (hdC X).toArray), .val (.slice ao m c), .any (isO y4.heap.size m bs) (isO_later _ _ _), .any (isO y4.heap.size (26 + m) Z) (isO_later _ _ _)] (by kernel_rfl) (by kernel_rfl) (by kernel_rfl) ?_ ?_
    · refine Steps'.cons ?_ (Steps'.cons ?_ (Steps'.cons ?_ (Steps'.cons ?_ (Steps'.one _ _ _ _ _ _ _))))
      · intro ax wx hb hs hd
        have h3 : ax.tmps.getD 3 undef = (.pointer (some ⟨w.heap.size, 0, none⟩)) := hs 3 (by kernel_rfl)
        exact Does.load 26 (.tmp 3) rfl w.heap.size 0 h3 (hdC X) _ (K4.out.bx.later hb K4.out.bx.lt).allR Try.underlying26 rfl (hsizeC HO.out.1.len)
      · intro ax wx hb hs hd
        have h2 : ax.tmps.getD 2 undef = (.slice ao m c) := hs 2 (by kernel_rfl)
        refine Does.value (.slice ao m c) ?_ rfl
        clear hs hd
        go_simp
      · intro ax wx hb hs hd
        have h32 : ax.tmps.getD 32 undef = (.slice ao m c) := hd 1 32 rfl (by kernel_rfl) (by decide)
        refine Does.call 17 #[.slice ao m c] (by clear hs hd; go_simp) ?_
        refine (copyB_any ao m c bs wx (HX.out.1.later (below_chain K4.out.bel hb K4.out.bel.size) (Nat.le_refl _))).mono ?_
        rintro e w' ⟨v, rfl, o, l⟩
        exact ⟨_, rfl, ownsRow_base o hb.size, l⟩
      · intro ax wx hb hs hd
        have h31 : ax.tmps.getD 31 undef = (.agg (hdC X).toArray) := hd 0 31 rfl (by kernel_rfl) (by decide)
        have p33 : (isO y4.heap.size m bs) (ax.tmps.getD 33 undef) wx := hd 2 33 rfl (by kernel_rfl) (by decide)
        obtain ⟨q, cq, h33, sq, _, fq, _⟩ := isO_sl HX.out.1.len HX.out.1.bytes (by have := HX.out.2; omega) p33
        clear p33
        refine Does.call 12 #[.agg (hdC X).toArray, .slice q m cq] (by clear hs hd; go_simp) ?_
        refine (make_any X HO.out.1 q m cq bs fq (by have := HX.out.2; omega) wx sq).mono ?_
        rintro e w' ⟨v, rfl, o, l⟩
        rw [HZ.out.1] at o
        exact ⟨_, rfl, isO_base o hb.size, l⟩
    · intro wx hb
      refine @Ends.val _ _ _ _ _ _ _ _ _ (.agg (hdC X).toArray) rfl ?_
      refine @Ends.val _ _ _ _ _ _ _ _ _ (.slice ao m c) rfl ?_
      refine @Ends.any _ _ _ _ _ _ _ _ _ (isO y4.heap.size m bs) (isO_later _ _ _) rfl ?_
      intro v33 p33
      refine @Ends.any _ _ _ _ _ _ _ _ _ (isO y4.heap.size (26 + m) Z) (isO_later _ _ _) rfl ?_
      intro v34 p34
      refine @Ends.one _ _ _ _ _ _ _ ?_
      simp only [Act.put, List.setIfInBounds_toArray, List.set_cons_zero, List.set_cons_succ]
      have q4 := K4.out.bY.lt
      obtain ⟨gb, cb, ev, rb, hgb, hcb⟩ : ∃ gb cb, v34 = .slice (some ⟨gb, 0, none⟩) (26 + m) cb ∧ RowAt wx gb Z ∧ p < gb ∧ 26 + m ≤ cb := by
        rcases own_len HZ.out.2.1 p34 with ⟨_, e0⟩ | ⟨gb, cb, e0, r, h1, h2, _⟩
        · omega
        · exact ⟨gb, cb, e0, r, by omega, h2⟩
      obtain ⟨rest, rb⟩ := rb
      subst ev
      have K5 : Hid (Tw w wx p X Y ∧ Blk wx gb 5 (u8s Z ++ rest) ∧ p < gb ∧ 26 + m ≤ cb) := ⟨K4.out.later hb, rb, hgb, hcb⟩
      clear p33 p34 rb hgb hcb hb q4 K4
      refine last_assign (.tmp 34) rfl (some 7) rfl (.slice (some ⟨gb, 0, none⟩) (26 + m) cb) rfl ?_
      simp only [Act.put, List.setIfInBounds_toArray, List.set_cons_zero, List.set_cons_succ]
      obtain ⟨w5, hw5⟩ : ∃ u, wx = u := ⟨_, rfl⟩
      rw [hw5] at K5 ⊢
      clear hw5
      go_wp2_with fail
      refine (copyB_any _ (26 + m) cb Z w5 (row_seen K5.out.2.1 HZ.out.2.1 HZ.out.2.2.1 (by have := HX.out.2; omega))).mono ?_
      rintro e w6 ⟨v6, rfl, o6, l6⟩
      obtain ⟨q6, c6, rfl, S6, -, -, B6⟩ := isO_sl HZ.out.2.1 HZ.out.2.2.1 (by have := HX.out.2; omega) o6
      have K6 : Hid (Tw w w6 p X Y ∧ Blk w6 gb 5 (u8s Z ++ rest) ∧ p < gb ∧ 26 + m ≤ cb ∧ Seen w6 q6 (26 + m) Z ∧ (∀ b o, q6 = some ⟨b, o, none⟩ → gb < b)) := ⟨K5.out.1.later l6, K5.out.2.1.later l6 K5.out.2.1.lt, K5.out.2.2.1, K5.out.2.2.2, S6, fun b o e => Nat.lt_of_lt_of_le K5.out.2.1.lt (B6 b o e)⟩
      clear o6 l6 S6 B6 K5
      go_wp2_with (first | ((with_reducible show wpList _ _ _ (({ dst := some 38, op := _, type := _, pos := _, after := _, guard := _ } : Oper) :: _) _ _); refine wpList_load_blk rfl 26 (.tmp 4) rfl _ rfl (hdC Y) _ K6.out.1.bY Try.underlying26 rfl (hsizeC HO.out.2.1.len) ?_))
      have P := put_long Y HO.out.2.1 gb (26 + m) cb Z rest (by omega) (by have := HX.out.2; omega) HZ.out.2.1 w6 K6.out.2.1
      rw [HZ.out.2.2.2.2.2, HV.out.1] at P
      refine P.mono ?_
      clear P
      rintro e w7 ⟨rfl, b7, k7⟩
      have K7 : Hid (Tw w w7 p X Y ∧ Blk w7 gb 5 (u8s V ++ rest) ∧ p < gb ∧ 26 + m ≤ cb ∧ Seen w7 q6 (26 + m) Z ∧ (∀ b o, q6 = some ⟨b, o, none⟩ → gb < b)) := ⟨K6.out.1.kept k7 (fun j e => by have := K6.out.2.2.1; omega), b7, K6.out.2.2.1, K6.out.2.2.2.1, K6.out.2.2.2.2.1.kept k7 (fun b o _ e hj => by have := K6.out.2.2.2.2.2 b o e; omega), K6.out.2.2.2.2.2⟩
      clear b7 k7 K6
      go_wp2_with fail
      refine (parse_good _ (26 + m) cb V K7.out.2.2.2.1 w7 (row_seen K7.out.2.1 HV.out.2.1 HV.out.2.2.1 (by have := HX.out.2; omega)) HV.out.2.2.2.1).mono ?_
      rintro e w8 ⟨v8, rfl, o8, l8⟩
      rw [HV.out.2.2.2.2.1]
      rw [HV.out.2.2.2.2.2, show 26 + m - 26 = m by omega] at o8
      obtain ⟨q8, c8, rfl, S8, -, -, -⟩ := isO_sl HX.out.1.len HX.out.1.bytes (by have := HX.out.2; omega) o8
      have K8 : Hid (Tw w w8 p X Y ∧ Blk w8 gb 5 (u8s V ++ rest) ∧ p < gb ∧ 26 + m ≤ cb ∧ Seen w8 q6 (26 + m) Z ∧ (∀ b o, q6 = some ⟨b, o, none⟩ → gb < b) ∧ Seen w8 q8 m bs) := ⟨K7.out.1.later l8, K7.out.2.1.later l8 K7.out.2.1.lt, K7.out.2.2.1, K7.out.2.2.2.1, K7.out.2.2.2.2.1.later l8 (Nat.le_refl _), K7.out.2.2.2.2.2, S8⟩
      clear o8 l8 S8 K7
      go_wp2_with (first | (refine wpList_alloc_new rfl 26 rfl 20 _ hzero ?_; intro w9 b9 s9 l9) | (refine wpList_store_blk rfl 26 26 _ _ rfl _ rfl _ (hdC Y) rfl b9 (by rw [hdC_length HO.out.2.1.len]; rfl) (hsizeC HO.out.2.1.len) (hdC_one _) ?_; intro x0 bx0 sx0 kx0; have Lx : Below w8.heap.size w8 x0 := below_kept l9 kx0 (by omega) (fun j hj => by omega); have K9 : Hid (Tw w x0 p X Y ∧ Blk x0 gb 5 (u8s V ++ rest) ∧ p < gb ∧ 26 + m ≤ cb ∧ Seen x0 q6 (26 + m) Z ∧ (∀ b o, q6 = some ⟨b, o, none⟩ → gb < b) ∧ Seen x0 q8 m bs ∧ Blk x0 w8.heap.size 26 (hdC Y)) := ⟨K8.out.1.later Lx, K8.out.2.1.later Lx K8.out.2.1.lt, K8.out.2.2.1, K8.out.2.2.2.1, K8.out.2.2.2.2.1.later Lx (Nat.le_refl _), K8.out.2.2.2.2.2.1, K8.out.2.2.2.2.2.2.later Lx (Nat.le_refl _), bx0⟩; clear b9 s9 l9 bx0 sx0 kx0 Lx K8))
      refine region_invGT [.val (.int .i64 0), .val (.bool false), .val (.bool false), .val (.int .i64 0), .val (.bool false), .val (.bool false), .val (.bool false), .val (.agg (hdC Y).toArray), .val (.agg (hdC Y).toArray), .val (.bool false), .val (.bool false), .val (.bool false), .val (.slice q8 m c8), .val (.slice ao m c), .val (.bool true), .val (.bool false), .val (.bool false), .val (.bool false), .val (.slice (some ⟨gb, 0, none⟩) (26 + m) cb), .val (.agg (hdC Y).toArray), .val (.slice ao m c), .any (isO x0.heap.size m bs) (isO_later _ _ _), .any (isO x0.heap.size (26 + m) V) (isO_later _ _ _), .val (.bool true), .val (.bool false)] (by kernel_rfl) (fast_chain [1, 2, 3, 4, 5, 6, 7, 9, 9, 10, 11, 12, 14, 14, 15, 16, 17, 18, 23, 22, 21, 22, 23, 24, 25] (by kernel_rfl)) (by repeat (first | exact trivial | (refine ⟨by first | trivial | rfl, ?_⟩))) (by kernel_rfl) ?_ ?_
      · refine Steps'.cons ?_ (Steps'.cons ?_ (Steps'.cons ?_ (Steps'.cons ?_ (Steps'.cons ?_ (Steps'.cons ?_ (Steps'.cons ?_ (Steps'.cons ?_ (Steps'.cons ?_ (Steps'.cons ?_ (Steps'.cons ?_ (Steps'.cons ?_ (Steps'.cons ?_ (Steps'.cons ?_ (Steps'.cons ?_ (Steps'.cons ?_ (Steps'.cons ?_ (Steps'.cons ?_ (Steps'.cons ?_ (Steps'.cons ?_ (Steps'.cons ?_ (Steps'.cons ?_ (Steps'.cons ?_ (Steps'.cons ?_ (Steps'.cons ?_ (Steps'.one _ _ _ _ _ _ _)))))))))))))))))))))))))
        · intro ax wx hb hs hd
          have h9 : ax.tmps.getD 9 undef = (.int .i64 0) := hs 9 (by kernel_rfl)
          refine Does.value (.int .i64 0) ?_ rfl
          clear hs hd
          go_simp
        · intro ax wx hb hs hd
          have h46 : ax.tmps.getD 46 undef = (.int .i64 0) := hd 0 46 rfl (by kernel_rfl) (by decide)
          refine Does.value (.bool false) ?_ rfl
          clear hs hd
          go_simp
        · intro ax wx hb hs hd
          have h47 : ax.tmps.getD 47 undef = (.bool false) := hd 1 47 rfl (by kernel_rfl) (by decide)
          refine Does.value (.bool false) ?_ rfl
          clear hs hd
          go_simp
        · intro ax wx hb hs hd
          have h12 : ax.tmps.getD 12 undef = (.int .i64 0) := hs 12 (by kernel_rfl)
          refine Does.value (.int .i64 0) ?_ rfl
          clear hs hd
          go_simp
        · intro ax wx hb hs hd
          have h49 : ax.tmps.getD 49 undef = (.int .i64 0) := hd 3 49 rfl (by kernel_rfl) (by decide)
          refine Does.value (.bool false) ?_ rfl
          clear hs hd
          go_simp
        · intro ax wx hb hs hd
          have h48 : ax.tmps.getD 48 undef = (.bool false) := hd 2 48 rfl (by kernel_rfl) (by decide)
          have h50 : ax.tmps.getD 50 undef = (.bool false) := hd 4 50 rfl (by kernel_rfl) (by decide)
          refine Does.value (.bool false) ?_ rfl
          clear hs hd
          go_simp
        · intro ax wx hb hs hd
          have h51 : ax.tmps.getD 51 undef = (.bool false) := hd 5 51 rfl (by kernel_rfl) (by decide)
          refine Does.value (.bool false) ?_ rfl
          clear hs hd
          go_simp
        · intro ax wx hb hs hd
          have h10 : ax.tmps.getD 10 undef = (.pointer (some ⟨w8.heap.size, 0, none⟩)) := hs 10 (by kernel_rfl)
          exact Does.load 26 (.tmp 10) rfl (w8.heap.size) 0 h10 (hdC Y) _ (K9.out.2.2.2.2.2.2.2.later hb K9.out.2.2.2.2.2.2.2.lt).allR Try.underlying26 rfl (hsizeC HO.out.2.1.len)
        · intro ax wx hb hs hd
          have h4 : ax.tmps.getD 4 undef = (.pointer (some ⟨p, 0, none⟩)) := hs 4 (by kernel_rfl)
          exact Does.load 26 (.tmp 4) rfl (p) 0 h4 (hdC Y) _ (K9.out.1.bY.later hb K9.out.1.bY.lt).allR Try.underlying26 rfl (hsizeC HO.out.2.1.len)
        · intro ax wx hb hs hd
          have h53 : ax.tmps.getD 53 undef = (.agg (hdC Y).toArray) := hd 7 53 rfl (by kernel_rfl) (by decide)
          have h54 : ax.tmps.getD 54 undef = (.agg (hdC Y).toArray) := hd 8 54 rfl (by kernel_rfl) (by decide)
          have NYx := NY wx
          refine Does.value (.bool false) ?_ rfl
          clear hs hd
          go_simp
        · intro ax wx hb hs hd
          have h52 : ax.tmps.getD 52 undef = (.bool false) := hd 6 52 rfl (by kernel_rfl) (by decide)
          have h55 : ax.tmps.getD 55 undef = (.bool false) := hd 9 55 rfl (by kernel_rfl) (by decide)
          refine Does.value (.bool false) ?_ rfl
          clear hs hd
          go_simp
        · intro ax wx hb hs hd
          have h56 : ax.tmps.getD 56 undef = (.bool false) := hd 10 56 rfl (by kernel_rfl) (by decide)
          refine Does.value (.bool false) ?_ rfl
          clear hs hd
          go_simp
        · intro ax wx hb hs hd
          have h11 : ax.tmps.getD 11 undef = (.slice q8 m c8) := hs 11 (by kernel_rfl)
          refine Does.value (.slice q8 m c8) ?_ rfl
          clear hs hd
          go_simp
        · intro ax wx hb hs hd
          have h2 : ax.tmps.getD 2 undef = (.slice ao m c) := hs 2 (by kernel_rfl)
          refine Does.value (.slice ao m c) ?_ rfl
          clear hs hd
          go_simp
        · intro ax wx hb hs hd
          have h58 : ax.tmps.getD 58 undef = (.slice q8 m c8) := hd 12 58 rfl (by kernel_rfl) (by decide)
          have h59 : ax.tmps.getD 59 undef = (.slice ao m c) := hd 13 59 rfl (by kernel_rfl) (by decide)
          refine Does.call 14 #[.slice q8 m c8, .slice ao m c] (by clear hs hd; go_simp) ?_
          refine (reqb_any _ _ m m _ _ bs bs wx (K9.out.2.2.2.2.2.2.1.later hb (Nat.le_refl _)) (HX.out.1.later (below_chain K9.out.1.bel hb K9.out.1.bel.size) (Nat.le_refl _))).mono ?_
          rintro e w' ⟨rfl, q, rfl⟩
          rw [decide_eq_true (rfl : bs = bs)]
          exact ⟨_, rfl, rfl, below_dn (Below.refl _ _) q⟩
        · intro ax wx hb hs hd
          have h60 : ax.tmps.getD 60 undef = (.bool true) := hd 14 60 rfl (by kernel_rfl) (by decide)
          refine Does.value (.bool false) ?_ rfl
          clear hs hd
          go_simp
        · intro ax wx hb hs hd
          have h57 : ax.tmps.getD 57 undef = (.bool false) := hd 11 57 rfl (by kernel_rfl) (by decide)
          have h61 : ax.tmps.getD 61 undef = (.bool false) := hd 15 61 rfl (by kernel_rfl) (by decide)
          refine Does.value (.bool false) ?_ rfl
          clear hs hd
          go_simp
        · intro ax wx hb hs hd
          have h62 : ax.tmps.getD 62 undef = (.bool false) := hd 16 62 rfl (by kernel_rfl) (by decide)
          refine Does.value (.bool false) ?_ rfl
          clear hs hd
          go_simp
        · intro ax wx hb hs hd
          have h7 : ax.tmps.getD 7 undef = (.slice (some ⟨gb, 0, none⟩) (26 + m) cb) := hs 7 (by kernel_rfl)
          refine Does.value (.slice (some ⟨gb, 0, none⟩) (26 + m) cb) ?_ rfl
          clear hs hd
          go_simp
        · intro ax wx hb hs hd
          have h4 : ax.tmps.getD 4 undef = (.pointer (some ⟨p, 0, none⟩)) := hs 4 (by kernel_rfl)
          exact Does.load 26 (.tmp 4) rfl (p) 0 h4 (hdC Y) _ (K9.out.1.bY.later hb K9.out.1.bY.lt).allR Try.underlying26 rfl (hsizeC HO.out.2.1.len)
        · intro ax wx hb hs hd
          have h2 : ax.tmps.getD 2 undef = (.slice ao m c) := hs 2 (by kernel_rfl)
          refine Does.value (.slice ao m c) ?_ rfl
          clear hs hd
          go_simp
        · intro ax wx hb hs hd
          have h66 : ax.tmps.getD 66 undef = (.slice ao m c) := hd 20 66 rfl (by kernel_rfl) (by decide)
          refine Does.call 17 #[.slice ao m c] (by clear hs hd; go_simp) ?_
          refine (copyB_any ao m c bs wx (HX.out.1.later (below_chain K9.out.1.bel hb K9.out.1.bel.size) (Nat.le_refl _))).mono ?_
          rintro e w' ⟨v, rfl, o, l⟩
          exact ⟨_, rfl, ownsRow_base o hb.size, l⟩
        · intro ax wx hb hs hd
          have h65 : ax.tmps.getD 65 undef = (.agg (hdC Y).toArray) := hd 19 65 rfl (by kernel_rfl) (by decide)
          have p67 : (isO x0.heap.size m bs) (ax.tmps.getD 67 undef) wx := hd 21 67 rfl (by kernel_rfl) (by decide)
          obtain ⟨q, cq, h67, sq, _, fq, _⟩ := isO_sl HX.out.1.len HX.out.1.bytes (by have := HX.out.2; omega) p67
          clear p67
          refine Does.call 12 #[.agg (hdC Y).toArray, .slice q m cq] (by clear hs hd; go_simp) ?_
          refine (make_any Y HO.out.2.1 q m cq bs fq (by have := HX.out.2; omega) wx sq).mono ?_
          rintro e w' ⟨v, rfl, o, l⟩
          rw [HV.out.1] at o
          exact ⟨_, rfl, isO_base o hb.size, l⟩
        · intro ax wx hb hs hd
          have h64 : ax.tmps.getD 64 undef = (.slice (some ⟨gb, 0, none⟩) (26 + m) cb) := hd 18 64 rfl (by kernel_rfl) (by decide)
          have p68 : (isO x0.heap.size (26 + m) V) (ax.tmps.getD 68 undef) wx := hd 22 68 rfl (by kernel_rfl) (by decide)
          obtain ⟨q, cq, h68, sq, _, _, _⟩ := isO_sl HV.out.2.1 HV.out.2.2.1 (by have := HX.out.2; omega) p68
          clear p68
          refine Does.call 14 #[.slice (some ⟨gb, 0, none⟩) (26 + m) cb, .slice q (26 + m) cq] (by clear hs hd; go_simp) ?_
          refine (reqb_any _ _ (26 + m) (26 + m) _ _ V V wx (row_seen (K9.out.2.1.later hb K9.out.2.1.lt) HV.out.2.1 HV.out.2.2.1 (by have := HX.out.2; omega)) sq).mono ?_
          rintro e w' ⟨rfl, q, rfl⟩
          rw [decide_eq_true (rfl : V = V)]
          exact ⟨_, rfl, rfl, below_dn (Below.refl _ _) q⟩
        · intro ax wx hb hs hd
          have h69 : ax.tmps.getD 69 undef = (.bool true) := hd 23 69 rfl (by kernel_rfl) (by decide)
          refine Does.value (.bool false) ?_ rfl
          clear hs hd
          go_simp
      · intro wx hb
        refine @Ends.val _ _ _ _ _ _ _ _ _ (.int .i64 0) rfl ?_
        refine @Ends.val _ _ _ _ _ _ _ _ _ (.bool false) rfl ?_
        refine @Ends.val _ _ _ _ _ _ _ _ _ (.bool false) rfl ?_
        refine @Ends.val _ _ _ _ _ _ _ _ _ (.int .i64 0) rfl ?_
        refine @Ends.val _ _ _ _ _ _ _ _ _ (.bool false) rfl ?_
        refine @Ends.val _ _ _ _ _ _ _ _ _ (.bool false) rfl ?_
        refine @Ends.val _ _ _ _ _ _ _ _ _ (.bool false) rfl ?_
        refine @Ends.val _ _ _ _ _ _ _ _ _ (.agg (hdC Y).toArray) rfl ?_
        refine @Ends.val _ _ _ _ _ _ _ _ _ (.agg (hdC Y).toArray) rfl ?_
        refine @Ends.val _ _ _ _ _ _ _ _ _ (.bool false) rfl ?_
        refine @Ends.val _ _ _ _ _ _ _ _ _ (.bool false) rfl ?_
        refine @Ends.val _ _ _ _ _ _ _ _ _ (.bool false) rfl ?_
        refine @Ends.val _ _ _ _ _ _ _ _ _ (.slice q8 m c8) rfl ?_
        refine @Ends.val _ _ _ _ _ _ _ _ _ (.slice ao m c) rfl ?_
        refine @Ends.val _ _ _ _ _ _ _ _ _ (.bool true) rfl ?_
        refine @Ends.val _ _ _ _ _ _ _ _ _ (.bool false) rfl ?_
        refine @Ends.val _ _ _ _ _ _ _ _ _ (.bool false) rfl ?_
        refine @Ends.val _ _ _ _ _ _ _ _ _ (.bool false) rfl ?_
        refine @Ends.val _ _ _ _ _ _ _ _ _ (.slice (some ⟨gb, 0, none⟩) (26 + m) cb) rfl ?_
        refine @Ends.val _ _ _ _ _ _ _ _ _ (.agg (hdC Y).toArray) rfl ?_
        refine @Ends.val _ _ _ _ _ _ _ _ _ (.slice ao m c) rfl ?_
        refine @Ends.any _ _ _ _ _ _ _ _ _ (isO x0.heap.size m bs) (isO_later _ _ _) rfl ?_
        intro v67 p67
        refine @Ends.any _ _ _ _ _ _ _ _ _ (isO x0.heap.size (26 + m) V) (isO_later _ _ _) rfl ?_
        intro v68 p68
        refine @Ends.val _ _ _ _ _ _ _ _ _ (.bool true) rfl ?_
        refine @Ends.val _ _ _ _ _ _ _ _ _ (.bool false) rfl ?_
        refine @Ends.one _ _ _ _ _ _ _ ?_
        simp only [Act.put, List.setIfInBounds_toArray, List.set_cons_zero, List.set_cons_succ]
        have K10 : Hid (Tw w wx p X Y ∧ Blk wx gb 5 (u8s V ++ rest) ∧ p < gb ∧ 26 + m ≤ cb ∧ Seen wx q6 (26 + m) Z ∧ (∀ b o, q6 = some ⟨b, o, none⟩ → gb < b)) := ⟨K9.out.1.later hb, K9.out.2.1.later hb K9.out.2.1.lt, K9.out.2.2.1, K9.out.2.2.2.1, K9.out.2.2.2.2.1.later hb (Nat.le_refl _), K9.out.2.2.2.2.2.1⟩
        clear p67 p68 hb K9
        refine last_valueP (some 71) rfl (.bool false) (by go_simp) ?_
        simp only [Act.put, List.setIfInBounds_toArray, List.set_cons_zero, List.set_cons_succ]
        obtain ⟨x1, hx1⟩ : ∃ u, wx = u := ⟨_, rfl⟩
        rw [hx1] at K10 ⊢
        clear hx1
        go_wp2_with fail
        rcases lX with lx | lx
        · have LL : Hid (liveB Z = false ∧ X.live = 0) := ⟨by rw [LV.out, lx]; rfl, lx⟩
          clear lx
          refine wp_region_noPanic (wp_region_held_drew (S := fun W => Blk W w.heap.size 26 (hdC X)) (by kernel_rfl) (K10.out.1.bx).drew (fun hH => ?_))
          refine hTake 0 (some 72) (.slice (some ⟨gb, 0, none⟩) (26 + m) cb) rfl rfl (by kernel_rfl) (by kernel_rfl) (by kernel_rfl) (fun _ _ _ h => h) (by kernel_rfl) (fun W' hS' => by go_simp) hH ?_
          simp only [Act.put, List.setIfInBounds_toArray, List.set_cons_zero, List.set_cons_succ]
          refine hLoad 1 (some 73) (hdC X) rfl rfl (by kernel_rfl) (by kernel_rfl) (by kernel_rfl) (fun _ _ _ h => h) (by kernel_rfl) 26 (.tmp 3) rfl w.heap.size 0 rfl _ (fun _ h => h.allR) Try.underlying26 rfl (hsizeC HO.out.1.len) hH ?_
          simp only [Act.put, List.setIfInBounds_toArray, List.set_cons_zero, List.set_cons_succ]
          refine wpAnyH_ready (rs := [2]) (by kernel_rfl) (by simp) (AllReadyH.cons rfl (fun K hK => ?_) AllReadyH.nil)
          refine if_yes (by kernel_rfl) ?_
          refine wp_callG 20 #[.slice (some ⟨gb, 0, none⟩) (26 + m) cb, .agg (hdC X).toArray] (by go_simp) ?_
          have P := put_long X HO.out.1 gb (26 + m) cb V rest (by omega) (by have := HX.out.2; omega) HV.out.2.1 x1.drew K10.out.2.1.drew
          rw [HV.out.2.2.2.2.2, HZ.out.1] at P
          refine P.mono ?_
          clear P
          rintro e x2 ⟨rfl, b2, k2⟩
          refine ⟨_, rfl, ?_⟩
          have K11 : Hid (Below w.heap.size w x2 ∧ Blk x2 gb 5 (u8s Z ++ rest) ∧ Seen x2 q6 (26 + m) Z ∧ Blk x2 w.heap.size 26 (hdC X)) := ⟨below_kept (below_dn K10.out.1.bel 1) k2 K10.out.1.bel.size (fun j hj e => by have := K10.out.2.2.1; have := K10.out.1.lt; omega), b2, (K10.out.2.2.2.2.1.drew).kept k2 (fun b o _ e hj => by have := K10.out.2.2.2.2.2 b o e; omega), K10.out.1.bx.drew.kept k2 (fun e => by have := K10.out.2.2.1; have := K10.out.1.lt; omega)⟩
          change K (Act.put _ (some 74) (.int .i64 0)) x2
          refine hK.out _ _ K11.out.2.2.2 (fun hH => ?_)
          clear hK K b2 k2
          simp only [Act.put, List.setIfInBounds_toArray, List.set_cons_zero, List.set_cons_succ]
          refine hTake 3 (some 75) (.bool true) rfl rfl (by kernel_rfl) (by kernel_rfl) (by kernel_rfl) (fun _ _ _ h => h) (by kernel_rfl) (fun W' hS' => by go_simp) hH ?_
          simp only [Act.put, List.setIfInBounds_toArray, List.set_cons_zero, List.set_cons_succ]
          refine hTake 4 (some 76) (.bool true) rfl rfl (by kernel_rfl) (by kernel_rfl) (by kernel_rfl) (fun _ _ _ h => h) (by kernel_rfl) (fun W' hS' => by go_simp) hH ?_
          simp only [Act.put, List.setIfInBounds_toArray, List.set_cons_zero, List.set_cons_succ]
          refine hTake 5 (some 77) (.slice (some ⟨gb, 0, none⟩) (26 + m) cb) rfl rfl (by kernel_rfl) (by kernel_rfl) (by kernel_rfl) (fun _ _ _ h => h) (by kernel_rfl) (fun W' hS' => by go_simp) hH ?_
          simp only [Act.put, List.setIfInBounds_toArray, List.set_cons_zero, List.set_cons_succ]
          refine hTake 6 (some 78) (.slice q6 (26 + m) c6) rfl rfl (by kernel_rfl) (by kernel_rfl) (by kernel_rfl) (fun _ _ _ h => h) (by kernel_rfl) (fun W' hS' => by go_simp) hH ?_
          simp only [Act.put, List.setIfInBounds_toArray, List.set_cons_zero, List.set_cons_succ]
          refine wpAnyH_ready (rs := [7]) (by kernel_rfl) (by simp) (AllReadyH.cons rfl (fun K hK => ?_) AllReadyH.nil)
          refine if_yes (by kernel_rfl) ?_
          refine wp_callG 14 #[.slice (some ⟨gb, 0, none⟩) (26 + m) cb, .slice q6 (26 + m) c6] (by go_simp) ?_
          refine (reqb_any _ _ (26 + m) (26 + m) _ _ Z Z x2 (row_seen K11.out.2.1 HZ.out.2.1 HZ.out.2.2.1 (by have := HX.out.2; omega)) K11.out.2.2.1).mono ?_
          rintro e _ ⟨rfl, qq, rfl⟩
          rw [decide_eq_true (rfl : Z = Z)]
          refine ⟨_, rfl, ?_⟩
          obtain ⟨x3, hx3⟩ : ∃ u, x2.drewN qq = u := ⟨_, rfl⟩
          rw [hx3]
          have K12 : Hid (Below w.heap.size w x3 ∧ Blk x3 gb 5 (u8s Z ++ rest) ∧ Blk x3 w.heap.size 26 (hdC X)) := ⟨hx3 ▸ below_dn K11.out.1 qq, hx3 ▸ K11.out.2.1.drewN qq, hx3 ▸ K11.out.2.2.2.drewN qq⟩
          change K (Act.put _ (some 79) (.bool true)) x3
          refine hK.out _ _ K12.out.2.2 (fun hH => ?_)
          clear hK K hx3 K11
          simp only [Act.put, List.setIfInBounds_toArray, List.set_cons_zero, List.set_cons_succ]
          refine hTake 8 (some 80) (.bool true) rfl rfl (by kernel_rfl) (by kernel_rfl) (by kernel_rfl) (fun _ _ _ h => h) (by kernel_rfl) (fun W' hS' => by go_simp) hH ?_
          simp only [Act.put, List.setIfInBounds_toArray, List.set_cons_zero, List.set_cons_succ]
          refine hTake 9 (some 81) (.bool true) rfl rfl (by kernel_rfl) (by kernel_rfl) (by kernel_rfl) (fun _ _ _ h => h) (by kernel_rfl) (fun W' hS' => by go_simp) hH ?_
          simp only [Act.put, List.setIfInBounds_toArray, List.set_cons_zero, List.set_cons_succ]
          refine hTake 10 (some 82) (.slice (some ⟨gb, 0, none⟩) (26 + m) cb) rfl rfl (by kernel_rfl) (by kernel_rfl) (by kernel_rfl) (fun _ _ _ h => h) (by kernel_rfl) (fun W' hS' => by go_simp) hH ?_
          simp only [Act.put, List.setIfInBounds_toArray, List.set_cons_zero, List.set_cons_succ]
          refine hTake 13 (some 85) (.pointer (some ⟨w.heap.size, 0, none⟩)) rfl rfl (by kernel_rfl) (by kernel_rfl) (by kernel_rfl) (fun _ _ _ h => h) (by kernel_rfl) (fun W' hS' => by go_simp) hH ?_
          simp only [Act.put, List.setIfInBounds_toArray, List.set_cons_zero, List.set_cons_succ]
          refine hTake 14 (some 86) (.int .u8 0) rfl rfl (by kernel_rfl) (by kernel_rfl) (by kernel_rfl) (fun _ _ _ h => h) (by kernel_rfl) (fun W' hS' => by have cx : W'.cell? ⟨w.heap.size, 0, none⟩ = some (.int .u8 0) := (by have q := Blk.cell (t := 26) hS' 0; rwa [hdC, LL.out.2] at q); go_simp) hH ?_
          simp only [Act.put, List.setIfInBounds_toArray, List.set_cons_zero, List.set_cons_succ]
          refine hTake 15 (some 87) (.bool false) rfl rfl (by kernel_rfl) (by kernel_rfl) (by kernel_rfl) (fun _ _ _ h => h) (by kernel_rfl) (fun W' hS' => by go_simp) hH ?_
          simp only [Act.put, List.setIfInBounds_toArray, List.set_cons_zero, List.set_cons_succ]
          refine wpAnyH_ready (rs := [11]) (by kernel_rfl) (by simp) (AllReadyH.cons rfl (fun K hK => ?_) AllReadyH.nil)
          refine if_yes (by kernel_rfl) ?_
          refine wp_callG 22 #[.slice (some ⟨gb, 0, none⟩) (26 + m) cb] (by go_simp) ?_
          refine (Live_any _ (26 + m) cb Z K10.out.2.2.2.1 x3 (row_seen K12.out.2.1 HZ.out.2.1 HZ.out.2.2.1 (by have := HX.out.2; omega))).mono ?_
          rintro e x4 ⟨rfl, l4⟩
          rw [LL.out.1, mk_false]
          refine ⟨_, rfl, ?_⟩
          have K13 : Hid (Below w.heap.size w x4 ∧ Blk x4 w.heap.size 26 (hdC X)) := ⟨below_chain K12.out.1 l4 K12.out.1.size, K12.out.2.2.later l4 K12.out.2.2.lt⟩
          change K (Act.put _ (some 83) (.int .u64 0)) x4
          refine hK.out _ _ K13.out.2 (fun hH => ?_)
          clear hK K l4 K12
          simp only [Act.put, List.setIfInBounds_toArray, List.set_cons_zero, List.set_cons_succ]
          refine hTake 12 (some 84) (.bool false) rfl rfl (by kernel_rfl) (by kernel_rfl) (by kernel_rfl) (fun _ _ _ h => h) (by kernel_rfl) (fun W' hS' => by go_simp) hH ?_
          simp only [Act.put, List.setIfInBounds_toArray, List.set_cons_zero, List.set_cons_succ]
          refine hTake 16 (some 88) (.bool true) rfl rfl (by kernel_rfl) (by kernel_rfl) (by kernel_rfl) (fun _ _ _ h => h) (by kernel_rfl) (fun W' hS' => by go_simp) hH ?_
          simp only [Act.put, List.setIfInBounds_toArray, List.set_cons_zero, List.set_cons_succ]
          refine hTake 17 (some 89) (.bool true) rfl rfl (by kernel_rfl) (by kernel_rfl) (by kernel_rfl) (fun _ _ _ h => h) (by kernel_rfl) (fun W' hS' => by go_simp) hH ?_
          simp only [Act.put, List.setIfInBounds_toArray, List.set_cons_zero, List.set_cons_succ]
          refine hTake 18 (some 6) (.bool true) rfl rfl (by kernel_rfl) (by kernel_rfl) (by kernel_rfl) (fun _ _ _ h => h) (by kernel_rfl) (fun W' hS' => by go_simp) hH ?_
          simp only [Act.put, List.setIfInBounds_toArray, List.set_cons_zero, List.set_cons_succ]
          refine wpAnyH_done (by kernel_rfl) (NoPanic.normal ?_) _
          clear hH
          go_wp2
          go_ret
          exact ⟨rfl, K13.out.1⟩
        · have LL : Hid (liveB Z = true ∧ X.live = 1) := ⟨by rw [LV.out, lx]; rfl, lx⟩
          clear lx
          refine wp_region_noPanic (wp_region_held_drew (S := fun W => Blk W w.heap.size 26 (hdC X)) (by kernel_rfl) (K10.out.1.bx).drew (fun hH => ?_))
          refine hTake 0 (some 72) (.slice (some ⟨gb, 0, none⟩) (26 + m) cb) rfl rfl (by kernel_rfl) (by kernel_rfl) (by kernel_rfl) (fun _ _ _ h => h) (by kernel_rfl) (fun W' hS' => by go_simp) hH ?_
          simp only [Act.put, List.setIfInBounds_toArray, List.set_cons_zero, List.set_cons_succ]
          refine hLoad 1 (some 73) (hdC X) rfl rfl (by kernel_rfl) (by kernel_rfl) (by kernel_rfl) (fun _ _ _ h => h) (by kernel_rfl) 26 (.tmp 3) rfl w.heap.size 0 rfl _ (fun _ h => h.allR) Try.underlying26 rfl (hsizeC HO.out.1.len) hH ?_
          simp only [Act.put, List.setIfInBounds_toArray, List.set_cons_zero, List.set_cons_succ]
          refine wpAnyH_ready (rs := [2]) (by kernel_rfl) (by simp) (AllReadyH.cons rfl (fun K hK => ?_) AllReadyH.nil)
          refine if_yes (by kernel_rfl) ?_
          refine wp_callG 20 #[.slice (some ⟨gb, 0, none⟩) (26 + m) cb, .agg (hdC X).toArray] (by go_simp) ?_
          have P := put_long X HO.out.1 gb (26 + m) cb V rest (by omega) (by have := HX.out.2; omega) HV.out.2.1 x1.drew K10.out.2.1.drew
          rw [HV.out.2.2.2.2.2, HZ.out.1] at P
          refine P.mono ?_
          clear P
          rintro e x2 ⟨rfl, b2, k2⟩
          refine ⟨_, rfl, ?_⟩
          have K11 : Hid (Below w.heap.size w x2 ∧ Blk x2 gb 5 (u8s Z ++ rest) ∧ Seen x2 q6 (26 + m) Z ∧ Blk x2 w.heap.size 26 (hdC X)) := ⟨below_kept (below_dn K10.out.1.bel 1) k2 K10.out.1.bel.size (fun j hj e => by have := K10.out.2.2.1; have := K10.out.1.lt; omega), b2, (K10.out.2.2.2.2.1.drew).kept k2 (fun b o _ e hj => by have := K10.out.2.2.2.2.2 b o e; omega), K10.out.1.bx.drew.kept k2 (fun e => by have := K10.out.2.2.1; have := K10.out.1.lt; omega)⟩
          change K (Act.put _ (some 74) (.int .i64 0)) x2
          refine hK.out _ _ K11.out.2.2.2 (fun hH => ?_)
          clear hK K b2 k2
          simp only [Act.put, List.setIfInBounds_toArray, List.set_cons_zero, List.set_cons_succ]
          refine hTake 3 (some 75) (.bool true) rfl rfl (by kernel_rfl) (by kernel_rfl) (by kernel_rfl) (fun _ _ _ h => h) (by kernel_rfl) (fun W' hS' => by go_simp) hH ?_
          simp only [Act.put, List.setIfInBounds_toArray, List.set_cons_zero, List.set_cons_succ]
          refine hTake 4 (some 76) (.bool true) rfl rfl (by kernel_rfl) (by kernel_rfl) (by kernel_rfl) (fun _ _ _ h => h) (by kernel_rfl) (fun W' hS' => by go_simp) hH ?_
          simp only [Act.put, List.setIfInBounds_toArray, List.set_cons_zero, List.set_cons_succ]
          refine hTake 5 (some 77) (.slice (some ⟨gb, 0, none⟩) (26 + m) cb) rfl rfl (by kernel_rfl) (by kernel_rfl) (by kernel_rfl) (fun _ _ _ h => h) (by kernel_rfl) (fun W' hS' => by go_simp) hH ?_
          simp only [Act.put, List.setIfInBounds_toArray, List.set_cons_zero, List.set_cons_succ]
          refine hTake 6 (some 78) (.slice q6 (26 + m) c6) rfl rfl (by kernel_rfl) (by kernel_rfl) (by kernel_rfl) (fun _ _ _ h => h) (by kernel_rfl) (fun W' hS' => by go_simp) hH ?_
          simp only [Act.put, List.setIfInBounds_toArray, List.set_cons_zero, List.set_cons_succ]
          refine wpAnyH_ready (rs := [7]) (by kernel_rfl) (by simp) (AllReadyH.cons rfl (fun K hK => ?_) AllReadyH.nil)
          refine if_yes (by kernel_rfl) ?_
          refine wp_callG 14 #[.slice (some ⟨gb, 0, none⟩) (26 + m) cb, .slice q6 (26 + m) c6] (by go_simp) ?_
          refine (reqb_any _ _ (26 + m) (26 + m) _ _ Z Z x2 (row_seen K11.out.2.1 HZ.out.2.1 HZ.out.2.2.1 (by have := HX.out.2; omega)) K11.out.2.2.1).mono ?_
          rintro e _ ⟨rfl, qq, rfl⟩
          rw [decide_eq_true (rfl : Z = Z)]
          refine ⟨_, rfl, ?_⟩
          obtain ⟨x3, hx3⟩ : ∃ u, x2.drewN qq = u := ⟨_, rfl⟩
          rw [hx3]
          have K12 : Hid (Below w.heap.size w x3 ∧ Blk x3 gb 5 (u8s Z ++ rest) ∧ Blk x3 w.heap.size 26 (hdC X)) := ⟨hx3 ▸ below_dn K11.out.1 qq, hx3 ▸ K11.out.2.1.drewN qq, hx3 ▸ K11.out.2.2.2.drewN qq⟩
          change K (Act.put _ (some 79) (.bool true)) x3
          refine hK.out _ _ K12.out.2.2 (fun hH => ?_)
          clear hK K hx3 K11
          simp only [Act.put, List.setIfInBounds_toArray, List.set_cons_zero, List.set_cons_succ]
          refine hTake 8 (some 80) (.bool true) rfl rfl (by kernel_rfl) (by kernel_rfl) (by kernel_rfl) (fun _ _ _ h => h) (by kernel_rfl) (fun W' hS' => by go_simp) hH ?_
          simp only [Act.put, List.setIfInBounds_toArray, List.set_cons_zero, List.set_cons_succ]
          refine hTake 9 (some 81) (.bool true) rfl rfl (by kernel_rfl) (by kernel_rfl) (by kernel_rfl) (fun _ _ _ h => h) (by kernel_rfl) (fun W' hS' => by go_simp) hH ?_
          simp only [Act.put, List.setIfInBounds_toArray, List.set_cons_zero, List.set_cons_succ]
          refine hTake 10 (some 82) (.slice (some ⟨gb, 0, none⟩) (26 + m) cb) rfl rfl (by kernel_rfl) (by kernel_rfl) (by kernel_rfl) (fun _ _ _ h => h) (by kernel_rfl) (fun W' hS' => by go_simp) hH ?_
          simp only [Act.put, List.setIfInBounds_toArray, List.set_cons_zero, List.set_cons_succ]
          refine hTake 13 (some 85) (.pointer (some ⟨w.heap.size, 0, none⟩)) rfl rfl (by kernel_rfl) (by kernel_rfl) (by kernel_rfl) (fun _ _ _ h => h) (by kernel_rfl) (fun W' hS' => by go_simp) hH ?_
          simp only [Act.put, List.setIfInBounds_toArray, List.set_cons_zero, List.set_cons_succ]
          refine hTake 14 (some 86) (.int .u8 1) rfl rfl (by kernel_rfl) (by kernel_rfl) (by kernel_rfl) (fun _ _ _ h => h) (by kernel_rfl) (fun W' hS' => by have cx : W'.cell? ⟨w.heap.size, 0, none⟩ = some (.int .u8 1) := (by have q := Blk.cell (t := 26) hS' 0; rwa [hdC, LL.out.2] at q); go_simp) hH ?_
          simp only [Act.put, List.setIfInBounds_toArray, List.set_cons_zero, List.set_cons_succ]
          refine hTake 15 (some 87) (.bool true) rfl rfl (by kernel_rfl) (by kernel_rfl) (by kernel_rfl) (fun _ _ _ h => h) (by kernel_rfl) (fun W' hS' => by go_simp) hH ?_
          simp only [Act.put, List.setIfInBounds_toArray, List.set_cons_zero, List.set_cons_succ]
          refine wpAnyH_ready (rs := [11]) (by kernel_rfl) (by simp) (AllReadyH.cons rfl (fun K hK => ?_) AllReadyH.nil)
          refine if_yes (by kernel_rfl) ?_
          refine wp_callG 22 #[.slice (some ⟨gb, 0, none⟩) (26 + m) cb] (by go_simp) ?_
          refine (Live_any _ (26 + m) cb Z K10.out.2.2.2.1 x3 (row_seen K12.out.2.1 HZ.out.2.1 HZ.out.2.2.1 (by have := HX.out.2; omega))).mono ?_
          rintro e x4 ⟨rfl, l4⟩
          rw [LL.out.1, mk_true]
          refine ⟨_, rfl, ?_⟩
          have K13 : Hid (Below w.heap.size w x4 ∧ Blk x4 w.heap.size 26 (hdC X)) := ⟨below_chain K12.out.1 l4 K12.out.1.size, K12.out.2.2.later l4 K12.out.2.2.lt⟩
          change K (Act.put _ (some 83) (.int .u64 18446744073709551615)) x4
          refine hK.out _ _ K13.out.2 (fun hH => ?_)
          clear hK K l4 K12
          simp only [Act.put, List.setIfInBounds_toArray, List.set_cons_zero, List.set_cons_succ]
          refine hTake 12 (some 84) (.bool true) rfl rfl (by kernel_rfl) (by kernel_rfl) (by kernel_rfl) (fun _ _ _ h => h) (by kernel_rfl) (fun W' hS' => by go_simp) hH ?_
          simp only [Act.put, List.setIfInBounds_toArray, List.set_cons_zero, List.set_cons_succ]
          refine hTake 16 (some 88) (.bool true) rfl rfl (by kernel_rfl) (by kernel_rfl) (by kernel_rfl) (fun _ _ _ h => h) (by kernel_rfl) (fun W' hS' => by go_simp) hH ?_
          simp only [Act.put, List.setIfInBounds_toArray, List.set_cons_zero, List.set_cons_succ]
          refine hTake 17 (some 89) (.bool true) rfl rfl (by kernel_rfl) (by kernel_rfl) (by kernel_rfl) (fun _ _ _ h => h) (by kernel_rfl) (fun W' hS' => by go_simp) hH ?_
          simp only [Act.put, List.setIfInBounds_toArray, List.set_cons_zero, List.set_cons_succ]
          refine hTake 18 (some 6) (.bool true) rfl rfl (by kernel_rfl) (by kernel_rfl) (by kernel_rfl) (fun _ _ _ h => h) (by kernel_rfl) (fun W' hS' => by go_simp) hH ?_
          simp only [Act.put, List.setIfInBounds_toArray, List.set_cons_zero, List.set_cons_succ]
          refine wpAnyH_done (by kernel_rfl) (NoPanic.normal ?_) _
          clear hH
          go_wp2
          go_ret
          exact ⟨rfl, K13.out.1⟩
  · rw [if_pos (by rfl)]
    refine last_valueP (some 19) rfl (.int .u8 h.flag) (by go_simp) ?_
    refine hK _ _ ⟨HS.out, ?_⟩
    clear hK K
    simp only [Act.put, List.setIfInBounds_toArray, List.set_cons_zero, List.set_cons_succ]
    refine tTake 5 (some 20) (.int .u8 (h.flag % 2)) rfl rfl (by kernel_rfl) (by kernel_rfl) (by kernel_rfl) (by decide) (fun _ _ _ h => h) (by rfl) (fun W' => by go_simp) HS.out ?_
    simp only [Act.put, List.setIfInBounds_toArray, List.set_cons_zero, List.set_cons_succ]
    refine till_ready 1 (by kernel_rfl) rfl (fun K hK => ?_)
    rw [if_pos (by rfl)]
    refine last_valueP (some 16) rfl (.int .u8 h.live) (by go_simp) ?_
    refine hK _ _ ⟨HS.out, ?_⟩
    clear hK K
    simp only [Act.put, List.setIfInBounds_toArray, List.set_cons_zero, List.set_cons_succ]
    refine tTake 2 (some 17) (.int .u8 (h.live % 2)) rfl rfl (by kernel_rfl) (by kernel_rfl) (by kernel_rfl) (by decide) (fun _ _ _ h => h) (by rfl) (fun W' => by go_simp) HS.out ?_
    simp only [Act.put, List.setIfInBounds_toArray, List.set_cons_zero, List.set_cons_succ]
    clear cl cf
    refine tTake 12 (some 27) (.pointer (some ⟨w.heap.size, 0, none⟩)) rfl rfl (by kernel_rfl) (by kernel_rfl) (by kernel_rfl) (by decide) (fun _ _ _ h => h) (by rfl) (fun W' => by go_simp) HS.out ?_
    simp only [Act.put, List.setIfInBounds_toArray, List.set_cons_zero, List.set_cons_succ]
    refine till_ready 13 (by kernel_rfl) rfl (fun K hK => ?_)
    rw [if_pos (by rfl)]
    refine last_cellH (.tmp 27) (.tmp 17) rfl rfl w.heap.size 0 rfl (hdC h) h.live (h.live % 2) rfl K3.out.bx.drew rfl ?_
    intro y1 b1 s1 k1
    have H1 : Hid (Blk y1 p 26 (hdC g)) := HS.out.kept k1 (fun e => by have := K3.out.lt; omega)
    refine hK _ _ ⟨H1.out, ?_⟩
    clear hK K
    refine tTake 14 (some 28) (.pointer (some ⟨w.heap.size, 1, none⟩)) rfl rfl (by kernel_rfl) (by kernel_rfl) (by kernel_rfl) (by decide) (fun _ _ _ h => h) (by rfl) (fun W' => by go_simp) H1.out ?_
    simp only [Act.put, List.setIfInBounds_toArray, List.set_cons_zero, List.set_cons_succ]
    refine till_ready 15 (by kernel_rfl) rfl (fun K hK => ?_)
    rw [if_pos (by rfl)]
    refine last_cellH (.tmp 28) (.tmp 20) rfl rfl w.heap.size 1 rfl ((hdC h).set 0 (.int .u8 (h.live % 2))) h.flag (h.flag % 2) rfl b1 rfl ?_
    intro y2 b2 s2 k2
    have H2 : Hid (Blk y2 p 26 (hdC g)) := H1.out.kept k2 (fun e => by have := K3.out.lt; omega)
    refine hK _ _ ⟨H2.out, ?_⟩
    clear hK K
    refine tTake 16 (some 29) (.pointer (some ⟨p, 0, none⟩)) rfl rfl (by kernel_rfl) (by kernel_rfl) (by kernel_rfl) (by decide) (fun _ _ _ h => h) (by rfl) (fun W' => by go_simp) H2.out ?_
    simp only [Act.put, List.setIfInBounds_toArray, List.set_cons_zero, List.set_cons_succ]
    refine till_at (by kernel_rfl) ?_
    refine wpAny_ready (rs := [17]) (by kernel_rfl) (by simp) (AllReady.cons rfl (fun K hK => ?_) AllReady.nil)
    rw [if_pos (by rfl)]
    refine last_cellH (.tmp 29) (.tmp 23) rfl rfl p 0 rfl (hdC g) g.live (g.live % 2) rfl H2.out rfl ?_
    intro y3 b3 s3 k3
    refine hK _ _ ?_
    clear hK K
    refine take_op 18 (some 30) (.pointer (some ⟨p, 1, none⟩)) rfl rfl (by kernel_rfl) (by kernel_rfl) (by kernel_rfl) (fun _ _ _ h => h) (by rfl) (fun W' => by go_simp) ?_
    simp only [Act.put, List.setIfInBounds_toArray, List.set_cons_zero, List.set_cons_succ]
    refine wpAny_ready (rs := [19]) (by kernel_rfl) (by simp) (AllReady.cons rfl (fun K hK => ?_) AllReady.nil)
    rw [if_pos (by rfl)]
    refine last_cellH (.tmp 30) (.tmp 26) rfl rfl p 1 rfl ((hdC g).set 0 (.int .u8 (g.live % 2))) g.flag (g.flag % 2) rfl b3 rfl ?_
    intro y4 b4 s4 k4
    refine hK _ _ ?_
    clear hK K
    refine wpAny_done (by kernel_rfl) (NoPanic.normal ?_) _
    have K4 : Hid (Tw w y4 p X Y) := by
      have l0 := K3.out.lt
      have q0 := K3.out.bel.size
      have bx : Blk y4 w.heap.size 26 (hdC (hd2 h)) := (b2.kept k3 (fun e => by omega)).kept k4 (fun e => by omega)
      have bY : Blk y4 p 26 (hdC (hd2 g)) := b4
      rw [HO.out.2.2.1] at bx
      rw [HO.out.2.2.2] at bY
      have m1 : Below w.heap.size w y1 := below_kept (below_dn K3.out.bel 1) k1 q0 (fun j hj => by omega)
      have m2 := below_kept m1 k2 m1.size (fun j hj => by omega)
      have m3 := below_kept m2 k3 m2.size (fun j hj => by omega)
      exact ⟨bx, bY, below_kept m3 k4 m3.size (fun j hj => by omega), l0⟩
    clear b1 s1 k1 b2 s2 k2 b3 s3 k3 b4 s4 k4 H1 H2 HS K3
    go_wp2_with fail
    refine region_inv [.val (.agg (hdC X).toArray), .val (.slice ao m c), .any (isO y4.heap.size m bs) (isO_later _ _ _), .any (isO y4.heap.size (26 + m) Z) (isO_later _ _ _)] (by kernel_rfl) (by kernel_rfl) (by kernel_rfl) ?_ ?_
    · refine Steps'.cons ?_ (Steps'.cons ?_ (Steps'.cons ?_ (Steps'.cons ?_ (Steps'.one _ _ _ _ _ _ _))))
      · intro ax wx hb hs hd
        have h3 : ax.tmps.getD 3 undef = (.pointer (some ⟨w.heap.size, 0, none⟩)) := hs 3 (by kernel_rfl)
        exact Does.load 26 (.tmp 3) rfl w.heap.size 0 h3 (hdC X) _ (K4.out.bx.later hb K4.out.bx.lt).allR Try.underlying26 rfl (hsizeC HO.out.1.len)
      · intro ax wx hb hs hd
        have h2 : ax.tmps.getD 2 undef = (.slice ao m c) := hs 2 (by kernel_rfl)
        refine Does.value (.slice ao m c) ?_ rfl
        clear hs hd
        go_simp
      · intro ax wx hb hs hd
        have h32 : ax.tmps.getD 32 undef = (.slice ao m c) := hd 1 32 rfl (by kernel_rfl) (by decide)
        refine Does.call 17 #[.slice ao m c] (by clear hs hd; go_simp) ?_
        refine (copyB_any ao m c bs wx (HX.out.1.later (below_chain K4.out.bel hb K4.out.bel.size) (Nat.le_refl _))).mono ?_
        rintro e w' ⟨v, rfl, o, l⟩
        exact ⟨_, rfl, ownsRow_base o hb.size, l⟩
      · intro ax wx hb hs hd
        have h31 : ax.tmps.getD 31 undef = (.agg (hdC X).toArray) := hd 0 31 rfl (by kernel_rfl) (by decide)
        have p33 : (isO y4.heap.size m bs) (ax.tmps.getD 33 undef) wx := hd 2 33 rfl (by kernel_rfl) (by decide)
        obtain ⟨q, cq, h33, sq, _, fq, _⟩ := isO_sl HX.out.1.len HX.out.1.bytes (by have := HX.out.2; omega) p33
        clear p33
        refine Does.call 12 #[.agg (hdC X).toArray, .slice q m cq] (by clear hs hd; go_simp) ?_
        refine (make_any X HO.out.1 q m cq bs fq (by have := HX.out.2; omega) wx sq).mono ?_
        rintro e w' ⟨v, rfl, o, l⟩
        rw [HZ.out.1] at o
        exact ⟨_, rfl, isO_base o hb.size, l⟩
    · intro wx hb
      refine @Ends.val _ _ _ _ _ _ _ _ _ (.agg (hdC X).toArray) rfl ?_
      refine @Ends.val _ _ _ _ _ _ _ _ _ (.slice ao m c) rfl ?_
      refine @Ends.any _ _ _ _ _ _ _ _ _ (isO y4.heap.size m bs) (isO_later _ _ _) rfl ?_
      intro v33 p33
      refine @Ends.any _ _ _ _ _ _ _ _ _ (isO y4.heap.size (26 + m) Z) (isO_later _ _ _) rfl ?_
      intro v34 p34
      refine @Ends.one _ _ _ _ _ _ _ ?_
      simp only [Act.put, List.setIfInBounds_toArray, List.set_cons_zero, List.set_cons_succ]
      have q4 := K4.out.bY.lt
      obtain ⟨gb, cb, ev, rb, hgb, hcb⟩ : ∃ gb cb, v34 = .slice (some ⟨gb, 0, none⟩) (26 + m) cb ∧ RowAt wx gb Z ∧ p < gb ∧ 26 + m ≤ cb := by
        rcases own_len HZ.out.2.1 p34 with ⟨_, e0⟩ | ⟨gb, cb, e0, r, h1, h2, _⟩
        · omega
        · exact ⟨gb, cb, e0, r, by omega, h2⟩
      obtain ⟨rest, rb⟩ := rb
      subst ev
      have K5 : Hid (Tw w wx p X Y ∧ Blk wx gb 5 (u8s Z ++ rest) ∧ p < gb ∧ 26 + m ≤ cb) := ⟨K4.out.later hb, rb, hgb, hcb⟩
      clear p33 p34 rb hgb hcb hb q4 K4
      refine last_assign (.tmp 34) rfl (some 7) rfl (.slice (some ⟨gb, 0, none⟩) (26 + m) cb) rfl ?_
      simp only [Act.put, List.setIfInBounds_toArray, List.set_cons_zero, List.set_cons_succ]
      obtain ⟨w5, hw5⟩ : ∃ u, wx = u := ⟨_, rfl⟩
      rw [hw5] at K5 ⊢
      clear hw5
      go_wp2_with fail
      refine (copyB_any _ (26 + m) cb Z w5 (row_seen K5.out.2.1 HZ.out.2.1 HZ.out.2.2.1 (by have := HX.out.2; omega))).mono ?_
      rintro e w6 ⟨v6, rfl, o6, l6⟩
      obtain ⟨q6, c6, rfl, S6, -, -, B6⟩ := isO_sl HZ.out.2.1 HZ.out.2.2.1 (by have := HX.out.2; omega) o6
      have K6 : Hid (Tw w w6 p X Y ∧ Blk w6 gb 5 (u8s Z ++ rest) ∧ p < gb ∧ 26 + m ≤ cb ∧ Seen w6 q6 (26 + m) Z ∧ (∀ b o, q6 = some ⟨b, o, none⟩ → gb < b)) := ⟨K5.out.1.later l6, K5.out.2.1.later l6 K5.out.2.1.lt, K5.out.2.2.1, K5.out.2.2.2, S6, fun b o e => Nat.lt_of_lt_of_le K5.out.2.1.lt (B6 b o e)⟩
      clear o6 l6 S6 B6 K5
      go_wp2_with (first | ((with_reducible show wpList _ _ _ (({ dst := some 38, op := _, type := _, pos := _, after := _, guard := _ } : Oper) :: _) _ _); refine wpList_load_blk rfl 26 (.tmp 4) rfl _ rfl (hdC Y) _ K6.out.1.bY Try.underlying26 rfl (hsizeC HO.out.2.1.len) ?_))
      have P := put_long Y HO.out.2.1 gb (26 + m) cb Z rest (by omega) (by have := HX.out.2; omega) HZ.out.2.1 w6 K6.out.2.1
      rw [HZ.out.2.2.2.2.2, HV.out.1] at P
      refine P.mono ?_
      clear P
      rintro e w7 ⟨rfl, b7, k7⟩
      have K7 : Hid (Tw w w7 p X Y ∧ Blk w7 gb 5 (u8s V ++ rest) ∧ p < gb ∧ 26 + m ≤ cb ∧ Seen w7 q6 (26 + m) Z ∧ (∀ b o, q6 = some ⟨b, o, none⟩ → gb < b)) := ⟨K6.out.1.kept k7 (fun j e => by have := K6.out.2.2.1; omega), b7, K6.out.2.2.1, K6.out.2.2.2.1, K6.out.2.2.2.2.1.kept k7 (fun b o _ e hj => by have := K6.out.2.2.2.2.2 b o e; omega), K6.out.2.2.2.2.2⟩
      clear b7 k7 K6
      go_wp2_with fail
      refine (parse_good _ (26 + m) cb V K7.out.2.2.2.1 w7 (row_seen K7.out.2.1 HV.out.2.1 HV.out.2.2.1 (by have := HX.out.2; omega)) HV.out.2.2.2.1).mono ?_
      rintro e w8 ⟨v8, rfl, o8, l8⟩
      rw [HV.out.2.2.2.2.1]
      rw [HV.out.2.2.2.2.2, show 26 + m - 26 = m by omega] at o8
      obtain ⟨q8, c8, rfl, S8, -, -, -⟩ := isO_sl HX.out.1.len HX.out.1.bytes (by have := HX.out.2; omega) o8
      have K8 : Hid (Tw w w8 p X Y ∧ Blk w8 gb 5 (u8s V ++ rest) ∧ p < gb ∧ 26 + m ≤ cb ∧ Seen w8 q6 (26 + m) Z ∧ (∀ b o, q6 = some ⟨b, o, none⟩ → gb < b) ∧ Seen w8 q8 m bs) := ⟨K7.out.1.later l8, K7.out.2.1.later l8 K7.out.2.1.lt, K7.out.2.2.1, K7.out.2.2.2.1, K7.out.2.2.2.2.1.later l8 (Nat.le_refl _), K7.out.2.2.2.2.2, S8⟩
      clear o8 l8 S8 K7
      go_wp2_with (first | (refine wpList_alloc_new rfl 26 rfl 20 _ hzero ?_; intro w9 b9 s9 l9) | (refine wpList_store_blk rfl 26 26 _ _ rfl _ rfl _ (hdC Y) rfl b9 (by rw [hdC_length HO.out.2.1.len]; rfl) (hsizeC HO.out.2.1.len) (hdC_one _) ?_; intro x0 bx0 sx0 kx0; have Lx : Below w8.heap.size w8 x0 := below_kept l9 kx0 (by omega) (fun j hj => by omega); have K9 : Hid (Tw w x0 p X Y ∧ Blk x0 gb 5 (u8s V ++ rest) ∧ p < gb ∧ 26 + m ≤ cb ∧ Seen x0 q6 (26 + m) Z ∧ (∀ b o, q6 = some ⟨b, o, none⟩ → gb < b) ∧ Seen x0 q8 m bs ∧ Blk x0 w8.heap.size 26 (hdC Y)) := ⟨K8.out.1.later Lx, K8.out.2.1.later Lx K8.out.2.1.lt, K8.out.2.2.1, K8.out.2.2.2.1, K8.out.2.2.2.2.1.later Lx (Nat.le_refl _), K8.out.2.2.2.2.2.1, K8.out.2.2.2.2.2.2.later Lx (Nat.le_refl _), bx0⟩; clear b9 s9 l9 bx0 sx0 kx0 Lx K8))
      refine region_invGT [.val (.int .i64 0), .val (.bool false), .val (.bool false), .val (.int .i64 0), .val (.bool false), .val (.bool false), .val (.bool false), .val (.agg (hdC Y).toArray), .val (.agg (hdC Y).toArray), .val (.bool false), .val (.bool false), .val (.bool false), .val (.slice q8 m c8), .val (.slice ao m c), .val (.bool true), .val (.bool false), .val (.bool false), .val (.bool false), .val (.slice (some ⟨gb, 0, none⟩) (26 + m) cb), .val (.agg (hdC Y).toArray), .val (.slice ao m c), .any (isO x0.heap.size m bs) (isO_later _ _ _), .any (isO x0.heap.size (26 + m) V) (isO_later _ _ _), .val (.bool true), .val (.bool false)] (by kernel_rfl) (fast_chain [1, 2, 3, 4, 5, 6, 7, 9, 9, 10, 11, 12, 14, 14, 15, 16, 17, 18, 23, 22, 21, 22, 23, 24, 25] (by kernel_rfl)) (by repeat (first | exact trivial | (refine ⟨by first | trivial | rfl, ?_⟩))) (by kernel_rfl) ?_ ?_
      · refine Steps'.cons ?_ (Steps'.cons ?_ (Steps'.cons ?_ (Steps'.cons ?_ (Steps'.cons ?_ (Steps'.cons ?_ (Steps'.cons ?_ (Steps'.cons ?_ (Steps'.cons ?_ (Steps'.cons ?_ (Steps'.cons ?_ (Steps'.cons ?_ (Steps'.cons ?_ (Steps'.cons ?_ (Steps'.cons ?_ (Steps'.cons ?_ (Steps'.cons ?_ (Steps'.cons ?_ (Steps'.cons ?_ (Steps'.cons ?_ (Steps'.cons ?_ (Steps'.cons ?_ (Steps'.cons ?_ (Steps'.cons ?_ (Steps'.cons ?_ (Steps'.one _ _ _ _ _ _ _)))))))))))))))))))))))))
        · intro ax wx hb hs hd
          have h9 : ax.tmps.getD 9 undef = (.int .i64 0) := hs 9 (by kernel_rfl)
          refine Does.value (.int .i64 0) ?_ rfl
          clear hs hd
          go_simp
        · intro ax wx hb hs hd
          have h46 : ax.tmps.getD 46 undef = (.int .i64 0) := hd 0 46 rfl (by kernel_rfl) (by decide)
          refine Does.value (.bool false) ?_ rfl
          clear hs hd
          go_simp
        · intro ax wx hb hs hd
          have h47 : ax.tmps.getD 47 undef = (.bool false) := hd 1 47 rfl (by kernel_rfl) (by decide)
          refine Does.value (.bool false) ?_ rfl
          clear hs hd
          go_simp
        · intro ax wx hb hs hd
          have h12 : ax.tmps.getD 12 undef = (.int .i64 0) := hs 12 (by kernel_rfl)
          refine Does.value (.int .i64 0) ?_ rfl
          clear hs hd
          go_simp
        · intro ax wx hb hs hd
          have h49 : ax.tmps.getD 49 undef = (.int .i64 0) := hd 3 49 rfl (by kernel_rfl) (by decide)
          refine Does.value (.bool false) ?_ rfl
          clear hs hd
          go_simp
        · intro ax wx hb hs hd
          have h48 : ax.tmps.getD 48 undef = (.bool false) := hd 2 48 rfl (by kernel_rfl) (by decide)
          have h50 : ax.tmps.getD 50 undef = (.bool false) := hd 4 50 rfl (by kernel_rfl) (by decide)
          refine Does.value (.bool false) ?_ rfl
          clear hs hd
          go_simp
        · intro ax wx hb hs hd
          have h51 : ax.tmps.getD 51 undef = (.bool false) := hd 5 51 rfl (by kernel_rfl) (by decide)
          refine Does.value (.bool false) ?_ rfl
          clear hs hd
          go_simp
        · intro ax wx hb hs hd
          have h10 : ax.tmps.getD 10 undef = (.pointer (some ⟨w8.heap.size, 0, none⟩)) := hs 10 (by kernel_rfl)
          exact Does.load 26 (.tmp 10) rfl (w8.heap.size) 0 h10 (hdC Y) _ (K9.out.2.2.2.2.2.2.2.later hb K9.out.2.2.2.2.2.2.2.lt).allR Try.underlying26 rfl (hsizeC HO.out.2.1.len)
        · intro ax wx hb hs hd
          have h4 : ax.tmps.getD 4 undef = (.pointer (some ⟨p, 0, none⟩)) := hs 4 (by kernel_rfl)
          exact Does.load 26 (.tmp 4) rfl (p) 0 h4 (hdC Y) _ (K9.out.1.bY.later hb K9.out.1.bY.lt).allR Try.underlying26 rfl (hsizeC HO.out.2.1.len)
        · intro ax wx hb hs hd
          have h53 : ax.tmps.getD 53 undef = (.agg (hdC Y).toArray) := hd 7 53 rfl (by kernel_rfl) (by decide)
          have h54 : ax.tmps.getD 54 undef = (.agg (hdC Y).toArray) := hd 8 54 rfl (by kernel_rfl) (by decide)
          have NYx := NY wx
          refine Does.value (.bool false) ?_ rfl
          clear hs hd
          go_simp
        · intro ax wx hb hs hd
          have h52 : ax.tmps.getD 52 undef = (.bool false) := hd 6 52 rfl (by kernel_rfl) (by decide)
          have h55 : ax.tmps.getD 55 undef = (.bool false) := hd 9 55 rfl (by kernel_rfl) (by decide)
          refine Does.value (.bool false) ?_ rfl
          clear hs hd
          go_simp
        · intro ax wx hb hs hd
          have h56 : ax.tmps.getD 56 undef = (.bool false) := hd 10 56 rfl (by kernel_rfl) (by decide)
          refine Does.value (.bool false) ?_ rfl
          clear hs hd
          go_simp
        · intro ax wx hb hs hd
          have h11 : ax.tmps.getD 11 undef = (.slice q8 m c8) := hs 11 (by kernel_rfl)
          refine Does.value (.slice q8 m c8) ?_ rfl
          clear hs hd
          go_simp
        · intro ax wx hb hs hd
          have h2 : ax.tmps.getD 2 undef = (.slice ao m c) := hs 2 (by kernel_rfl)
          refine Does.value (.slice ao m c) ?_ rfl
          clear hs hd
          go_simp
        · intro ax wx hb hs hd
          have h58 : ax.tmps.getD 58 undef = (.slice q8 m c8) := hd 12 58 rfl (by kernel_rfl) (by decide)
          have h59 : ax.tmps.getD 59 undef = (.slice ao m c) := hd 13 59 rfl (by kernel_rfl) (by decide)
          refine Does.call 14 #[.slice q8 m c8, .slice ao m c] (by clear hs hd; go_simp) ?_
          refine (reqb_any _ _ m m _ _ bs bs wx (K9.out.2.2.2.2.2.2.1.later hb (Nat.le_refl _)) (HX.out.1.later (below_chain K9.out.1.bel hb K9.out.1.bel.size) (Nat.le_refl _))).mono ?_
          rintro e w' ⟨rfl, q, rfl⟩
          rw [decide_eq_true (rfl : bs = bs)]
          exact ⟨_, rfl, rfl, below_dn (Below.refl _ _) q⟩
        · intro ax wx hb hs hd
          have h60 : ax.tmps.getD 60 undef = (.bool true) := hd 14 60 rfl (by kernel_rfl) (by decide)
          refine Does.value (.bool false) ?_ rfl
          clear hs hd
          go_simp
        · intro ax wx hb hs hd
          have h57 : ax.tmps.getD 57 undef = (.bool false) := hd 11 57 rfl (by kernel_rfl) (by decide)
          have h61 : ax.tmps.getD 61 undef = (.bool false) := hd 15 61 rfl (by kernel_rfl) (by decide)
          refine Does.value (.bool false) ?_ rfl
          clear hs hd
          go_simp
        · intro ax wx hb hs hd
          have h62 : ax.tmps.getD 62 undef = (.bool false) := hd 16 62 rfl (by kernel_rfl) (by decide)
          refine Does.value (.bool false) ?_ rfl
          clear hs hd
          go_simp
        · intro ax wx hb hs hd
          have h7 : ax.tmps.getD 7 undef = (.slice (some ⟨gb, 0, none⟩) (26 + m) cb) := hs 7 (by kernel_rfl)
          refine Does.value (.slice (some ⟨gb, 0, none⟩) (26 + m) cb) ?_ rfl
          clear hs hd
          go_simp
        · intro ax wx hb hs hd
          have h4 : ax.tmps.getD 4 undef = (.pointer (some ⟨p, 0, none⟩)) := hs 4 (by kernel_rfl)
          exact Does.load 26 (.tmp 4) rfl (p) 0 h4 (hdC Y) _ (K9.out.1.bY.later hb K9.out.1.bY.lt).allR Try.underlying26 rfl (hsizeC HO.out.2.1.len)
        · intro ax wx hb hs hd
          have h2 : ax.tmps.getD 2 undef = (.slice ao m c) := hs 2 (by kernel_rfl)
          refine Does.value (.slice ao m c) ?_ rfl
          clear hs hd
          go_simp
        · intro ax wx hb hs hd
          have h66 : ax.tmps.getD 66 undef = (.slice ao m c) := hd 20 66 rfl (by kernel_rfl) (by decide)
          refine Does.call 17 #[.slice ao m c] (by clear hs hd; go_simp) ?_
          refine (copyB_any ao m c bs wx (HX.out.1.later (below_chain K9.out.1.bel hb K9.out.1.bel.size) (Nat.le_refl _))).mono ?_
          rintro e w' ⟨v, rfl, o, l⟩
          exact ⟨_, rfl, ownsRow_base o hb.size, l⟩
        · intro ax wx hb hs hd
          have h65 : ax.tmps.getD 65 undef = (.agg (hdC Y).toArray) := hd 19 65 rfl (by kernel_rfl) (by decide)
          have p67 : (isO x0.heap.size m bs) (ax.tmps.getD 67 undef) wx := hd 21 67 rfl (by kernel_rfl) (by decide)
          obtain ⟨q, cq, h67, sq, _, fq, _⟩ := isO_sl HX.out.1.len HX.out.1.bytes (by have := HX.out.2; omega) p67
          clear p67
          refine Does.call 12 #[.agg (hdC Y).toArray, .slice q m cq] (by clear hs hd; go_simp) ?_
          refine (make_any Y HO.out.2.1 q m cq bs fq (by have := HX.out.2; omega) wx sq).mono ?_
          rintro e w' ⟨v, rfl, o, l⟩
          rw [HV.out.1] at o
          exact ⟨_, rfl, isO_base o hb.size, l⟩
        · intro ax wx hb hs hd
          have h64 : ax.tmps.getD 64 undef = (.slice (some ⟨gb, 0, none⟩) (26 + m) cb) := hd 18 64 rfl (by kernel_rfl) (by decide)
          have p68 : (isO x0.heap.size (26 + m) V) (ax.tmps.getD 68 undef) wx := hd 22 68 rfl (by kernel_rfl) (by decide)
          obtain ⟨q, cq, h68, sq, _, _, _⟩ := isO_sl HV.out.2.1 HV.out.2.2.1 (by have := HX.out.2; omega) p68
          clear p68
          refine Does.call 14 #[.slice (some ⟨gb, 0, none⟩) (26 + m) cb, .slice q (26 + m) cq] (by clear hs hd; go_simp) ?_
          refine (reqb_any _ _ (26 + m) (26 + m) _ _ V V wx (row_seen (K9.out.2.1.later hb K9.out.2.1.lt) HV.out.2.1 HV.out.2.2.1 (by have := HX.out.2; omega)) sq).mono ?_
          rintro e w' ⟨rfl, q, rfl⟩
          rw [decide_eq_true (rfl : V = V)]
          exact ⟨_, rfl, rfl, below_dn (Below.refl _ _) q⟩
        · intro ax wx hb hs hd
          have h69 : ax.tmps.getD 69 undef = (.bool true) := hd 23 69 rfl (by kernel_rfl) (by decide)
          refine Does.value (.bool false) ?_ rfl
          clear hs hd
          go_simp
      · intro wx hb
        refine @Ends.val _ _ _ _ _ _ _ _ _ (.int .i64 0) rfl ?_
        refine @Ends.val _ _ _ _ _ _ _ _ _ (.bool false) rfl ?_
        refine @Ends.val _ _ _ _ _ _ _ _ _ (.bool false) rfl ?_
        refine @Ends.val _ _ _ _ _ _ _ _ _ (.int .i64 0) rfl ?_
        refine @Ends.val _ _ _ _ _ _ _ _ _ (.bool false) rfl ?_
        refine @Ends.val _ _ _ _ _ _ _ _ _ (.bool false) rfl ?_
        refine @Ends.val _ _ _ _ _ _ _ _ _ (.bool false) rfl ?_
        refine @Ends.val _ _ _ _ _ _ _ _ _ (.agg (hdC Y).toArray) rfl ?_
        refine @Ends.val _ _ _ _ _ _ _ _ _ (.agg (hdC Y).toArray) rfl ?_
        refine @Ends.val _ _ _ _ _ _ _ _ _ (.bool false) rfl ?_
        refine @Ends.val _ _ _ _ _ _ _ _ _ (.bool false) rfl ?_
        refine @Ends.val _ _ _ _ _ _ _ _ _ (.bool false) rfl ?_
        refine @Ends.val _ _ _ _ _ _ _ _ _ (.slice q8 m c8) rfl ?_
        refine @Ends.val _ _ _ _ _ _ _ _ _ (.slice ao m c) rfl ?_
        refine @Ends.val _ _ _ _ _ _ _ _ _ (.bool true) rfl ?_
        refine @Ends.val _ _ _ _ _ _ _ _ _ (.bool false) rfl ?_
        refine @Ends.val _ _ _ _ _ _ _ _ _ (.bool false) rfl ?_
        refine @Ends.val _ _ _ _ _ _ _ _ _ (.bool false) rfl ?_
        refine @Ends.val _ _ _ _ _ _ _ _ _ (.slice (some ⟨gb, 0, none⟩) (26 + m) cb) rfl ?_
        refine @Ends.val _ _ _ _ _ _ _ _ _ (.agg (hdC Y).toArray) rfl ?_
        refine @Ends.val _ _ _ _ _ _ _ _ _ (.slice ao m c) rfl ?_
        refine @Ends.any _ _ _ _ _ _ _ _ _ (isO x0.heap.size m bs) (isO_later _ _ _) rfl ?_
        intro v67 p67
        refine @Ends.any _ _ _ _ _ _ _ _ _ (isO x0.heap.size (26 + m) V) (isO_later _ _ _) rfl ?_
        intro v68 p68
        refine @Ends.val _ _ _ _ _ _ _ _ _ (.bool true) rfl ?_
        refine @Ends.val _ _ _ _ _ _ _ _ _ (.bool false) rfl ?_
        refine @Ends.one _ _ _ _ _ _ _ ?_
        simp only [Act.put, List.setIfInBounds_toArray, List.set_cons_zero, List.set_cons_succ]
        have K10 : Hid (Tw w wx p X Y ∧ Blk wx gb 5 (u8s V ++ rest) ∧ p < gb ∧ 26 + m ≤ cb ∧ Seen wx q6 (26 + m) Z ∧ (∀ b o, q6 = some ⟨b, o, none⟩ → gb < b)) := ⟨K9.out.1.later hb, K9.out.2.1.later hb K9.out.2.1.lt, K9.out.2.2.1, K9.out.2.2.2.1, K9.out.2.2.2.2.1.later hb (Nat.le_refl _), K9.out.2.2.2.2.2.1⟩
        clear p67 p68 hb K9
        refine last_valueP (some 71) rfl (.bool false) (by go_simp) ?_
        simp only [Act.put, List.setIfInBounds_toArray, List.set_cons_zero, List.set_cons_succ]
        obtain ⟨x1, hx1⟩ : ∃ u, wx = u := ⟨_, rfl⟩
        rw [hx1] at K10 ⊢
        clear hx1
        go_wp2_with fail
        rcases lX with lx | lx
        · have LL : Hid (liveB Z = false ∧ X.live = 0) := ⟨by rw [LV.out, lx]; rfl, lx⟩
          clear lx
          refine wp_region_noPanic (wp_region_held_drew (S := fun W => Blk W w.heap.size 26 (hdC X)) (by kernel_rfl) (K10.out.1.bx).drew (fun hH => ?_))
          refine hTake 0 (some 72) (.slice (some ⟨gb, 0, none⟩) (26 + m) cb) rfl rfl (by kernel_rfl) (by kernel_rfl) (by kernel_rfl) (fun _ _ _ h => h) (by kernel_rfl) (fun W' hS' => by go_simp) hH ?_
          simp only [Act.put, List.setIfInBounds_toArray, List.set_cons_zero, List.set_cons_succ]
          refine hLoad 1 (some 73) (hdC X) rfl rfl (by kernel_rfl) (by kernel_rfl) (by kernel_rfl) (fun _ _ _ h => h) (by kernel_rfl) 26 (.tmp 3) rfl w.heap.size 0 rfl _ (fun _ h => h.allR) Try.underlying26 rfl (hsizeC HO.out.1.len) hH ?_
          simp only [Act.put, List.setIfInBounds_toArray, List.set_cons_zero, List.set_cons_succ]
          refine wpAnyH_ready (rs := [2]) (by kernel_rfl) (by simp) (AllReadyH.cons rfl (fun K hK => ?_) AllReadyH.nil)
          refine if_yes (by kernel_rfl) ?_
          refine wp_callG 20 #[.slice (some ⟨gb, 0, none⟩) (26 + m) cb, .agg (hdC X).toArray] (by go_simp) ?_
          have P := put_long X HO.out.1 gb (26 + m) cb V rest (by omega) (by have := HX.out.2; omega) HV.out.2.1 x1.drew K10.out.2.1.drew
          rw [HV.out.2.2.2.2.2, HZ.out.1] at P
          refine P.mono ?_
          clear P
          rintro e x2 ⟨rfl, b2, k2⟩
          refine ⟨_, rfl, ?_⟩
          have K11 : Hid (Below w.heap.size w x2 ∧ Blk x2 gb 5 (u8s Z ++ rest) ∧ Seen x2 q6 (26 + m) Z ∧ Blk x2 w.heap.size 26 (hdC X)) := ⟨below_kept (below_dn K10.out.1.bel 1) k2 K10.out.1.bel.size (fun j hj e => by have := K10.out.2.2.1; have := K10.out.1.lt; omega), b2, (K10.out.2.2.2.2.1.drew).kept k2 (fun b o _ e hj => by have := K10.out.2.2.2.2.2 b o e; omega), K10.out.1.bx.drew.kept k2 (fun e => by have := K10.out.2.2.1; have := K10.out.1.lt; omega)⟩
          change K (Act.put _ (some 74) (.int .i64 0)) x2
          refine hK.out _ _ K11.out.2.2.2 (fun hH => ?_)
          clear hK K b2 k2
          simp only [Act.put, List.setIfInBounds_toArray, List.set_cons_zero, List.set_cons_succ]
          refine hTake 3 (some 75) (.bool true) rfl rfl (by kernel_rfl) (by kernel_rfl) (by kernel_rfl) (fun _ _ _ h => h) (by kernel_rfl) (fun W' hS' => by go_simp) hH ?_
          simp only [Act.put, List.setIfInBounds_toArray, List.set_cons_zero, List.set_cons_succ]
          refine hTake 4 (some 76) (.bool true) rfl rfl (by kernel_rfl) (by kernel_rfl) (by kernel_rfl) (fun _ _ _ h => h) (by kernel_rfl) (fun W' hS' => by go_simp) hH ?_
          simp only [Act.put, List.setIfInBounds_toArray, List.set_cons_zero, List.set_cons_succ]
          refine hTake 5 (some 77) (.slice (some ⟨gb, 0, none⟩) (26 + m) cb) rfl rfl (by kernel_rfl) (by kernel_rfl) (by kernel_rfl) (fun _ _ _ h => h) (by kernel_rfl) (fun W' hS' => by go_simp) hH ?_
          simp only [Act.put, List.setIfInBounds_toArray, List.set_cons_zero, List.set_cons_succ]
          refine hTake 6 (some 78) (.slice q6 (26 + m) c6) rfl rfl (by kernel_rfl) (by kernel_rfl) (by kernel_rfl) (fun _ _ _ h => h) (by kernel_rfl) (fun W' hS' => by go_simp) hH ?_
          simp only [Act.put, List.setIfInBounds_toArray, List.set_cons_zero, List.set_cons_succ]
          refine wpAnyH_ready (rs := [7]) (by kernel_rfl) (by simp) (AllReadyH.cons rfl (fun K hK => ?_) AllReadyH.nil)
          refine if_yes (by kernel_rfl) ?_
          refine wp_callG 14 #[.slice (some ⟨gb, 0, none⟩) (26 + m) cb, .slice q6 (26 + m) c6] (by go_simp) ?_
          refine (reqb_any _ _ (26 + m) (26 + m) _ _ Z Z x2 (row_seen K11.out.2.1 HZ.out.2.1 HZ.out.2.2.1 (by have := HX.out.2; omega)) K11.out.2.2.1).mono ?_
          rintro e _ ⟨rfl, qq, rfl⟩
          rw [decide_eq_true (rfl : Z = Z)]
          refine ⟨_, rfl, ?_⟩
          obtain ⟨x3, hx3⟩ : ∃ u, x2.drewN qq = u := ⟨_, rfl⟩
          rw [hx3]
          have K12 : Hid (Below w.heap.size w x3 ∧ Blk x3 gb 5 (u8s Z ++ rest) ∧ Blk x3 w.heap.size 26 (hdC X)) := ⟨hx3 ▸ below_dn K11.out.1 qq, hx3 ▸ K11.out.2.1.drewN qq, hx3 ▸ K11.out.2.2.2.drewN qq⟩
          change K (Act.put _ (some 79) (.bool true)) x3
          refine hK.out _ _ K12.out.2.2 (fun hH => ?_)
          clear hK K hx3 K11
          simp only [Act.put, List.setIfInBounds_toArray, List.set_cons_zero, List.set_cons_succ]
          refine hTake 8 (some 80) (.bool true) rfl rfl (by kernel_rfl) (by kernel_rfl) (by kernel_rfl) (fun _ _ _ h => h) (by kernel_rfl) (fun W' hS' => by go_simp) hH ?_
          simp only [Act.put, List.setIfInBounds_toArray, List.set_cons_zero, List.set_cons_succ]
          refine hTake 9 (some 81) (.bool true) rfl rfl (by kernel_rfl) (by kernel_rfl) (by kernel_rfl) (fun _ _ _ h => h) (by kernel_rfl) (fun W' hS' => by go_simp) hH ?_
          simp only [Act.put, List.setIfInBounds_toArray, List.set_cons_zero, List.set_cons_succ]
          refine hTake 10 (some 82) (.slice (some ⟨gb, 0, none⟩) (26 + m) cb) rfl rfl (by kernel_rfl) (by kernel_rfl) (by kernel_rfl) (fun _ _ _ h => h) (by kernel_rfl) (fun W' hS' => by go_simp) hH ?_
          simp only [Act.put, List.setIfInBounds_toArray, List.set_cons_zero, List.set_cons_succ]
          refine hTake 13 (some 85) (.pointer (some ⟨w.heap.size, 0, none⟩)) rfl rfl (by kernel_rfl) (by kernel_rfl) (by kernel_rfl) (fun _ _ _ h => h) (by kernel_rfl) (fun W' hS' => by go_simp) hH ?_
          simp only [Act.put, List.setIfInBounds_toArray, List.set_cons_zero, List.set_cons_succ]
          refine hTake 14 (some 86) (.int .u8 0) rfl rfl (by kernel_rfl) (by kernel_rfl) (by kernel_rfl) (fun _ _ _ h => h) (by kernel_rfl) (fun W' hS' => by have cx : W'.cell? ⟨w.heap.size, 0, none⟩ = some (.int .u8 0) := (by have q := Blk.cell (t := 26) hS' 0; rwa [hdC, LL.out.2] at q); go_simp) hH ?_
          simp only [Act.put, List.setIfInBounds_toArray, List.set_cons_zero, List.set_cons_succ]
          refine hTake 15 (some 87) (.bool false) rfl rfl (by kernel_rfl) (by kernel_rfl) (by kernel_rfl) (fun _ _ _ h => h) (by kernel_rfl) (fun W' hS' => by go_simp) hH ?_
          simp only [Act.put, List.setIfInBounds_toArray, List.set_cons_zero, List.set_cons_succ]
          refine wpAnyH_ready (rs := [11]) (by kernel_rfl) (by simp) (AllReadyH.cons rfl (fun K hK => ?_) AllReadyH.nil)
          refine if_yes (by kernel_rfl) ?_
          refine wp_callG 22 #[.slice (some ⟨gb, 0, none⟩) (26 + m) cb] (by go_simp) ?_
          refine (Live_any _ (26 + m) cb Z K10.out.2.2.2.1 x3 (row_seen K12.out.2.1 HZ.out.2.1 HZ.out.2.2.1 (by have := HX.out.2; omega))).mono ?_
          rintro e x4 ⟨rfl, l4⟩
          rw [LL.out.1, mk_false]
          refine ⟨_, rfl, ?_⟩
          have K13 : Hid (Below w.heap.size w x4 ∧ Blk x4 w.heap.size 26 (hdC X)) := ⟨below_chain K12.out.1 l4 K12.out.1.size, K12.out.2.2.later l4 K12.out.2.2.lt⟩
          change K (Act.put _ (some 83) (.int .u64 0)) x4
          refine hK.out _ _ K13.out.2 (fun hH => ?_)
          clear hK K l4 K12
          simp only [Act.put, List.setIfInBounds_toArray, List.set_cons_zero, List.set_cons_succ]
          refine hTake 12 (some 84) (.bool false) rfl rfl (by kernel_rfl) (by kernel_rfl) (by kernel_rfl) (fun _ _ _ h => h) (by kernel_rfl) (fun W' hS' => by go_simp) hH ?_
          simp only [Act.put, List.setIfInBounds_toArray, List.set_cons_zero, List.set_cons_succ]
          refine hTake 16 (some 88) (.bool true) rfl rfl (by kernel_rfl) (by kernel_rfl) (by kernel_rfl) (fun _ _ _ h => h) (by kernel_rfl) (fun W' hS' => by go_simp) hH ?_
          simp only [Act.put, List.setIfInBounds_toArray, List.set_cons_zero, List.set_cons_succ]
          refine hTake 17 (some 89) (.bool true) rfl rfl (by kernel_rfl) (by kernel_rfl) (by kernel_rfl) (fun _ _ _ h => h) (by kernel_rfl) (fun W' hS' => by go_simp) hH ?_
          simp only [Act.put, List.setIfInBounds_toArray, List.set_cons_zero, List.set_cons_succ]
          refine hTake 18 (some 6) (.bool true) rfl rfl (by kernel_rfl) (by kernel_rfl) (by kernel_rfl) (fun _ _ _ h => h) (by kernel_rfl) (fun W' hS' => by go_simp) hH ?_
          simp only [Act.put, List.setIfInBounds_toArray, List.set_cons_zero, List.set_cons_succ]
          refine wpAnyH_done (by kernel_rfl) (NoPanic.normal ?_) _
          clear hH
          go_wp2
          go_ret
          exact ⟨rfl, K13.out.1⟩
        · have LL : Hid (liveB Z = true ∧ X.live = 1) := ⟨by rw [LV.out, lx]; rfl, lx⟩
          clear lx
          refine wp_region_noPanic (wp_region_held_drew (S := fun W => Blk W w.heap.size 26 (hdC X)) (by kernel_rfl) (K10.out.1.bx).drew (fun hH => ?_))
          refine hTake 0 (some 72) (.slice (some ⟨gb, 0, none⟩) (26 + m) cb) rfl rfl (by kernel_rfl) (by kernel_rfl) (by kernel_rfl) (fun _ _ _ h => h) (by kernel_rfl) (fun W' hS' => by go_simp) hH ?_
          simp only [Act.put, List.setIfInBounds_toArray, List.set_cons_zero, List.set_cons_succ]
          refine hLoad 1 (some 73) (hdC X) rfl rfl (by kernel_rfl) (by kernel_rfl) (by kernel_rfl) (fun _ _ _ h => h) (by kernel_rfl) 26 (.tmp 3) rfl w.heap.size 0 rfl _ (fun _ h => h.allR) Try.underlying26 rfl (hsizeC HO.out.1.len) hH ?_
          simp only [Act.put, List.setIfInBounds_toArray, List.set_cons_zero, List.set_cons_succ]
          refine wpAnyH_ready (rs := [2]) (by kernel_rfl) (by simp) (AllReadyH.cons rfl (fun K hK => ?_) AllReadyH.nil)
          refine if_yes (by kernel_rfl) ?_
          refine wp_callG 20 #[.slice (some ⟨gb, 0, none⟩) (26 + m) cb, .agg (hdC X).toArray] (by go_simp) ?_
          have P := put_long X HO.out.1 gb (26 + m) cb V rest (by omega) (by have := HX.out.2; omega) HV.out.2.1 x1.drew K10.out.2.1.drew
          rw [HV.out.2.2.2.2.2, HZ.out.1] at P
          refine P.mono ?_
          clear P
          rintro e x2 ⟨rfl, b2, k2⟩
          refine ⟨_, rfl, ?_⟩
          have K11 : Hid (Below w.heap.size w x2 ∧ Blk x2 gb 5 (u8s Z ++ rest) ∧ Seen x2 q6 (26 + m) Z ∧ Blk x2 w.heap.size 26 (hdC X)) := ⟨below_kept (below_dn K10.out.1.bel 1) k2 K10.out.1.bel.size (fun j hj e => by have := K10.out.2.2.1; have := K10.out.1.lt; omega), b2, (K10.out.2.2.2.2.1.drew).kept k2 (fun b o _ e hj => by have := K10.out.2.2.2.2.2 b o e; omega), K10.out.1.bx.drew.kept k2 (fun e => by have := K10.out.2.2.1; have := K10.out.1.lt; omega)⟩
          change K (Act.put _ (some 74) (.int .i64 0)) x2
          refine hK.out _ _ K11.out.2.2.2 (fun hH => ?_)
          clear hK K b2 k2
          simp only [Act.put, List.setIfInBounds_toArray, List.set_cons_zero, List.set_cons_succ]
          refine hTake 3 (some 75) (.bool true) rfl rfl (by kernel_rfl) (by kernel_rfl) (by kernel_rfl) (fun _ _ _ h => h) (by kernel_rfl) (fun W' hS' => by go_simp) hH ?_
          simp only [Act.put, List.setIfInBounds_toArray, List.set_cons_zero, List.set_cons_succ]
          refine hTake 4 (some 76) (.bool true) rfl rfl (by kernel_rfl) (by kernel_rfl) (by kernel_rfl) (fun _ _ _ h => h) (by kernel_rfl) (fun W' hS' => by go_simp) hH ?_
          simp only [Act.put, List.setIfInBounds_toArray, List.set_cons_zero, List.set_cons_succ]
          refine hTake 5 (some 77) (.slice (some ⟨gb, 0, none⟩) (26 + m) cb) rfl rfl (by kernel_rfl) (by kernel_rfl) (by kernel_rfl) (fun _ _ _ h => h) (by kernel_rfl) (fun W' hS' => by go_simp) hH ?_
          simp only [Act.put, List.setIfInBounds_toArray, List.set_cons_zero, List.set_cons_succ]
          refine hTake 6 (some 78) (.slice q6 (26 + m) c6) rfl rfl (by kernel_rfl) (by kernel_rfl) (by kernel_rfl) (fun _ _ _ h => h) (by kernel_rfl) (fun W' hS' => by go_simp) hH ?_
          simp only [Act.put, List.setIfInBounds_toArray, List.set_cons_zero, List.set_cons_succ]
          refine wpAnyH_ready (rs := [7]) (by kernel_rfl) (by simp) (AllReadyH.cons rfl (fun K hK => ?_) AllReadyH.nil)
          refine if_yes (by kernel_rfl) ?_
          refine wp_callG 14 #[.slice (some ⟨gb, 0, none⟩) (26 + m) cb, .slice q6 (26 + m) c6] (by go_simp) ?_
          refine (reqb_any _ _ (26 + m) (26 + m) _ _ Z Z x2 (row_seen K11.out.2.1 HZ.out.2.1 HZ.out.2.2.1 (by have := HX.out.2; omega)) K11.out.2.2.1).mono ?_
          rintro e _ ⟨rfl, qq, rfl⟩
          rw [decide_eq_true (rfl : Z = Z)]
          refine ⟨_, rfl, ?_⟩
          obtain ⟨x3, hx3⟩ : ∃ u, x2.drewN qq = u := ⟨_, rfl⟩
          rw [hx3]
          have K12 : Hid (Below w.heap.size w x3 ∧ Blk x3 gb 5 (u8s Z ++ rest) ∧ Blk x3 w.heap.size 26 (hdC X)) := ⟨hx3 ▸ below_dn K11.out.1 qq, hx3 ▸ K11.out.2.1.drewN qq, hx3 ▸ K11.out.2.2.2.drewN qq⟩
          change K (Act.put _ (some 79) (.bool true)) x3
          refine hK.out _ _ K12.out.2.2 (fun hH => ?_)
          clear hK K hx3 K11
          simp only [Act.put, List.setIfInBounds_toArray, List.set_cons_zero, List.set_cons_succ]
          refine hTake 8 (some 80) (.bool true) rfl rfl (by kernel_rfl) (by kernel_rfl) (by kernel_rfl) (fun _ _ _ h => h) (by kernel_rfl) (fun W' hS' => by go_simp) hH ?_
          simp only [Act.put, List.setIfInBounds_toArray, List.set_cons_zero, List.set_cons_succ]
          refine hTake 9 (some 81) (.bool true) rfl rfl (by kernel_rfl) (by kernel_rfl) (by kernel_rfl) (fun _ _ _ h => h) (by kernel_rfl) (fun W' hS' => by go_simp) hH ?_
          simp only [Act.put, List.setIfInBounds_toArray, List.set_cons_zero, List.set_cons_succ]
          refine hTake 10 (some 82) (.slice (some ⟨gb, 0, none⟩) (26 + m) cb) rfl rfl (by kernel_rfl) (by kernel_rfl) (by kernel_rfl) (fun _ _ _ h => h) (by kernel_rfl) (fun W' hS' => by go_simp) hH ?_
          simp only [Act.put, List.setIfInBounds_toArray, List.set_cons_zero, List.set_cons_succ]
          refine hTake 13 (some 85) (.pointer (some ⟨w.heap.size, 0, none⟩)) rfl rfl (by kernel_rfl) (by kernel_rfl) (by kernel_rfl) (fun _ _ _ h => h) (by kernel_rfl) (fun W' hS' => by go_simp) hH ?_
          simp only [Act.put, List.setIfInBounds_toArray, List.set_cons_zero, List.set_cons_succ]
          refine hTake 14 (some 86) (.int .u8 1) rfl rfl (by kernel_rfl) (by kernel_rfl) (by kernel_rfl) (fun _ _ _ h => h) (by kernel_rfl) (fun W' hS' => by have cx : W'.cell? ⟨w.heap.size, 0, none⟩ = some (.int .u8 1) := (by have q := Blk.cell (t := 26) hS' 0; rwa [hdC, LL.out.2] at q); go_simp) hH ?_
          simp only [Act.put, List.setIfInBounds_toArray, List.set_cons_zero, List.set_cons_succ]
          refine hTake 15 (some 87) (.bool true) rfl rfl (by kernel_rfl) (by kernel_rfl) (by kernel_rfl) (fun _ _ _ h => h) (by kernel_rfl) (fun W' hS' => by go_simp) hH ?_
          simp only [Act.put, List.setIfInBounds_toArray, List.set_cons_zero, List.set_cons_succ]
          refine wpAnyH_ready (rs := [11]) (by kernel_rfl) (by simp) (AllReadyH.cons rfl (fun K hK => ?_) AllReadyH.nil)
          refine if_yes (by kernel_rfl) ?_
          refine wp_callG 22 #[.slice (some ⟨gb, 0, none⟩) (26 + m) cb] (by go_simp) ?_
          refine (Live_any _ (26 + m) cb Z K10.out.2.2.2.1 x3 (row_seen K12.out.2.1 HZ.out.2.1 HZ.out.2.2.1 (by have := HX.out.2; omega))).mono ?_
          rintro e x4 ⟨rfl, l4⟩
          rw [LL.out.1, mk_true]
          refine ⟨_, rfl, ?_⟩
          have K13 : Hid (Below w.heap.size w x4 ∧ Blk x4 w.heap.size 26 (hdC X)) := ⟨below_chain K12.out.1 l4 K12.out.1.size, K12.out.2.2.later l4 K12.out.2.2.lt⟩
          change K (Act.put _ (some 83) (.int .u64 18446744073709551615)) x4
          refine hK.out _ _ K13.out.2 (fun hH => ?_)
          clear hK K l4 K12
          simp only [Act.put, List.setIfInBounds_toArray, List.set_cons_zero, List.set_cons_succ]
          refine hTake 12 (some 84) (.bool true) rfl rfl (by kernel_rfl) (by kernel_rfl) (by kernel_rfl) (fun _ _ _ h => h) (by kernel_rfl) (fun W' hS' => by go_simp) hH ?_
          simp only [Act.put, List.setIfInBounds_toArray, List.set_cons_zero, List.set_cons_succ]
          refine hTake 16 (some 88) (.bool true) rfl rfl (by kernel_rfl) (by kernel_rfl) (by kernel_rfl) (fun _ _ _ h => h) (by kernel_rfl) (fun W' hS' => by go_simp) hH ?_
          simp only [Act.put, List.setIfInBounds_toArray, List.set_cons_zero, List.set_cons_succ]
          refine hTake 17 (some 89) (.bool true) rfl rfl (by kernel_rfl) (by kernel_rfl) (by kernel_rfl) (fun _ _ _ h => h) (by kernel_rfl) (fun W' hS' => by go_simp) hH ?_
          simp only [Act.put, List.setIfInBounds_toArray, List.set_cons_zero, List.set_cons_succ]
          refine hTake 18 (some 6) (.bool true) rfl rfl (by kernel_rfl) (by kernel_rfl) (by kernel_rfl) (fun _ _ _ h => h) (by kernel_rfl) (fun W' hS' => by go_simp) hH ?_
          simp only [Act.put, List.setIfInBounds_toArray, List.set_cons_zero, List.set_cons_succ]
          refine wpAnyH_done (by kernel_rfl) (NoPanic.normal ?_) _
          clear hH
          go_wp2
          go_ret
          exact ⟨rfl, K13.out.1⟩
end Go.Proofs.Ytabdjoljdefjdaa.recordPut
