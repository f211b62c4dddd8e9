/- Layer field: Swap. -/
import Derived.Test.YtnifolefhelmcaaFPick
import Derived.Test.YtnifolefhelmcaaRInvP
import Derived.Test.YtnifolefhelmcaaDHeld
namespace Go.Proofs.Ytnifolefhelmcaa
open Go.RowKit
set_option linter.unusedVariables false
set_option linter.unusedSimpArgs false

theorem ret_blk2 {fn : Func} {p q : Tmp} {ty tz : TypeId} (h : fn.results = #[.cell p ty, .cell q tz]) {R : Ending → World → Prop} {a : Act} {w : World} (g g2 : Nat) (vs us : List Value) (d d2 : TypeDesc) (hp : a.tmps.getD p undef = .pointer (some ⟨g, 0, none⟩)) (hq : a.tmps.getD q undef = .pointer (some ⟨g2, 0, none⟩))
    (hb : Blk w g ty vs) (hb2 : Blk w g2 tz us) (hu : Try.prog.underlying ty = some d) (hu2 : Try.prog.underlying tz = some d2) (hd : d.isRow = true) (hd2 : d2.isRow = true) (hi : (Try.prog.info? ty).map (·.size) = some vs.length) (hi2 : (Try.prog.info? tz).map (·.size) = some us.length) (hdef : a.defers = []) (hR : R (.returned (.tuple #[.agg vs.toArray, .agg us.toArray])) w) : bodyPost Try.prog fn R .ret a w := by
  refine bodyPost_ret (v := .tuple #[.agg vs.toArray, .agg us.toArray]) ?_ hdef hR
  have hp' : a.tmps[p]?.getD undef = .pointer (some ⟨g, 0, none⟩) := by simpa using hp
  have hq' : a.tmps[q]?.getD undef = .pointer (some ⟨g2, 0, none⟩) := by simpa using hq
  have hl := run_loadVar_row (P := Try.prog) w g ty ty vs.toArray (0, 0) d hb hu (by cases d <;> simp_all) (by simpa using hi)
  have hl2 := run_loadVar_row (P := Try.prog) w g2 tz tz us.toArray (0, 0) d2 hb2 hu2 (by cases d2 <;> simp_all) (by simpa using hi2)
  simp [results, h, hp', hq', asAddr, hl, hl2]
theorem ret_blkt {fn : Func} {p q : Tmp} {ty : TypeId} (h : fn.results = #[.cell p ty, .tmp q]) {R : Ending → World → Prop} {a : Act} {w : World} (g : Nat) (vs : List Value) (d : TypeDesc) (v : Value) (hp : a.tmps.getD p undef = .pointer (some ⟨g, 0, none⟩)) (hq : a.tmps.getD q undef = v)
    (hb : Blk w g ty vs) (hu : Try.prog.underlying ty = some d) (hd : d.isRow = true) (hi : (Try.prog.info? ty).map (·.size) = some vs.length) (hdef : a.defers = []) (hR : R (.returned (.tuple #[.agg vs.toArray, v])) w) : bodyPost Try.prog fn R .ret a w := by
  refine bodyPost_ret (v := .tuple #[.agg vs.toArray, v]) ?_ hdef hR
  have hp' : a.tmps[p]?.getD undef = .pointer (some ⟨g, 0, none⟩) := by simpa using hp
  have hq' : a.tmps[q]?.getD undef = v := by simpa using hq
  have hl := run_loadVar_row (P := Try.prog) w g ty ty vs.toArray (0, 0) d hb hu (by cases d <;> simp_all) (by simpa using hi)
  simp [results, h, hp', hq', asAddr, hl]
theorem mex_any (m x y : Int) (hm : Word m) (hx : Word x) (hy : Word y) (w : World) :
    Calls Try.prog 88 #[.int .u64 m, .int .u64 x, .int .u64 y] w fun e w' => e = .returned (.tuple #[.int .u64 (pk m y x), .int .u64 (pk m x y)]) ∧ w = w' := by
  go_enter Try.func88, Try.ntmps88
  go_wp2_with (go_at_call 89; refine (ch64_any _ _ _ hm (by assumption) (by assumption) _).mono ?_; rintro e w' ⟨rfl, rfl⟩)
  go_ret2
  exact ⟨rfl, rfl⟩
theorem mswap_any (m x y : Int) (hm : Word m) (hx : Word x) (hy : Word y) (w : World) :
    Calls Try.prog 66 #[.int .u64 m, .int .u64 x, .int .u64 y] w fun e w' => e = .returned (.tuple #[.int .u64 (pk m y x), .int .u64 (pk m x y)]) ∧ w = w' := by
  go_enter Try.func66, Try.ntmps66
  go_wp2_with (go_at_call 88; refine (mex_any _ _ _ hm hx hy _).mono ?_; rintro e w' ⟨rfl, rfl⟩)
  go_ret2
  exact ⟨rfl, rfl⟩
set_option maxRecDepth 20000 in
set_option maxHeartbeats 1000000 in
theorem fswap_any (n : Int) (hn : Word n) (l m : List Int) (x y : Int) (hl : Fe l x) (hm : Fe m y) (w : World) :
    Calls Try.prog 27 #[.int .u64 n, .agg (u64s l).toArray, .agg (u64s m).toArray] w fun e w' => e = .returned (.tuple #[.agg (u64s (bif n % 2 == 1 then m else l)).toArray, .agg (u64s (bif n % 2 == 1 then l else m)).toArray]) ∧ Below w.heap.size w w' := by
  have HL : Hid (Fe l x ∧ Fe m y) := ⟨hl, hm⟩
  have hbit := bit_any n hn
  obtain ⟨c, hc⟩ : ∃ c, (n % 2 == 1) = c := ⟨_, rfl⟩
  rw [hc] at hbit ⊢
  clear hl hm hc
  have HM : Hid (Word (mk c)) := mk_bd c
  obtain ⟨M, hMM⟩ : ∃ z, mk c = z := ⟨_, rfl⟩
  have HP : Hid (∀ a b, Word a → Word b → ∀ w, Calls Try.prog 66 #[.int .u64 M, .int .u64 a, .int .u64 b] w fun e w' => e = .returned (.tuple #[.int .u64 (bif c then b else a), .int .u64 (bif c then a else b)]) ∧ w = w') := fun a b ha hb w => by
    have h := mswap_any (mk c) a b HM.out ha hb w
    rwa [pk_mk c a b ha hb, pk_mk c b a hb ha, hMM] at h
  rw [hMM] at hbit
  clear hMM HM
  go_enter Try.func27, Try.ntmps27
  go_wp2_with (first | (refine wpList_box_new rfl 27 (.tmp 1) rfl (u64s l) rfl ?_; intro x1 z1 s1 l1) | (refine wpList_box_new rfl 27 (.tmp 2) rfl (u64s m) rfl ?_; intro x2 z2 s2 l2) | ((with_reducible show wpList _ _ _ (({ dst := some 6, op := _, type := _, pos := _, after := _, guard := _ } : Oper) :: _) _ _); refine wpList_alloc_new rfl 27 rfl 5 _ zeroElem ?_; intro x3 z3 s3 l3) | ((with_reducible show wpList _ _ _ (({ dst := some 7, op := _, type := _, pos := _, after := _, guard := _ } : Oper) :: _) _ _); refine wpList_alloc_new rfl 27 rfl 5 _ zeroElem ?_; intro x4 z4 s4 l4) | (go_at_call 65; refine (hbit _).mono ?_; rintro e w' ⟨rfl, rfl⟩))
  have e2 : x1.heap.size = w.heap.size + 1 := s1
  have e3 : x2.heap.size = w.heap.size + 1 + 1 := by omega
  have e4 : x3.heap.size = w.heap.size + 1 + 1 + 1 := by omega
  rw [e2] at z2
  rw [e3] at z3
  rw [e4] at z4
  have WW : Hid (Below w.heap.size w x4 ∧ Blk x4 w.heap.size 27 (u64s l) ∧ Blk x4 (w.heap.size + 1) 27 (u64s m) ∧ Blk x4 (w.heap.size + 1 + 1) 27 (u64s [0, 0, 0, 0, 0]) ∧ Blk x4 (w.heap.size + 1 + 1 + 1) 27 (u64s [0, 0, 0, 0, 0])) := ⟨below_chain (below_chain (below_chain l1 l2 (by omega)) l3 (by omega)) l4 (by omega), ((z1.later l2 (by omega)).later l3 (by omega)).later l4 (by omega), (z2.later l3 (by omega)).later l4 (by omega), z3.later l4 (by omega), z4⟩
  clear z1 s1 l1 z2 s2 l2 z3 s3 l3 z4 s4 l4 e2 e3 e4
  go_loopw [12] (fun i wr => ∃ (k : Nat), k ≤ 5 ∧ i = .int .i64 k ∧ Blk wr w.heap.size 27 (u64s (zipK (fun a b => bif c then b else a) k l m)) ∧ Blk wr (w.heap.size + 1) 27 (u64s (zipK (fun b a => bif c then a else b) k m l)) ∧ Kept (fun x => x = w.heap.size ∨ x = w.heap.size + 1) x4 wr) (fun i _ => 5 - (intOf i).toNat)
  case atStart => exact ⟨0, by omega, rfl, by have := WW.out.2.1; cases l <;> exact this, by have := WW.out.2.2.1; cases m <;> exact this, Kept.refl _ _⟩
  case round =>
    obtain ⟨k, hk, rfl, hblk, hblm, hkp⟩ := hrel
    by_cases hlt : k < 5
    · have h1 : k < l.length := by rw [HL.out.1.len]; exact hlt
      have h2 : k < m.length := by rw [HL.out.2.len]; exact hlt
      obtain ⟨X, hX⟩ : ∃ X, l[k] = X := ⟨_, rfl⟩
      obtain ⟨Y, hY⟩ : ∃ Y, m[k] = Y := ⟨_, rfl⟩
      have lX : Lim X := hX ▸ lim_at HL.out.1.lim k h1
      have lY : Lim Y := hY ▸ lim_at HL.out.2.lim k h2
      have ck : wr.cell? ⟨w.heap.size, k, none⟩ = some (.int .u64 X) := by
        rw [hblk.cell, u64s, List.getElem?_map, zipK_at, List.getElem?_eq_getElem h1, hX]; rfl
      have dk : wr.cell? ⟨w.heap.size + 1, k, none⟩ = some (.int .u64 Y) := by
        rw [hblm.cell, u64s, List.getElem?_map, zipK_at, List.getElem?_eq_getElem h2, hY]; rfl
      have fg := hblk.frozen k
      have fh := hblm.frozen k
      have i1 : (k : Int) < 5 := by omega
      have i3 : (0 : Int) ≤ (k : Int) := by omega
      have hC := HP.out X Y ⟨lX.1, by have := lX.2; omega⟩ ⟨lY.1, by have := lY.2; omega⟩
      obtain ⟨Z, hZ⟩ : ∃ z, (bif c then Y else X) = z := ⟨_, rfl⟩
      obtain ⟨V, hV⟩ : ∃ z, (bif c then X else Y) = z := ⟨_, rfl⟩
      rw [hZ, hV] at hC
      have HQ : Hid (Blk wr w.heap.size 27 (u64s (zipK (fun a b => bif c then b else a) k l m)) ∧ Blk wr (w.heap.size + 1) 27 (u64s (zipK (fun b a => bif c then a else b) k m l)) ∧ Kept (fun x => x = w.heap.size ∨ x = w.heap.size + 1) x4 wr ∧ l[k] = X ∧ m[k] = Y ∧ (bif c then Y else X) = Z ∧ (bif c then X else Y) = V) := ⟨hblk, hblm, hkp, hX, hY, hZ, hV⟩
      clear hblk hblm hkp hX hY lX lY hZ hV
      go_wp2_with fail
      go_region_with (go_at_call 66; refine (hC _).mono ?_; rintro e w' ⟨rfl, rfl⟩)
      go_wp2_with fail
      all_goals (
      go_roundw
      case rel =>
        have e := zipK_set (fun a b => bif c then b else a) k l m h1 h2
        have e' := zipK_set (fun b a => bif c then a else b) k m l h2 h1
        simp only [HQ.out.2.2.2.1, HQ.out.2.2.2.2.1, HQ.out.2.2.2.2.2.1, HQ.out.2.2.2.2.2.2] at e e'
        first
        | (have R1 := (HQ.out.1.set k (.int .u64 Z)).other (p := ⟨w.heap.size + 1, k, none⟩) (by simp) (.int .u64 V)
           have R2 := (HQ.out.2.1.other (p := ⟨w.heap.size, k, none⟩) (by simp) (.int .u64 Z)).set k (.int .u64 V)
           rw [u64s_set, e] at R1
           rw [u64s_set, e'] at R2
           exact ⟨k + 1, by omega, by go_num, R1.drew, R2.drew, ((HQ.out.2.2.1.setCell (.inl rfl) _).setCell (.inr rfl) _).drewN 1⟩)
        | (have R1 := (HQ.out.1.other (p := ⟨w.heap.size + 1, k, none⟩) (by simp) (.int .u64 V)).set k (.int .u64 Z)
           have R2 := (HQ.out.2.1.set k (.int .u64 V)).other (p := ⟨w.heap.size, k, none⟩) (by simp) (.int .u64 Z)
           rw [u64s_set, e] at R1
           rw [u64s_set, e'] at R2
           exact ⟨k + 1, by omega, by go_num, R1.drew, R2.drew, ((HQ.out.2.2.1.setCell (.inr rfl) _).setCell (.inl rfl) _).drewN 1⟩)
      case measure => simp [intOf]; omega)
    · have hk5 : k = 5 := by omega
      have i1 : ¬ ((k : Int) < 5) := by omega
      obtain ⟨lr, hlr⟩ : ∃ z, (bif c then m else l) = z := ⟨_, rfl⟩
      obtain ⟨mr, hmr⟩ : ∃ z, (bif c then l else m) = z := ⟨_, rfl⟩
      have HF : Hid (lr.length = 5 ∧ mr.length = 5 ∧ (bif c then m else l) = lr ∧ (bif c then l else m) = mr) := by
        refine ⟨?_, ?_, hlr, hmr⟩
        · rw [← hlr]; cases c; exact HL.out.1.len; exact HL.out.2.len
        · rw [← hmr]; cases c; exact HL.out.2.len; exact HL.out.1.len
      have p1 : zipK (fun a b => bif c then b else a) 5 l m = lr := by
        rw [← hlr, zipK_all _ _ _ HL.out.1.len HL.out.2.len]
        cases c
        · exact zip_fst l m (by rw [HL.out.1.len, HL.out.2.len])
        · exact zip_snd l m (by rw [HL.out.1.len, HL.out.2.len])
      have p2 : zipK (fun b a => bif c then a else b) 5 m l = mr := by
        rw [← hmr, zipK_all _ _ _ HL.out.2.len HL.out.1.len]
        cases c
        · exact zip_fst m l (by rw [HL.out.1.len, HL.out.2.len])
        · exact zip_snd m l (by rw [HL.out.1.len, HL.out.2.len])
      have HQ : Hid (Blk wr w.heap.size 27 (u64s lr) ∧ Blk wr (w.heap.size + 1) 27 (u64s mr) ∧ Blk wr (w.heap.size + 1 + 1) 27 (u64s [0, 0, 0, 0, 0]) ∧ Blk wr (w.heap.size + 1 + 1 + 1) 27 (u64s [0, 0, 0, 0, 0]) ∧ Below w.heap.size w wr) := ⟨by rw [hk5, p1] at hblk; exact hblk, by rw [hk5, p2] at hblm; exact hblm, WW.out.2.2.2.1.kept hkp (by omega), WW.out.2.2.2.2.kept hkp (by omega), below_kept WW.out.1 hkp WW.out.1.size (fun j hj => by omega)⟩
      clear hblk hblm hkp hlr hmr hk5 hlt hk p1 p2
      go_wp2_with fail
      refine wp_region_noPanic (wp_region_held_drew (S := fun W => Blk W w.heap.size 27 (u64s lr) ∧ Blk W (w.heap.size + 1) 27 (u64s mr)) (by kernel_rfl) ⟨(HQ.out.1).drew, (HQ.out.2.1).drew⟩ (fun hH => ?_))
      refine hLoad 0 (some 35) (u64s lr) rfl rfl (by kernel_rfl) (by kernel_rfl) (by kernel_rfl) (fun _ _ _ h => h) (by rfl) 27 (.tmp 4) rfl w.heap.size 0 rfl _ (fun _ h => (h.1).whole) Try.underlying27 rfl (by rw [u64s_length, HF.out.1]; exact sizeElem) hH ?_
      simp only [Act.put, List.setIfInBounds_toArray, List.set_cons_zero, List.set_cons_succ]
      refine hLoad 1 (some 36) (u64s mr) rfl rfl (by kernel_rfl) (by kernel_rfl) (by kernel_rfl) (fun _ _ _ h => h) (by rfl) 27 (.tmp 5) rfl (w.heap.size + 1) 0 rfl _ (fun _ h => (h.2).whole) Try.underlying27 rfl (by rw [u64s_length, HF.out.2.1]; exact sizeElem) hH ?_
      simp only [Act.put, List.setIfInBounds_toArray, List.set_cons_zero, List.set_cons_succ]
      refine wpAnyH_ready (rs := [2]) (by kernel_rfl) (by simp) (AllReadyH.cons rfl (fun K hK => ?_) AllReadyH.nil)
      rw [if_pos (by rfl)]
      refine last_store 27 (.tmp 6) (.tmp 35) rfl rfl (w.heap.size + 1 + 1) rfl 27 _ (u64s lr) rfl (HQ.out.2.2.1).drew (by rw [u64s_length, HF.out.1]; rfl) (by rw [u64s_length, HF.out.1]; exact sizeElem) (u64s_one _) ?_
      intro y0 b0 s0 k0
      refine hK.out _ _ ⟨(hH.1).kept k0 (by omega), (hH.2).kept k0 (by omega)⟩ (fun hH => ?_)
      clear hK K
      refine wpAnyH_ready (rs := [3]) (by kernel_rfl) (by simp) (AllReadyH.cons rfl (fun K hK => ?_) AllReadyH.nil)
      rw [if_pos (by rfl)]
      refine last_store 27 (.tmp 7) (.tmp 36) rfl rfl (w.heap.size + 1 + 1 + 1) rfl 27 _ (u64s mr) rfl ((HQ.out.2.2.2.1).drew.kept k0 (by omega)) (by rw [u64s_length, HF.out.2.1]; rfl) (by rw [u64s_length, HF.out.2.1]; exact sizeElem) (u64s_one _) ?_
      intro y1 b1 s1 k1
      refine hK.out _ _ ⟨(hH.1).kept k1 (by omega), (hH.2).kept k1 (by omega)⟩ (fun hH => ?_)
      clear hK K
      refine wpAnyH_done (by kernel_rfl) (NoPanic.normal ?_) _
      clear hH
      go_wp2_with fail
      have q1 := HQ.out.2.2.2.1.lt
      have q2 := HQ.out.2.2.2.2.size
      have q3 : wr.drew.heap.size = wr.heap.size := rfl
      exact ret_blk2 rfl (w.heap.size + 1 + 1) (w.heap.size + 1 + 1 + 1) (u64s lr) (u64s mr) _ _ rfl rfl (b0.kept k1 (by omega)) b1 Try.underlying27 Try.underlying27 rfl rfl (by rw [u64s_length, HF.out.1]; exact sizeElem) (by rw [u64s_length, HF.out.2.1]; exact sizeElem) rfl ⟨by rw [HF.out.2.2.1, HF.out.2.2.2], below_kept (below_kept (below_dn HQ.out.2.2.2.2 1) k0 q2 (fun j hj => by omega)) k1 (by rw [s0]; exact q2) (fun j hj => by omega)⟩
end Go.Proofs.Ytnifolefhelmcaa
