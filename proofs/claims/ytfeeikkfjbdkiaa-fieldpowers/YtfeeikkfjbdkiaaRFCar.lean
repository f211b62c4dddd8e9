/- The document's numbers: digits, carried. -/
import Derived.Test.YtfeeikkfjbdkiaaRFMath
namespace Go.Proofs.Ytfeeikkfjbdkiaa
open Go.RowKit
set_option linter.unusedVariables false
set_option linter.unusedSimpArgs false

theorem ret_blk_tmp {fn : Func} {p q : Tmp} {ty : TypeId} (h : fn.results = #[.cell p ty, .tmp q]) {R : Ending → World → Prop} {a : Act} {w : World} (g : Nat) (vs : List Value) (d : TypeDesc) (v : Value) (hp : a.tmps.getD p undef = .pointer (some ⟨g, 0, none⟩)) (hq : a.tmps.getD q undef = v)
    (hb : Blk w g ty vs) (hu : Try.prog.underlying ty = some d) (hd : d.isRow = true) (hi : (Try.prog.info? ty).map (·.size) = some vs.length) (hdef : a.defers = []) (hR : R (.returned (.tuple #[.agg vs.toArray, v])) w) : bodyPost Try.prog fn R .ret a w := by
  refine bodyPost_ret (v := .tuple #[.agg vs.toArray, v]) ?_ hdef hR
  have hp' : a.tmps[p]?.getD undef = .pointer (some ⟨g, 0, none⟩) := by simpa using hp
  have hq' : a.tmps[q]?.getD undef = v := by simpa using hq
  have hl := run_loadVar_row (P := Try.prog) w g ty ty vs.toArray (0, 0) d hb hu (by cases d <;> simp_all) (by simpa using hi)
  simp [results, h, hp', hq', asAddr, hl]
theorem zeroA16 : (Try.prog.info? 69).map (fun i => (i.zero, i.size)) = some (some (.agg (i64s (List.replicate 16 0)).toArray), 16) := by kernel_rfl
theorem sizeA16 : (Try.prog.info? 69).map (·.size) = some 16 := by kernel_rfl
theorem sizeNum : (Try.prog.info? 29).map (·.size) = some 32 := by kernel_rfl
theorem zeroNum : (Try.prog.info? 29).map (fun i => (i.zero, i.size)) = some (some (.agg (u8s (List.replicate 32 0)).toArray), 32) := by kernel_rfl
set_option maxRecDepth 20000 in
set_option maxHeartbeats 1000000 in
theorem carried_any (l : List Int) (hl : l.length = 16) (hz : ∀ z ∈ l, 0 ≤ z ∧ z < 1152921504606846976) (w : World) :
    Calls Try.prog 58 #[.agg (i64s l).toArray] w fun e w' => e = .returned (.tuple #[.agg (i64s (ldD 16 (vd l))).toArray, .int .i64 (vd l / 115792089237316195423570985008687907853269984665640564039457584007913129639936)]) ∧ Below w.heap.size w w' := by
  have HL : Hid (l.length = 16 ∧ (∀ z ∈ l, 0 ≤ z ∧ z < 1152921504606846976) ∧ caK l 16 = ldD 16 (vd l) ∧ chC (l.take 16) 0 = vd l / 115792089237316195423570985008687907853269984665640564039457584007913129639936) := by
    have h1 := caK_all l
    have h2 := caC_all l
    rw [hl] at h1 h2
    rw [show (65536 : Int) ^ 16 = 115792089237316195423570985008687907853269984665640564039457584007913129639936 by decide] at h2
    exact ⟨hl, hz, h1, h2⟩
  clear hl hz
  go_enter Try.func58, Try.ntmps58
  go_wp2_with (first | (refine wpList_box_new rfl 69 (.tmp 0) rfl (i64s l) rfl ?_; intro x1 z1 s1 l1) | (refine wpList_alloc_new rfl 69 rfl 16 _ zeroA16 ?_; intro x2 z2 s2 l2; rw [s1] at z2))
  have WW : Hid (Below w.heap.size w x2 ∧ Blk x2 w.heap.size 69 (i64s l) ∧ Blk x2 (w.heap.size + 1) 69 (i64s (List.replicate 16 0))) := ⟨below_chain l1 l2 (by omega), z1.later l2 (by omega), z2⟩
  clear z1 s1 l1 z2 s2 l2
  go_loopw [4, 5] (fun c i wr => ∃ (k : Nat), k ≤ 16 ∧ i = .int .i64 k ∧ c = .int .i64 (chC (l.take k) 0) ∧ Blk wr w.heap.size 69 (i64s (caK l k)) ∧ Kept (fun x => x = w.heap.size) x2 wr) (fun _ i _ => 16 - (intOf i).toNat)
  case atStart => exact ⟨0, by omega, rfl, rfl, WW.out.2.1, Kept.refl _ _⟩
  case round =>
    obtain ⟨k, hk, rfl, rfl, hblk, hkp⟩ := hrel
    by_cases hlt : k < 16
    · have hk2 : k < l.length := by rw [HL.out.1]; exact hlt
      have i1 : (k : Int) < 16 := by omega
      have i3 : (0 : Int) ≤ (k : Int) := by omega
      have hc := chC_bd (l.take k) 0 1152921504606846976 (fun z hz => HL.out.2.1 z (List.mem_of_mem_take hz)) ⟨by decide, by decide⟩ (by decide)
      have hX : 0 ≤ l.getD k 0 ∧ l.getD k 0 < 1152921504606846976 := by
        have := HL.out.2.1 (l.getD k 0) (by simp [List.getD, hk2])
        exact this
      have ck := i64s_cell hblk k (by rw [caK_length l k (by omega)]; exact hk2)
      rw [caK_at l k hk2] at ck
      have fg := hblk.frozen k
      have HS : Hid ((caK l k).set k ((l.getD k 0 + chC (l.take k) 0) % 65536) = caK l (k + 1) ∧ chC (l.take (k + 1)) 0 = (l.getD k 0 + chC (l.take k) 0) / 65536) := ⟨caK_set l k hk2, caC_succ l k hk2⟩
      obtain ⟨C, hC⟩ : ∃ z, chC (l.take k) 0 = z := ⟨_, rfl⟩
      obtain ⟨X, hXX⟩ : ∃ z, l.getD k 0 = z := ⟨_, rfl⟩
      rw [hC] at hc HS ⊢
      rw [hXX] at hX ck HS
      have e1 : IntKind.i64.wrap (X + C) = X + C := by simp only [IntKind.wrap, IntKind.bits, IntKind.signed]; simp; omega
      have e2 : Int.tmod (X + C) 65536 = (X + C) % 65536 := Int.tmod_eq_emod_of_nonneg (by omega)
      have e3 : Int.tdiv (X + C) 65536 = (X + C) / 65536 := Int.tdiv_eq_ediv_of_nonneg (by omega)
      have e4 : wrap64 ((X + C) / 65536) = (X + C) / 65536 := by unfold wrap64; omega
      have HQ : Hid (Blk wr w.heap.size 69 (i64s (caK l k)) ∧ Kept (fun x => x = w.heap.size) x2 wr) := ⟨hblk, hkp⟩
      clear hblk hkp hC hXX hc hX
      go_wp2_with fail
      go_roundw
      case rel =>
        have R := HQ.out.1.set k (.int .i64 ((X + C) % 65536))
        rw [i64s_set, HS.out.1] at R
        exact ⟨k + 1, by omega, by go_num, by rw [HS.out.2, e4], R, HQ.out.2.setCell rfl _⟩
      case measure => simp [intOf]; omega
    · have hk5 : k = 16 := by omega
      have i1 : ¬ ((k : Int) < 16) := by omega
      have hbl : (i64s (ldD 16 (vd l))).length = 16 := by rw [i64s_length, ldD_length]
      have X1 : Hid (Blk wr w.heap.size 69 (i64s (ldD 16 (vd l))) ∧ Blk wr (w.heap.size + 1) 69 (i64s (List.replicate 16 0)) ∧ Below w.heap.size w wr ∧ (i64s (ldD 16 (vd l))).length = 16 ∧ chC (l.take k) 0 = vd l / 115792089237316195423570985008687907853269984665640564039457584007913129639936) := ⟨by rw [hk5, HL.out.2.2.1] at hblk; exact hblk, WW.out.2.2.kept hkp (by omega), below_kept WW.out.1 hkp WW.out.1.size (fun j hj => by omega), hbl, by rw [hk5]; exact HL.out.2.2.2⟩
      rw [X1.out.2.2.2.2]
      obtain ⟨D, hD⟩ : ∃ z, ldD 16 (vd l) = z := ⟨_, rfl⟩
      have HD : Hid (ldD 16 (vd l) = D) := hD
      rw [hD] at X1
      clear hblk hkp hk5 hlt hk hbl hD
      go_wp2_with (first | (refine wpList_load_blk rfl 69 _ rfl w.heap.size rfl (i64s D) _ X1.out.1 Try.underlying69 rfl (by rw [X1.out.2.2.2.1]; exact sizeA16) ?_) | (refine wpList_store_blk rfl 69 69 _ _ rfl _ rfl _ (i64s D) rfl X1.out.2.1 (by rw [X1.out.2.2.2.1]; rfl) (by rw [X1.out.2.2.2.1]; exact sizeA16) (i64s_one _) ?_; intro w6 b6 s6 k6))
      exact ret_blk_tmp rfl (w.heap.size + 1) (i64s D) _ _ rfl rfl b6 Try.underlying69 rfl (by rw [X1.out.2.2.2.1]; exact sizeA16) rfl ⟨by rw [HD.out]; rfl, below_kept X1.out.2.2.1 k6 X1.out.2.2.1.size (fun j hj => by omega)⟩
end Go.Proofs.Ytfeeikkfjbdkiaa
