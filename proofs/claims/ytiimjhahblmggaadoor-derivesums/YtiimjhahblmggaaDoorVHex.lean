/- The statements' helpers for layer derive: digit, unhex, is. -/
import Derived.Test.YtiimjhahblmggaaDoorVPlain
import Derived.Test.YtiimjhahblmggaaDoorDCopy
namespace Go.Proofs.YtiimjhahblmggaaDoor
open Go.RowKit
set_option linter.unusedVariables false
set_option linter.unusedSimpArgs false

theorem one_newd (w : World) (x : Value) (t : TypeId) : ∀ j u, [x][j]? = some u → ((w.drew).alloc (.cells #[x] t)).cell? ((⟨w.heap.size, 0, none⟩ : Addr).add j) = some u := one_new w.drew x t
/-- A text's bytes. -/
def strL (s : ByteArray) : List Int := s.data.toList.map (fun b => (b.toNat : Int))
theorem strL_length (s : ByteArray) : (strL s).length = s.size := by
  unfold strL
  rw [List.length_map, Array.length_toList]; rfl
theorem strL_at (s : ByteArray) (i : Nat) (hi : i < s.size) : (strL s).getD i 0 = (s[i].toNat : Int) := by
  have h : i < s.data.size := hi
  unfold strL
  rw [List.getD_eq_getElem?_getD, List.getElem?_map, Array.getElem?_toList, Array.getElem?_eq_getElem h]; rfl
theorem str_index (s : ByteArray) (i : Nat) (hi : i < s.size) (w : World) : (Instr.index 9 (.string s) (.int .i64 i)).run Tryd.prog w = .ok (.int .u8 ((strL s).getD i 0)) w := by
  rw [run_index_string w 9 s .i64 i Tryd.underlying9, dif_pos (by omega), strL_at s i hi]
  simp
def isHex (c : Int) : Bool := (decide (48 ≤ c) && decide (c ≤ 57)) || (decide (97 ≤ c) && decide (c ≤ 102))
def dg (c : Int) : Int := if 97 ≤ c then c - 87 else c - 48
theorem dg_bd (c : Int) (h : isHex c = true) : 0 ≤ dg c ∧ dg c < 16 := by
  simp [isHex] at h
  unfold dg; split <;> omega
/-- The bytes of a text of digits. -/
def unL (l : List Int) (k : Nat) : List Int := (List.range k).map fun i => dg (l.getD (2 * i) 0) * 16 + dg (l.getD (2 * i + 1) 0)
theorem unL_length (l : List Int) (k : Nat) : (unL l k).length = k := by simp [unL]
theorem unL_succ (l : List Int) (k : Nat) : unL l (k + 1) = unL l k ++ [dg (l.getD (2 * k) 0) * 16 + dg (l.getD (2 * k + 1) 0)] := by simp [unL, List.range_succ]
set_option maxRecDepth 20000 in
theorem digit_any (c : Int) (h : isHex c = true) (w : World) : Calls Tryd.prog 59 #[.int .u8 c] w fun e w' => e = .returned (.int .u8 (dg c)) ∧ w = w' := by
  simp [isHex] at h
  by_cases q : 97 ≤ c
  · have HE : Hid (dg c = c - 97 + 10) := by show dg c = _; unfold dg; rw [if_pos q]; omega
    have e1 : (c - 97) % 256 = c - 97 := by omega
    have e2 : (c - 97 + 10) % 256 = c - 97 + 10 := by omega
    go_enter Tryd.func59, Tryd.ntmps59
    go_wp2
    go_ret
    exact ⟨by rw [HE.out]; rfl, rfl⟩
  · have HE : Hid (dg c = c - 48) := by show dg c = _; unfold dg; rw [if_neg q]
    have e1 : (c - 48) % 256 = c - 48 := by omega
    go_enter Tryd.func59, Tryd.ntmps59
    go_wp2
    go_ret
    exact ⟨by rw [HE.out]; rfl, rfl⟩
set_option maxHeartbeats 1000000 in
set_option maxRecDepth 20000 in
theorem unhex_any (s : ByteArray) (m : Nat) (hs : s.size = 2 * m) (hm : m ≤ 1000) (hd : ∀ i, i < s.size → isHex ((strL s).getD i 0) = true) (w : World) :
    Calls Tryd.prog 50 #[.string s] w fun e w' => ∃ v, e = .returned v ∧ w'.ownsRow w.heap.size 5 1 v m ((unL (strL s) m).map (Value.int .u8)) ∧ Below w.heap.size w w' := by
  have HS : Hid (s.size = 2 * m) := hs
  have HD : Hid (∀ i, i < s.size → isHex ((strL s).getD i 0) = true) := hd
  have hsz0 : (s.size : Int) = 2 * (m : Int) := by omega
  obtain ⟨i0, hi, hz0, hz1, hz2⟩ := info_parts info_byte
  clear hs hd
  go_enter Tryd.func50, Tryd.ntmps50
  go_wp2
  go_loopw [3, 4] (fun v i wr => ∃ k : Nat, k ≤ m ∧ i = .int .i64 (2 * (k : Int)) ∧ wr.ownsRow w.heap.size 5 1 v k ((unL (strL s) k).map (Value.int .u8)) ∧ Below w.heap.size w wr) (fun _ i _ => 2 * m - (intOf i).toNat)
  case atStart => exact ⟨0, Nat.zero_le _, rfl, World.ownsRow_nil _ _ _ _, Below.refl _ _⟩
  case round =>
    obtain ⟨k, hk, rfl, hown, hbel⟩ := hrel
    by_cases hlt : k < m
    · have l1 : 2 * k + 1 < s.size := by have := HS.out; omega
      have f1 := str_index s (2 * k) (by omega)
      have f2 := str_index s (2 * k + 1) l1
      have c1 : ((2 * k : Nat) : Int) = 2 * (k : Int) := by omega
      have c2 : ((2 * k + 1 : Nat) : Int) = 2 * (k : Int) + 1 := by omega
      rw [c1] at f1
      rw [c2] at f2
      have q1 := HD.out (2 * k) (by omega)
      have q2 := HD.out (2 * k + 1) l1
      have E1 := unL_succ (strL s) k
      obtain ⟨X, hX⟩ : ∃ X, (strL s).getD (2 * k) 0 = X := ⟨_, rfl⟩
      obtain ⟨Y, hY⟩ : ∃ Y, (strL s).getD (2 * k + 1) 0 = Y := ⟨_, rfl⟩
      rw [hX] at f1 q1 E1
      rw [hY] at f2 q2 E1
      have HE : Hid (unL (strL s) (k + 1) = unL (strL s) k ++ [dg X * 16 + dg Y]) := E1
      have HQ : Hid (isHex X = true ∧ isHex Y = true) := ⟨q1, q2⟩
      have d1 := dg_bd X q1
      have d2 := dg_bd Y q2
      have v1 : dg X * 16 % 256 = dg X * 16 := by omega
      have v2 : (dg X * 16 + dg Y) % 256 = dg X * 16 + dg Y := by omega
      have i1 : (2 * (k : Int)) + 1 < (s.size : Int) := by omega
      have i2 : (0 : Int) ≤ 2 * (k : Int) := by omega
      have hsz := hbel.size
      clear hX hY q1 q2 E1
      go_wp2
      have v3 : IntKind.i64.wrap (2 * (k : Int) + 1) = 2 * (k : Int) + 1 := by simp only [IntKind.wrap, IntKind.bits, IntKind.signed]; simp; omega
      have v4 : IntKind.u8.wrap (dg X * 16) = dg X * 16 := by rw [IntKind.wrap_u8]; omega
      have v5 : IntKind.u8.wrap (dg X * 16 + dg Y) = dg X * 16 + dg Y := by rw [IntKind.wrap_u8]; omega
      refine wp_region_noPanic (wp_region_any (by kernel_rfl) ?_)
      refine take_op 0 (some 12) u3 rfl rfl (by kernel_rfl) (by kernel_rfl) (by kernel_rfl) (fun _ _ _ h => h) (by rfl) (fun _ => by rfl) ?_
      simp only [Act.put, List.setIfInBounds_toArray, List.set_cons_zero, List.set_cons_succ]
      refine take_op 1 (some 13) (.string s) rfl rfl (by kernel_rfl) (by kernel_rfl) (by kernel_rfl) (fun _ _ _ h => h) (by rfl) (fun _ => by rfl) ?_
      simp only [Act.put, List.setIfInBounds_toArray, List.set_cons_zero, List.set_cons_succ]
      refine take_op 2 (some 14) (.int .i64 (2 * (k : Int))) rfl rfl (by kernel_rfl) (by kernel_rfl) (by kernel_rfl) (fun _ _ _ h => h) (by rfl) (fun _ => by rfl) ?_
      simp only [Act.put, List.setIfInBounds_toArray, List.set_cons_zero, List.set_cons_succ]
      refine take_op 3 (some 15) (.int .u8 X) rfl rfl (by kernel_rfl) (by kernel_rfl) (by kernel_rfl) (fun _ _ _ h => h) (by rfl) (fun _ => by go_simp) ?_
      simp only [Act.put, List.setIfInBounds_toArray, List.set_cons_zero, List.set_cons_succ]
      refine take_op 6 (some 18) (.string s) rfl rfl (by kernel_rfl) (by kernel_rfl) (by kernel_rfl) (fun _ _ _ h => h) (by rfl) (fun _ => by rfl) ?_
      simp only [Act.put, List.setIfInBounds_toArray, List.set_cons_zero, List.set_cons_succ]
      refine take_op 7 (some 19) (.int .i64 (2 * (k : Int))) rfl rfl (by kernel_rfl) (by kernel_rfl) (by kernel_rfl) (fun _ _ _ h => h) (by rfl) (fun _ => by rfl) ?_
      simp only [Act.put, List.setIfInBounds_toArray, List.set_cons_zero, List.set_cons_succ]
      refine take_op 8 (some 20) (.int .i64 (2 * (k : Int) + 1)) rfl rfl (by kernel_rfl) (by kernel_rfl) (by kernel_rfl) (fun _ _ _ h => h) (by rfl) (fun _ => by go_simp) ?_
      simp only [Act.put, List.setIfInBounds_toArray, List.set_cons_zero, List.set_cons_succ]
      refine take_op 9 (some 21) (.int .u8 Y) rfl rfl (by kernel_rfl) (by kernel_rfl) (by kernel_rfl) (fun _ _ _ h => h) (by rfl) (fun _ => by go_simp) ?_
      simp only [Act.put, List.setIfInBounds_toArray, List.set_cons_zero, List.set_cons_succ]
      refine wpAny_ready (rs := [4]) (by kernel_rfl) (by simp) (AllReady.cons rfl (fun K hK => ?_) AllReady.nil)
      go_simp
      go_wp2_with (go_at_call 59; refine (digit_any X HQ.out.1 _).mono ?_; rintro e w' ⟨rfl, rfl⟩)
      refine take_op 5 (some 17) (.int .u8 (dg X * 16)) rfl rfl (by kernel_rfl) (by kernel_rfl) (by kernel_rfl) (fun _ _ _ h => h) (by rfl) (fun _ => by go_simp) ?_
      simp only [Act.put, List.setIfInBounds_toArray, List.set_cons_zero, List.set_cons_succ]
      refine wpAny_ready (rs := [10]) (by kernel_rfl) (by simp) (AllReady.cons rfl (fun K hK => ?_) AllReady.nil)
      go_simp
      go_wp2_with (go_at_call 59; refine (digit_any Y HQ.out.2 _).mono ?_; rintro e w' ⟨rfl, rfl⟩)
      refine take_op 11 (some 23) (.int .u8 (dg X * 16 + dg Y)) rfl rfl (by kernel_rfl) (by kernel_rfl) (by kernel_rfl) (fun _ _ _ h => h) (by rfl) (fun _ => by go_simp) ?_
      simp only [Act.put, List.setIfInBounds_toArray, List.set_cons_zero, List.set_cons_succ]
      refine wpAny_ready (rs := [12]) (by kernel_rfl) (by simp) (AllReady.cons rfl (fun K hK => ?_) AllReady.nil)
      go_simp
      refine hK _ _ ?_
      clear hK K
      try simp only [Act.put, List.setIfInBounds_toArray, List.set_cons_zero, List.set_cons_succ]
      refine wpAny_ready (rs := [13]) (by kernel_rfl) (by simp) (AllReady.cons rfl (fun K hK => ?_) AllReady.nil)
      refine step_append_lies _ (by rfl) (.tmp 12) (.tmp 24) 22 (by rfl) w.heap.size 5 i0 (.int .u8 0) 1 1 Tryd.underlying22 hi hz0 hz1 hz2 rfl (by decide) _ _ _ (by rfl) (hown.drew.alloc _) ⟨wr.heap.size, 0, none⟩ 1 1 [.int .u8 (dg X * 16 + dg Y)] (by rfl) rfl (one_newd _ _ _) (by intro u hu; simp at hu; subst hu; rfl) (by decide) (by unfold maxLen; omega) (by omega) (by simp; omega) _ rfl ?_
      intro g cap w1 hown' hgrow hat hlt2
      have R1 : w1.ownsRow w.heap.size 5 1 (.slice (some ⟨g, 0, none⟩) (k + 1) cap) (k + 1) ((unL (strL s) (k + 1)).map (Value.int .u8)) := by rw [HE.out, List.map_append]; exact hown'
      have R2 : Below w.heap.size w w1 := ((hbel.alloc hsz (.cells #[.int .u8 (dg X * 16 + dg Y)] 5)).drew).grown hgrow (by simp; omega) (fun j hj => (hown.lt j hj).1)
      clear hown' hgrow hown hbel f1 f2
      refine hK _ _ ?_
      clear hK K
      refine take_op 14 (some 3) (.slice (some ⟨g, 0, none⟩) (k + 1) cap) rfl rfl (by kernel_rfl) (by kernel_rfl) (by kernel_rfl) (fun _ _ _ h => h) (by rfl) (fun _ => by rfl) ?_
      simp only [Act.put, List.setIfInBounds_toArray, List.set_cons_zero, List.set_cons_succ]
      refine wpAny_done (by kernel_rfl) (NoPanic.normal ?_) _
      go_wp2
      go_roundw
      case rel => exact ⟨k + 1, by omega, by go_num, R1, R2⟩
      case measure => simp [intOf]; omega
    · obtain rfl : k = m := by omega
      have HO : Hid (wr.ownsRow w.heap.size 5 1 u3 k ((unL (strL s) k).map (Value.int .u8)) ∧ Below w.heap.size w wr) := ⟨hown, hbel⟩
      have i1 : ¬ (2 * (k : Int)) + 1 < (s.size : Int) := by omega
      clear hown hbel
      go_wp2
      go_ret
      exact ⟨_, rfl, HO.out⟩
set_option maxHeartbeats 1000000 in
set_option maxRecDepth 20000 in
theorem is_yes (zs : List Int) (s : ByteArray) (hl : zs.length = 32) (hs : s.size = 64) (hd : ∀ i, i < s.size → isHex ((strL s).getD i 0) = true) (he : unL (strL s) 32 = zs) (w : World) :
    Calls Tryd.prog 37 #[.agg (u8s zs).toArray, .string s] w fun e w' => e = .returned (.bool true) ∧ Below w.heap.size w w' := by
  have HL : Hid (zs.length = 32 ∧ unL (strL s) 32 = zs) := ⟨hl, he⟩
  have HD : Hid (s.size = 2 * 32 ∧ ∀ i, i < s.size → isHex ((strL s).getD i 0) = true) := ⟨hs, hd⟩
  clear hl he hs hd
  go_enter Tryd.func37, Tryd.ntmps37
  go_wp2_with (first | (refine wpList_box_new rfl 28 _ rfl (u8s zs) rfl ?_; intro w1 b1 s1 l1; have Z1 : Hid (w1.heap.size = w.heap.size + 1) := s1; clear s1) | (go_at_call 50; refine (unhex_any s 32 HD.out.1 (by decide) HD.out.2 _).mono ?_; rintro e w2 ⟨v, rfl, o2, l2⟩; rw [HL.out.2] at o2))
  rcases own_len HL.out.1 o2 with ⟨_, h⟩ | ⟨g, cap, rfl, r2, hg, _, _⟩
  · cases h
  have HB : Hid (Blk w2 w.heap.size 28 (u8s zs) ∧ RowAt w2 g zs ∧ Below w.heap.size w w2) := ⟨b1.later l2 (by have := Z1.out; omega), r2, below_chain l1 l2 (by have := Z1.out; omega)⟩
  clear b1 l1 o2 l2 r2 hg
  go_wp2
  go_loopw [6] (fun i wr => ∃ (k q : Nat), k ≤ 32 ∧ i = .int .i64 k ∧ wr = w2.drewN q) (fun i _ => 32 - (intOf i).toNat)
  case atStart => exact ⟨0, 0, by decide, rfl, rfl⟩
  case round =>
    obtain ⟨k, q, hk, rfl, hwr⟩ := hrel
    have hlz := HL.out.1
    by_cases hlt : k < 32
    · have c1 : wr.cell? ⟨w.heap.size, k, none⟩ = some (.int .u8 (zs.getD k 0)) := by rw [hwr]; exact u8s_cell (HB.out.1.drewN q) k (by omega)
      have c2 : wr.cell? ⟨g, k, none⟩ = some (.int .u8 (zs.getD k 0)) := by rw [hwr]; exact (HB.out.2.1.drewN q).cell k (by omega)
      have HW : Hid (wr = w2.drewN q) := hwr
      obtain ⟨y, hy⟩ : ∃ y, zs.getD k 0 = y := ⟨_, rfl⟩
      rw [hy] at c1 c2
      have i1 : (0 : Int) ≤ (k : Int) := by omega
      have i2 : (k : Int) < 32 := by omega
      clear hwr hlz hy
      go_wp2
      go_quiet (fail)
      go_wp2
      exact ⟨⟨k + 1, q + nq, by omega, by go_num, by rw [HW.out, World.drewN_drewN]⟩, by simp [intOf]; omega⟩
    · obtain rfl : k = 32 := by omega
      have HW : Hid (wr = w2.drewN q) := hwr
      clear hwr hlz
      go_wp2
      go_ret
      exact ⟨rfl, by rw [HW.out]; exact below_dn HB.out.2.2 q⟩
end Go.Proofs.YtiimjhahblmggaaDoor
