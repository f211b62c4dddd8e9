/- Layer seal: Nonce; the document's Little, Nonce; arrays of bytes are themselves. -/
import Derived.Test.YtogplebajpdmoaaBL
namespace Go.Proofs.Ytogplebajpdmoaa
open Go.RowKit Go.Joins
set_option linter.unusedVariables false
set_option linter.unusedSimpArgs false

/-- An array of bytes is itself. -/
theorem equalA (t : TypeId) (n : Nat) (ht : Try.prog.underlying t = some (.array n 5)) (d : Nat) (zs : List Int) (hl : zs.length = n) (w : World) : (Op.equalIn (d + 2) t (.agg (u8s zs).toArray) (.agg (u8s zs).toArray)).run Try.prog w = .ok true w := by
  have hsz : ∀ w, (sizeOf 5).run Try.prog w = .ok 1 w := fun w => by
    have h := infoByte
    cases hq : Try.prog.info? 5 with
    | none => simp [hq] at h
    | some i => simp [hq] at h; simp [sizeOf, typeInfo, hq, h.2]
  have he := Try.underlying5
  rw [Op.equalIn]
  simp only [Sem.run_bind, run_underlying ht, Result.andThen_ok, hsz, Std.Legacy.Range.forIn_eq_forIn_range', Std.Legacy.Range.size, Nat.sub_zero, Nat.add_sub_cancel, Nat.div_one]
  have hlr : ∀ i ∈ List.range' 0 n 1, i < n := fun i hi => by simpa using (List.mem_range'_1.1 hi).2
  generalize List.range' 0 n 1 = l at hlr ⊢
  induction l with
  | nil => simp
  | cons i l ih =>
    have hi : i < n := hlr i (by simp)
    have px : (Go.part 5 (u8s zs).toArray (i * 1)).run Try.prog w = .ok (.int .u8 (zs.getD i 0)) w := by
      simp [Go.part, isAgg, run_underlying he, u8s, List.getD, List.getElem?_eq_getElem (show i < zs.length by omega)]
    have pe : (Op.equalIn (d + 1) 5 (.int .u8 (zs.getD i 0)) (.int .u8 (zs.getD i 0))).run Try.prog w = .ok true w := by
      rw [run_equalIn_int w d 5 .u8 .u8 _ _ he]; simp
    simp only [List.forIn_cons, Sem.run_bind, px, pe, Result.andThen_ok]
    simp only [Bool.not_true, Bool.false_eq_true, if_false, Sem.run_pure, Result.andThen_ok]
    exact ih fun j hj => hlr j (by simp [hj])
def nonL (kind number : Int) : List Int := leB 4 kind ++ leB 8 number
theorem nonL_length (a b : Int) : (nonL a b).length = 12 := by simp [nonL, leB_length]
theorem nonL_bytes (a b : Int) : Bytes (nonL a b) := bytes_app (leB_bytes _ _) (leB_bytes _ _)
theorem zeroNon : (Try.prog.info? 25).map (fun i => (i.zero, i.size)) = some (some (.agg (u8s (zs0 12)).toArray), 12) := by kernel_rfl
theorem row_range {w : World} {g : Nat} {zs : List Int} (h : RowAt w g zs) : w.rangeAt g 0 (u8s zs) := fun j v hv => by
  have hj : j < zs.length := by have := (List.getElem?_eq_some_iff.1 hv).1; simpa [u8s] using this
  rw [Nat.zero_add, h.cell j hj, ← hv]
  simp [u8s, List.getD, hj]
set_option maxRecDepth 20000 in
set_option maxHeartbeats 1000000 in
theorem nonce_any (kind number : Int) (hk : 0 ≤ kind ∧ kind < 4294967296) (hn : 0 ≤ number ∧ number < 18446744073709551616) (w : World) :
    Calls Try.prog 14 #[.int .u32 kind, .int .u64 number] w fun e w' => e = .returned (.agg (u8s (nonL kind number)).toArray) ∧ Below w.heap.size w w' := by
  obtain ⟨X, hX⟩ : ∃ X, nonL kind number = X := ⟨_, rfl⟩
  have HX : Hid (leB 4 kind ++ leB 8 number = X ∧ X.length = 12 ∧ Bytes X) := ⟨hX, by rw [← hX, nonL_length], by rw [← hX]; exact nonL_bytes _ _⟩
  rw [hX]
  clear hX
  go_enter Try.func14, Try.ntmps14
  go_wp2_with (first | (refine wpList_alloc_new rfl 25 rfl 12 _ zeroNon ?_; intro w1 b1 s1 l1))
  refine (put_32 none 0 0 [] kind w1 (Seen.empty _ _) (fun _ => rfl) (by decide) hk).mono ?_
  rintro e w2 ⟨v2, rfl, o2, l2⟩
  obtain ⟨p2, c2, rfl, d2, _⟩ := own_seen (by simp [leB_length]) (bytes_app (fun z hz => by cases hz) (leB_bytes _ _)) (by decide) o2
  have z2 : p2 = none → c2 = 0 := fun h => by
    obtain ⟨b, o, e, _⟩ := d2.cells (by decide)
    rw [h] at e; cases e
  have H2 : Hid (Blk w2 w.heap.size 25 (u8s (zs0 12)) ∧ Below w.heap.size w w2 ∧ Seen w2 p2 (0 + 4) ([] ++ leB 4 kind) ∧ w.heap.size < w2.heap.size) := ⟨b1.later l2 (by omega), below_chain l1 l2 (by omega), d2, by have := l2.size; omega⟩
  clear b1 s1 l1 o2 d2 l2
  go_wp2_with fail
  refine (put_64 p2 (0 + 4) c2 _ number w2 H2.out.2.2.1 z2 (by decide) hn).mono ?_
  rintro e w3 ⟨v3, rfl, o3, l3⟩
  rw [List.nil_append, HX.out.1] at o3
  have e12 : 0 + 4 + 8 = 12 := rfl
  rw [e12] at o3
  rcases own_len HX.out.2.1 o3 with ⟨_, h0⟩ | ⟨g, cap, rfl, r3, g3, c3, m3⟩
  · cases h0
  have H3 : Hid (Blk w3 w.heap.size 25 (u8s (zs0 12)) ∧ Below w.heap.size w w3 ∧ RowAt w3 g X) := ⟨H2.out.1.later l3 H2.out.1.lt, below_chain H2.out.2.1 l3 H2.out.2.1.size, r3⟩
  have hat : ∀ W, (Instr.arrayAt 25 (.slice (some ⟨g, 0, none⟩) 12 cap)).run Try.prog W = .ok (.pointer (some ⟨g, 0, none⟩)) W := fun W => run_arrayAt W 25 5 12 _ 12 cap Try.underlying25 (Nat.le_refl _)
  clear o3 l3 r3 g3 m3 H2 z2
  go_wp2_with (first | (refine wpList_load_mid rfl 25 _ rfl g 0 rfl (u8s X) _ (row_range H3.out.2.2) Try.underlying25 rfl (by rw [u8s_length, HX.out.2.1]; exact sizeNonce) ?_) | (refine wpList_store_blk rfl 25 25 _ _ rfl _ rfl _ (u8s X) rfl H3.out.1 (by rw [u8s_length, u8s_length, HX.out.2.1]; rfl) (by rw [u8s_length, HX.out.2.1]; exact sizeNonce) (u8s_one _) ?_; intro w4 b4 s4 k4))
  exact ret_blk rfl w.heap.size (u8s X) _ rfl b4 Try.underlying25 rfl (by rw [u8s_length, HX.out.2.1]; exact sizeNonce) rfl ⟨rfl, below_kept H3.out.2.1 k4 H3.out.2.1.size (fun j hj => by omega)⟩
set_option maxRecDepth 20000 in
set_option maxHeartbeats 1000000 in
theorem rlit_any (x : Int) (hx : 0 ≤ x ∧ x < 18446744073709551616) (m : Nat) (hm : m ≤ 8) (w : World) :
    Calls Try.prog 50 #[.int .u64 x, .int .i64 m] w fun e w' => ∃ v, e = .returned v ∧ w'.ownsRow w.heap.size 5 1 v m ((leB m x).map (Value.int .u8)) ∧ Below w.heap.size w w' := by
  obtain ⟨i0, hi, hz0, hz1, hz2⟩ := info_parts info_byte
  have HL : Hid ((leB m x).length = m ∧ ∀ k, k < m → (leB m x).getD k 0 = x / 2 ^ (8 * k) % 256) := ⟨leB_length _ _, fun k hk => by rw [leB_at _ _ _ hk, byteAt_eq]⟩
  generalize leB m x = zs at *
  go_enter Try.func50, Try.ntmps50
  go_wp2_with fail
  go_loopw [5, 6] (fun v i wr => ∃ k : Nat, k ≤ m ∧ i = .int .i64 k ∧ wr.ownsRow w.heap.size 5 1 v k ((zs.map (Value.int .u8)).take k) ∧ Below w.heap.size w wr) (fun _ i _ => m - (intOf i).toNat)
  case atStart => exact ⟨0, Nat.zero_le _, rfl, World.ownsRow_nil _ _ _ _, Below.refl _ _⟩
  case round =>
    obtain ⟨k, hk, rfl, hown, hbel⟩ := hrel
    have hsz := hbel.size
    by_cases hlt : k < m
    · have HZ : Hid (zs.getD k 0 = x / 2 ^ (8 * k) % 256) := HL.out.2 k hlt
      have i1 : (k : Int) < (m : Int) := by omega
      have i2 : (0 : Int) ≤ (k : Int) := by omega
      go_wp2_with (at_builtin; refine wpList_append_own _ rfl _ _ 31 rfl w.heap.size 5 i0 (.int .u8 0) 1 1 Try.underlying31 hi hz0 hz1 hz2 rfl (by decide) _ _ _ rfl (hown.alloc _) ⟨wr.heap.size, 0, none⟩ 1 1 [.int .u8 (x / 2 ^ (8 * k) % 256)] rfl rfl ?c1 ?c2 ?c3 ?c4 ?c5 ?_)
      try case c1 => exact one_new _ _ _
      case c2 => first | rfl | (intro u hu; simp at hu; subst hu; rfl)
      case c3 => unfold maxLen; omega
      case c4 => omega
      case c5 => first | omega | (simp; omega)
      · intro v' w1 hown' hgrow _
        have R := step_own hbel hown (by rw [HL.out.1]; exact hlt) HZ.out hown' hgrow
        clear hown' hgrow hown hbel
        go_wp2_with fail
        exact ⟨⟨k + 1, by omega, by go_num, R.1, R.2⟩, by simp [intOf]; omega⟩
    · obtain rfl : m = k := by omega
      have HO : Hid (wr.ownsRow w.heap.size 5 1 u5 m (zs.map (Value.int .u8)) ∧ Below w.heap.size w wr) := ⟨by have h := hown; rwa [List.take_of_length_le (by simp [HL.out.1])] at h, hbel⟩
      clear hown hbel
      go_wp2_with fail
      go_ret
      exact ⟨_, rfl, HO.out⟩
set_option maxRecDepth 20000 in
set_option maxHeartbeats 1000000 in
theorem rnonce_any (kind number : Int) (hk : 0 ≤ kind ∧ kind < 4294967296) (hn : 0 ≤ number ∧ number < 18446744073709551616) (w : World) :
    Calls Try.prog 15 #[.int .u32 kind, .int .u64 number] w fun e w' => e = .returned (.agg (u8s (nonL kind number)).toArray) ∧ Below w.heap.size w w' := by
  obtain ⟨X, hX⟩ : ∃ X, nonL kind number = X := ⟨_, rfl⟩
  have HX : Hid (leB 4 kind ++ leB 8 number = X ∧ X.length = 12 ∧ Bytes X) := ⟨hX, by rw [← hX, nonL_length], by rw [← hX]; exact nonL_bytes _ _⟩
  rw [hX]
  have v1 : IntKind.u64.wrap kind = kind := by simp only [IntKind.wrap, IntKind.bits, IntKind.signed]; simp; omega
  clear hX
  go_enter Try.func15, Try.ntmps15
  go_wp2_with (first | (refine wpList_alloc_new rfl 25 rfl 12 _ zeroNon ?_; intro w1 b1 s1 l1))
  refine (rlit_any kind (by omega) 4 (by decide) w1).mono ?_
  rintro e w2 ⟨v2, rfl, o2, l2⟩
  obtain ⟨p2, c2, rfl, d2, hc2, _⟩ := isO_seen (n := 4) o2 (leB_length _ _) (leB_bytes _ _) (by decide)
  have H2 : Hid (Blk w2 w.heap.size 25 (u8s (zs0 12)) ∧ Below w.heap.size w w2 ∧ Seen w2 p2 4 (leB 4 kind) ∧ 4 ≤ c2) := ⟨b1.later l2 (by omega), below_chain l1 l2 (by omega), d2, hc2⟩
  clear b1 s1 l1 o2 d2 l2 hc2
  go_wp2_with fail
  refine (rlit_any number hn 8 (by decide) w2).mono ?_
  rintro e w3 ⟨v3, rfl, o3, l3⟩
  obtain ⟨p3, c3, rfl, d3, hc3, _⟩ := isO_seen (n := 8) o3 (leB_length _ _) (leB_bytes _ _) (by decide)
  have H3 : Hid (Blk w3 w.heap.size 25 (u8s (zs0 12)) ∧ Below w.heap.size w w3 ∧ Seen w3 p2 4 (leB 4 kind) ∧ 4 ≤ c2 ∧ Seen w3 p3 8 (leB 8 number) ∧ 8 ≤ c3) := ⟨H2.out.1.later l3 H2.out.1.lt, below_chain H2.out.2.1 l3 H2.out.2.1.size, H2.out.2.2.1.later l3 (Nat.le_refl _), H2.out.2.2.2, d3, hc3⟩
  clear o3 d3 l3 hc3 H2
  go_wp2_with fail
  refine (two_any p2 p3 4 8 c2 c3 _ _ w3 H3.out.2.2.1 H3.out.2.2.2.2.1 H3.out.2.2.2.1 H3.out.2.2.2.2.2 (by decide)).mono ?_
  rintro e w4 ⟨v4, rfl, o4, l4⟩
  rw [HX.out.1, HX.out.2.1] at o4
  obtain ⟨p4, c4, rfl, d4, hc4, _⟩ := isO_seen (n := 12) o4 HX.out.2.1 HX.out.2.2 (by decide)
  have H4 : Hid (Blk w4 w.heap.size 25 (u8s (zs0 12)) ∧ Below w.heap.size w w4 ∧ Seen w4 p4 12 X) := ⟨H3.out.1.later l4 H3.out.1.lt, below_chain H3.out.2.1 l4 H3.out.2.1.size, d4⟩
  clear o4 d4 l4 hc4 H3
  go_wp2_with (first | (refine wpList_alloc_new rfl 25 rfl 12 _ zeroNon ?_; intro w5 b5 s5 l5))
  have H5 : Hid (Blk w5 w.heap.size 25 (u8s (zs0 12)) ∧ Below w.heap.size w w5 ∧ Seen w5 p4 12 X ∧ Blk w5 w4.heap.size 25 (u8s (zs0 12)) ∧ w.heap.size < w4.heap.size ∧ (∀ b o, p4 = some ⟨b, o, none⟩ → b < w4.heap.size)) := ⟨H4.out.1.later l5 H4.out.1.lt, below_chain H4.out.2.1 l5 H4.out.2.1.size, H4.out.2.2.later l5 (Nat.le_refl _), b5, H4.out.1.lt, fun b o e => H4.out.2.2.old (Nat.le_refl _) b o (by decide) e⟩
  clear b5 s5 l5 H4
  obtain ⟨G, HG⟩ : ∃ G, Hid (w4.heap.size = G) := ⟨_, rfl⟩
  rw [HG.out] at H5 ⊢
  go_loopw [7] (fun i wr => ∃ j : Nat, j ≤ 12 ∧ i = .int .i64 j ∧ Blk wr G 25 (u8s (X.take j ++ zs0 (12 - j))) ∧ Kept (fun b => b = G) w5 wr) (fun i _ => 12 - (intOf i).toNat)
  case atStart => exact ⟨0, Nat.zero_le _, rfl, H5.out.2.2.2.1, Kept.refl _ _⟩
  case round =>
    obtain ⟨j, hj, rfl, hbk, hkp⟩ := hrel
    by_cases hjl : j < 12
    · obtain ⟨b, o, rfl, hb, hc⟩ := H5.out.2.2.1.cells (by decide)
      have hbG : b ≠ G := by have := H5.out.2.2.2.2.2 b o rfl; omega
      have c1 := (hkp.cell (p := ⟨b, o + j, none⟩) hb hbG).trans (hc j hjl)
      have hlen : (X.take j ++ zs0 (12 - j) : List Int).length = 12 := by rw [List.length_append, List.length_take, HX.out.2.1, zs0_length]; omega
      have cg := u8s_cell hbk j (by rw [hlen]; exact hjl)
      have fg := hbk.frozen j
      have hset : (X.take j ++ zs0 (12 - j) : List Int).set j (X.getD j 0) = X.take (j + 1) ++ zs0 (12 - (j + 1)) := by
        have h := take_next X j (by rw [HX.out.2.1]; exact hjl) (12 - (j + 1))
        rw [show 12 - (j + 1) + 1 = 12 - j by omega] at h
        exact h
      obtain ⟨D, hD⟩ : ∃ D, X.getD j 0 = D := ⟨_, rfl⟩
      obtain ⟨Z, hZ⟩ : ∃ Z, (X.take j ++ zs0 (12 - j) : List Int).getD j 0 = Z := ⟨_, rfl⟩
      rw [hD] at c1 hset
      rw [hZ] at cg
      have HQ : Hid (Blk (wr.setCell ⟨G, j, none⟩ (.int .u8 D)) G 25 (u8s (X.take (j + 1) ++ zs0 (12 - (j + 1)))) ∧ Kept (fun b => b = G) w5 (wr.setCell ⟨G, j, none⟩ (.int .u8 D))) := by
        have R := hbk.set j (.int .u8 D)
        rw [u8s_set, hset] at R
        exact ⟨R, hkp.setCell rfl _⟩
      have i2 : (j : Int) < 12 := by omega
      have i3 : (0 : Int) ≤ (j : Int) := by omega
      clear hc hD hZ hset hbk hkp hlen
      go_wp2_with fail
      exact ⟨⟨j + 1, by omega, by go_num, HQ.out.1, HQ.out.2⟩, by simp [intOf]; omega⟩
    · obtain rfl : j = 12 := by omega
      have e1 : X.take 12 ++ zs0 (12 - 12) = X := by rw [List.take_of_length_le (by rw [HX.out.2.1]; exact Nat.le_refl _)]; simp [zs0]
      rw [e1] at hbk
      have HQ : Hid (Blk wr G 25 (u8s X) ∧ Blk wr w.heap.size 25 (u8s (zs0 12)) ∧ Below w.heap.size w wr) := by
        have := H5.out.2.2.2.2.1
        exact ⟨hbk, H5.out.1.kept hkp (by omega), below_kept H5.out.2.1 hkp H5.out.2.1.size (fun j hj => by omega)⟩
      clear hbk hkp e1
      rw [show ((12 : Nat) : Int) = 12 from rfl]
      go_wp2_with (first | (refine wpList_load_blk rfl 25 _ rfl _ rfl (u8s X) _ HQ.out.1 Try.underlying25 rfl (by rw [u8s_length, HX.out.2.1]; exact sizeNonce) ?_) | (refine wpList_store_blk rfl 25 25 _ _ rfl _ rfl _ (u8s X) rfl HQ.out.2.1 (by rw [u8s_length, u8s_length, HX.out.2.1]; rfl) (by rw [u8s_length, HX.out.2.1]; exact sizeNonce) (u8s_one _) ?_; intro w9 b9 s9 k9))
      exact ret_blk rfl w.heap.size (u8s X) _ rfl b9 Try.underlying25 rfl (by rw [u8s_length, HX.out.2.1]; exact sizeNonce) rfl ⟨rfl, below_kept HQ.out.2.2 k9 HQ.out.2.2.size (fun j hj => by omega)⟩
end Go.Proofs.Ytogplebajpdmoaa
