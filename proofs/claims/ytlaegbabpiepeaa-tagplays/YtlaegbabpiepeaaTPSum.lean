/- Layer tag: the code of what a poly holds. -/
import Derived.Test.YtlaegbabpiepeaaTNew
namespace Go.Proofs.Ytlaegbabpiepeaa
open Go.RowKit
set_option linter.unusedVariables false
set_option linter.unusedSimpArgs false

theorem sizeTag : (Try.prog.info? 46).map (·.size) = some 16 := by kernel_rfl
theorem zeroTag : (Try.prog.info? 46).map (fun i => (i.zero, i.size)) = some (some (.agg (u8s (zs0 16)).toArray), 16) := by kernel_rfl
theorem buildTag (w : World) : (Instr.build 46 #[]).run Try.prog w = .ok (.agg (u8s (zs0 16)).toArray) w := by kernel_rfl
/-- A slice of so many bytes; a pointer to so many. -/
def isSl (n : Nat) (L : List Int) (v : Value) (w : World) : Prop := ∃ b o c, v = .slice (some ⟨b, o, none⟩) n c ∧ Seen w (some ⟨b, o, none⟩) n L
theorem isSl_later (n : Nat) (L : List Int) : ∀ v w w', Below w.heap.size w w' → isSl n L v w → isSl n L v w' := fun _ _ _ hb ⟨b, o, c, h1, h2⟩ => ⟨b, o, c, h1, h2.later hb (Nat.le_refl _)⟩
def isPt (n : Nat) (L : List Int) (v : Value) (w : World) : Prop := ∃ b o, v = .pointer (some ⟨b, o, none⟩) ∧ Seen w (some ⟨b, o, none⟩) n L
theorem isPt_later (n : Nat) (L : List Int) : ∀ v w w', Below w.heap.size w w' → isPt n L v w → isPt n L v w' := fun _ _ _ hb ⟨b, o, h1, h2⟩ => ⟨b, o, h1, h2.later hb (Nat.le_refl _)⟩
theorem seen_range {w : World} {b o n : Nat} {L : List Int} (h : Seen w (some ⟨b, o, none⟩) n L) : w.rangeAt b o (u8s L) := fun j v hv => by
  have hj : j < L.length := by have := (List.getElem?_eq_some_iff.1 hv).1; rwa [u8s_length] at this
  have hl := h.len
  obtain ⟨b', o', e, _, hc⟩ := h.cells (by omega)
  cases e
  rw [hc j (by omega), ← hv]
  simp [u8s, List.getD, hj]
theorem own_sl {w : World} {base : Nat} {v : Value} {n : Nat} {L : List Int} (hl : L.length = n) (hn : 0 < n) (hb : Bytes L) (ht : n ≤ 140737488355328) (h : w.ownsRow base 5 1 v n (L.map (Value.int .u8))) : isSl n L v w := by
  obtain ⟨vo, cap, rfl, hs, _⟩ := own_seen hl hb ht h
  obtain ⟨b, o, rfl, _⟩ := hs.cells hn
  exact ⟨b, o, cap, rfl, hs⟩
theorem put_first (x : Int) (hx : Word x) (w : World) : Calls Try.prog 22 #[.slice none 0 0, .int .u64 x] w fun e w' => ∃ v, e = .returned v ∧ isSl 8 (leB 8 x) v w' ∧ Below w.heap.size w w' := by
  refine (put_64 none 0 0 [] x w (Seen.empty _ _) (fun _ => rfl) (by decide) hx).mono ?_
  rintro e w' ⟨v, rfl, ho, hb⟩
  exact ⟨v, rfl, own_sl (leB_length _ _) (by decide) (leB_bytes _ _) (by decide) ho, hb⟩
theorem put_more (b o c : Nat) (L : List Int) (x : Int) (hx : Word x) (w : World) (hs : Seen w (some ⟨b, o, none⟩) 8 L) : Calls Try.prog 22 #[.slice (some ⟨b, o, none⟩) 8 c, .int .u64 x] w fun e w' => ∃ v, e = .returned v ∧ isSl 16 (L ++ leB 8 x) v w' ∧ Below w.heap.size w w' := by
  refine (put_64 (some ⟨b, o, none⟩) 8 c L x w hs (fun h => by cases h) (by decide) hx).mono ?_
  rintro e w' ⟨v, rfl, ho, hb⟩
  exact ⟨v, rfl, own_sl (by rw [List.length_append, hs.len, leB_length]) (by decide) (bytes_app hs.bytes (leB_bytes _ _)) (by decide) ho, hb⟩
theorem arrTag (ao : Option Addr) (n c : Nat) (hn : 16 ≤ n) (w : World) : (Instr.arrayAt 46 (.slice ao n c)).run Try.prog w = .ok (.pointer ao) w := run_arrayAt w 46 5 16 ao n c Try.underlying46 hn
set_option maxRecDepth 20000 in
theorem psum_nil (w : World) : Calls Try.prog 11 #[.pointer none] w fun e w' => e = .returned (.agg (u8s (zs0 16)).toArray) ∧ Below w.heap.size w w' := by
  go_enter Try.func11, Try.ntmps11
  go_wp2_with (first | (refine wpList_alloc_new rfl 46 rfl 16 _ zeroTag ?_; intro w1 b1 s1 l1) | (refine wpList_build rfl 46 _ rfl #[] rfl _ (buildTag _) ?_) | (refine wpList_store_blk rfl 46 46 _ _ rfl _ rfl _ (u8s (zs0 16)) rfl b1 rfl sizeTag (u8s_one _) ?_; intro w2 b2 s2 k2))
  exact ret_blk rfl w.heap.size _ _ rfl b2 Try.underlying46 rfl sizeTag rfl ⟨rfl, below_kept l1 k2 l1.size (fun j hj => by omega)⟩
theorem code_words (A s : Int) (hA : 0 ≤ A) (hs : 0 ≤ s ∧ s < 340282366920938463463374607431768211456) : pr (A % 340282366920938463463374607431768211456) = [A % 18446744073709551616, A / 18446744073709551616 % 18446744073709551616] := by
  unfold pr
  refine List.cons_eq_cons.2 ⟨by omega, List.cons_eq_cons.2 ⟨by omega, rfl⟩⟩
set_option maxRecDepth 20000 in
set_option maxHeartbeats 4000000 in
theorem psum_any (g : Nat) (r0 r1 s : Int) (m : List Int) (w : World) (h : PHolds w g r0 r1 s m) :
    Calls Try.prog 11 #[.pointer (some ⟨g, 0, none⟩)] w fun e w' => e = .returned (.agg (u8s (codeB (r0 + 18446744073709551616 * r1) s m)).toArray) ∧ Below w.heap.size w w' := by
  have hP := h.at_
  have hE := accE_bd (r0 + 18446744073709551616 * r1) m (by have := hP.hr0; have := hP.hr1; omega) h.bytes
  have hR := reduced_any (accE (r0 + 18446744073709551616 * r1) m) ⟨hE.1, by omega⟩
  obtain ⟨E, hEe⟩ : ∃ z, accE (r0 + 18446744073709551616 * r1) m = z := ⟨_, rfl⟩
  obtain ⟨D, hD⟩ : ∃ z, E % prime = z := ⟨_, rfl⟩
  have hD0 : 0 ≤ D := by rw [← hD]; exact Int.emod_nonneg _ (by decide)
  obtain ⟨T, hT⟩ : ∃ z, (D % 340282366920938463463374607431768211456 + s) % 340282366920938463463374607431768211456 = z := ⟨_, rfl⟩
  have hT0 : 0 ≤ T ∧ T < 340282366920938463463374607431768211456 := by omega
  have hcode : codeB (r0 + 18446744073709551616 * r1) s m = leB 8 (T % 18446744073709551616) ++ leB 8 (T / 18446744073709551616) := by
    rw [code_split, codeB, codeN, hEe, hD, hT]
  rw [hEe, hD] at hR
  have hpl := pplus_any (D % 340282366920938463463374607431768211456) s ⟨by omega, by omega⟩ hP.hs
  rw [hT, code_words D s hD0 hP.hs] at hpl
  obtain ⟨d0, hd0⟩ : ∃ z, D % 18446744073709551616 = z := ⟨_, rfl⟩
  obtain ⟨d1, hd1⟩ : ∃ z, D / 18446744073709551616 % 18446744073709551616 = z := ⟨_, rfl⟩
  obtain ⟨d2, hd2⟩ : ∃ z, D / 340282366920938463463374607431768211456 = z := ⟨_, rfl⟩
  have eD : nm D = [d0, d1, d2] := by unfold nm; rw [hd0, hd1, hd2]
  obtain ⟨t0, ht0⟩ : ∃ z, T % 18446744073709551616 = z := ⟨_, rfl⟩
  obtain ⟨t1, ht1⟩ : ∃ z, T / 18446744073709551616 = z := ⟨_, rfl⟩
  have eT : pr T = [t0, t1] := by unfold pr; rw [ht0, ht1]
  have wt0 : Word t0 := ⟨by omega, by omega⟩
  have wt1 : Word t1 := ⟨by omega, by omega⟩
  rw [hd0, hd1, eT] at hpl
  rw [eD] at hR
  obtain ⟨EE, hEE⟩ : ∃ z, nm E = z := ⟨_, rfl⟩
  rw [hEE] at hR
  obtain ⟨CB, hCB⟩ : ∃ z, codeB (r0 + 18446744073709551616 * r1) s m = z := ⟨_, rfl⟩
  rw [ht0, ht1, hCB] at hcode
  have HC : Hid (CB = leB 8 t0 ++ leB 8 t1 ∧ CB.length = 16 ∧ Word t0 ∧ Word t1 ∧ EE.length = 3 ∧ Bytes CB) := ⟨hcode, by rw [← hCB]; exact codeB_length _ _ _, wt0, wt1, by rw [← hEE]; rfl, by rw [← hCB]; exact codeB_bytes _ _ _⟩
  rw [hCB]
  have CC : Hid ((∀ w, Calls Try.prog 20 #[.agg (u64s EE).toArray] w fun e w' => e = .returned (.agg (u64s [d0, d1, d2]).toArray) ∧ Below w.heap.size w w') ∧ (∀ w, Calls Try.prog 21 #[.agg (u64s [d0, d1]).toArray, .agg (u64s (pr s)).toArray] w fun e w' => e = .returned (.agg (u64s [t0, t1]).toArray) ∧ Below w.heap.size w w')) := ⟨hR, hpl⟩
  have HE : Hid (accE (r0 + 18446744073709551616 * r1) m = E ∧ nm E = EE) := ⟨hEe, hEE⟩
  obtain ⟨a, ha⟩ : ∃ z, acc (r0 + 18446744073709551616 * r1) m = z := ⟨_, rfl⟩
  obtain ⟨F, hF⟩ : ∃ z, m.length % 16 = z := ⟨_, rfl⟩
  rw [ha, hF] at hP
  have HP : Hid (PolyAt w g r0 r1 s a (openB m) F ∧ Bytes m ∧ m.length % 16 = F ∧ acc (r0 + 18446744073709551616 * r1) m = a ∧ F < 16) := ⟨hP, h.bytes, hF, ha, by omega⟩
  clear hP hE hR hpl hD hD0 hT hT0 hcode hd0 hd1 hd2 eD ht0 ht1 eT wt0 wt1 hEE hCB hEe ha hF h
  by_cases h0 : 0 < F
  · have i0 : (0 : Int) < (F : Int) := by omega
    have hF16 := HP.out.2.2.2.2
    have i2 : (F : Int) < 16 := by omega
    obtain ⟨LB, hLB⟩ : ∃ z, lastB m = z := ⟨_, rfl⟩
    have hbe : ∀ W, PolyAt W g r0 r1 s a (openB m) F → Calls Try.prog 17 #[.pointer (some ⟨g, 0, none⟩), .agg (u8s LB).toArray, .int .u64 0] W fun e w' => e = .returned (.agg (u64s EE).toArray) ∧ Below W.heap.size W w' := fun W hW => by
      have q := behind_any g r0 r1 s a (openB m) F (lastB m) 0 (lastB_length m) (lastB_bytes HP.out.2.1) (by decide) W hW
      have e : step5 (r0 + 18446744073709551616 * r1) a (le (lastB m) + 0 * 340282366920938463463374607431768211456) = E := by
        rw [← HE.out.1, accE, HP.out.2.2.1, if_pos h0, HP.out.2.2.2.1, Int.zero_mul, Int.add_zero]
      rw [e, HE.out.2, hLB] at q
      exact q
    have HBE : Hid (∀ W, PolyAt W g r0 r1 s a (openB m) F → Calls Try.prog 17 #[.pointer (some ⟨g, 0, none⟩), .agg (u8s LB).toArray, .int .u64 0] W fun e w' => e = .returned (.agg (u64s EE).toArray) ∧ Below W.heap.size W w') := hbe
    have HLB : Hid (LB.length = 16 ∧ (openB m).set F 1 = LB) := ⟨by rw [← hLB]; exact lastB_length m, by rw [← hLB, ← open_set, HP.out.2.2.1]⟩
    clear hbe hLB
    go_enter Try.func11, Try.ntmps11
    go_wp2_with (first | (refine wpList_alloc_new rfl 46 rfl 16 _ zeroTag ?_; intro w1 b1 s1 l1; have P1 : Hid (PolyAt w1 g r0 r1 s a (openB m) F) := HP.out.1.later l1 HP.out.1.lt; have A1 : Hid (w1.rangeAt g 4 (u64s (nm a))) := blk_a P1.out.blk) | ((with_reducible show wpList _ _ _ _ _ w1); refine wpList_load_mid rfl 55 _ rfl g 4 rfl (u64s (nm a)) _ A1.out Try.underlying55 rfl (by exact sizeNumber) ?_) | ((with_reducible show wpList _ _ _ _ _ w1); refine wpList_alloc_new rfl 55 rfl 3 _ zeroNumber ?_; intro w2 b2 s2 l2) | ((with_reducible show wpList _ _ _ _ _ w2); refine wpList_store_blk rfl 55 55 _ _ rfl _ rfl _ (u64s (nm a)) rfl b2 rfl sizeNumber (u64s_one _) ?_; intro w3 b3 s3 k3; have P3 : Hid (PolyAt w3 g r0 r1 s a (openB m) F) := ((P1.out.later l2 P1.out.lt).kept k3 (by have := P1.out.lt; omega)); have c3 := blk_filled P3.out.blk P3.out.ol) | ((with_reducible show wpList _ _ _ _ _ w3); refine wpList_load_mid rfl 45 _ rfl g 7 rfl (u8s (openB m)) _ (blk_open P3.out.blk) Try.underlying45 rfl (by rw [u8s_length, openB_length]; exact size16) ?_) | ((with_reducible show wpList _ _ _ _ _ w3); refine wpList_alloc_new rfl 45 rfl 16 _ zero16 ?_; intro w4 b4 s4 l4) | ((with_reducible show wpList _ _ _ _ _ w4); refine wpList_store_blk rfl 45 45 _ _ rfl _ rfl _ (u8s (openB m)) rfl b4 (by rw [u8s_length, u8s_length, openB_length]; rfl) (by rw [u8s_length, openB_length]; exact size16) (u8s_one _) ?_; intro w5 b5 s5 k5; have e3 : w3.heap.size = w.heap.size + 1 + 1 := (by omega); rw [e3] at b5 k5; have P5 : Hid (PolyAt w5 g r0 r1 s a (openB m) F) := ((P3.out.later l4 P3.out.lt).kept k5 (by have := P3.out.lt; omega)); have c5 := blk_filled P5.out.blk P5.out.ol; have y5 := u8s_cell b5 F (by rw [openB_length]; exact hF16); have f5 := b5.frozen F) | (refine wpList_load_blk rfl 45 _ rfl _ rfl (u8s LB) _ (by have q := b5.set F (.int .u8 1); rw [u8s_set, HLB.out.2] at q; exact q) Try.underlying45 rfl (by rw [u8s_length, HLB.out.1]; exact size16) ?_) | (go_at_call 17; refine (HBE.out _ (P5.out.kept ((Kept.refl (fun k => k = (w.heap.size + 1 + 1)) w5).setCell (p := ⟨(w.heap.size + 1 + 1), F, none⟩) rfl (.int .u8 1)) (by have := P3.out.lt; omega))).mono ?_; rintro e w6 ⟨rfl, l6⟩; have B6 : Hid (Blk w6 (w.heap.size + 1) 55 (u64s (nm a)) ∧ Blk w6 w.heap.size 46 (u8s (zs0 16)) ∧ Below w.heap.size w w6 ∧ PolyAt w6 g r0 r1 s a (openB m) F) := (by have q6 := l6.size; rw [s1] at b3; have q : (w5.setCell ⟨(w.heap.size + 1 + 1), F, none⟩ (.int .u8 1)).heap.size = w5.heap.size := (by simp [World.setCell]); have kk := (Kept.refl (fun k => k = (w.heap.size + 1 + 1)) w5).setCell (p := ⟨(w.heap.size + 1 + 1), F, none⟩) rfl (.int .u8 1); have gl := P5.out.lt; have gl3 := P3.out.lt; have glw := HP.out.1.lt; exact ⟨((((b3.later l4 (by omega)).kept k5 (by omega)).kept kk (by omega)).later l6 (by omega)), (((((((b1.later l2 (by omega)).kept k3 (by omega)).later l4 (by omega)).kept k5 (by omega)).kept kk (by omega))).later l6 (by omega)), below_chain (below_kept (below_kept (below_chain (below_kept (below_chain l1 l2 (by omega)) k3 (by omega) (fun j hj => by omega)) l4 (by omega)) k5 (by omega) (fun j hj => by omega)) kk (by omega) (fun j hj => by omega)) l6 (by omega), (P5.out.kept kk (by omega)).later l6 (by omega)⟩)) | ((with_reducible show wpList _ _ _ _ _ w6); refine wpList_store_blk rfl 55 55 _ _ rfl (w.heap.size + 1) rfl _ (u64s EE) rfl B6.out.1 (by rw [u64s_length, HC.out.2.2.2.2.1]; rfl) (by rw [u64s_length, HC.out.2.2.2.2.1]; exact sizeNumber) (u64s_one _) ?_; intro w7 b7 s7 k7; have X7 : Hid (Blk w7 (w.heap.size + 1) 55 (u64s EE) ∧ Blk w7 w.heap.size 46 (u8s (zs0 16)) ∧ Below w.heap.size w w7 ∧ PolyAt w7 g r0 r1 s a (openB m) F ∧ g < w.heap.size) := ⟨b7, B6.out.2.1.kept k7 (by omega), below_kept B6.out.2.2.1 k7 B6.out.2.2.1.size (fun j hj => by omega), B6.out.2.2.2.kept k7 (by have := HP.out.1.lt; omega), HP.out.1.lt⟩; clear e3 b1 s1 l1 b2 s2 l2 b3 s3 k3 c3 b4 s4 l4 b5 s5 k5 c5 y5 f5 l6 b7 s7 k7) | (refine wpList_load_blk rfl 55 _ rfl (w.heap.size + 1) rfl (u64s EE) _ X7.out.1 Try.underlying55 rfl (by rw [u64s_length, HC.out.2.2.2.2.1]; exact sizeNumber) ?_) | (go_at_call 20; refine (CC.out.1 _).mono ?_; rintro e w8 ⟨rfl, l8⟩; have X8 : Hid (Blk w8 (w.heap.size + 1) 55 (u64s EE) ∧ Blk w8 w.heap.size 46 (u8s (zs0 16)) ∧ Below w.heap.size w w8 ∧ PolyAt w8 g r0 r1 s a (openB m) F) := ⟨X7.out.1.later l8 X7.out.1.lt, X7.out.2.1.later l8 X7.out.2.1.lt, below_chain X7.out.2.2.1 l8 X7.out.2.2.1.size, X7.out.2.2.2.1.later l8 X7.out.2.2.2.1.lt⟩; clear l8) | (refine wpList_store_blk rfl 55 55 _ _ rfl (w.heap.size + 1) rfl _ (u64s [d0, d1, d2]) rfl X8.out.1 (by rw [u64s_length, u64s_length, HC.out.2.2.2.2.1]; rfl) sizeNumber (u64s_one _) ?_; intro w9 b9 s9 k9; have X9 : Hid (Blk w9 (w.heap.size + 1) 55 (u64s [d0, d1, d2]) ∧ Blk w9 w.heap.size 46 (u8s (zs0 16)) ∧ Below w.heap.size w w9 ∧ Blk w9 g 60 (pCells r0 r1 s a (openB m) F)) := ⟨b9, X8.out.2.1.kept k9 (by omega), below_kept X8.out.2.2.1 k9 X8.out.2.2.1.size (fun j hj => by omega), (X8.out.2.2.2.kept k9 (by have := X7.out.2.2.2.2; omega)).blk⟩; clear b9 s9 k9))
    simp only [Act.put, List.setIfInBounds_toArray, List.set_cons_zero, List.set_cons_succ]
    refine region_inv [.val (.pointer (some ⟨(w.heap.size + 1), 0, none⟩)), .val (.int .u64 d0), .val (.pointer (some ⟨(w.heap.size + 1), 1, none⟩)), .val (.int .u64 d1), .val (.agg (u64s [d0, d1]).toArray), .val (.pointer (some ⟨g, 0, none⟩)), .val (.pointer (some ⟨g, 0, none⟩)), .val (.pointer (some ⟨g, 2, none⟩)), .val (.agg (u64s (pr s)).toArray), .val (.agg (u64s [t0, t1]).toArray), .blk 58 (u64s [0, 0])] (by kernel_rfl) (by kernel_rfl) (by kernel_rfl) ?_ ?_
    · refine Steps'.cons ?_ (Steps'.cons ?_ (Steps'.cons ?_ (Steps'.cons ?_ (Steps'.cons ?_ (Steps'.cons ?_ (Steps'.cons ?_ (Steps'.cons ?_ (Steps'.cons ?_ (Steps'.cons ?_ (Steps'.cons ?_ (Steps'.one _ _ _ _ _ _ _)))))))))))
      · intro ax wx hb hs hd
        have h3 : ax.tmps.getD 3 undef = (.pointer (some ⟨(w.heap.size + 1), 0, none⟩)) := hs 3 (by kernel_rfl)
        refine Does.value (.pointer (some ⟨(w.heap.size + 1), 0, none⟩)) ?_ rfl
        go_simp
      · intro ax wx hb hs hd
        have h32 : ax.tmps.getD 32 undef = (.pointer (some ⟨(w.heap.size + 1), 0, none⟩)) := hd 0 32 rfl (by kernel_rfl) (by decide)
        have cx : wx.cell? ⟨(w.heap.size + 1), 0, none⟩ = some (.int .u64 d0) := (Blk.later X9.out.1 hb (Blk.lt X9.out.1)).cell 0
        refine Does.value (.int .u64 d0) ?_ rfl
        go_simp
      · intro ax wx hb hs hd
        have h3 : ax.tmps.getD 3 undef = (.pointer (some ⟨(w.heap.size + 1), 0, none⟩)) := hs 3 (by kernel_rfl)
        refine Does.value (.pointer (some ⟨(w.heap.size + 1), 1, none⟩)) ?_ rfl
        go_simp
      · intro ax wx hb hs hd
        have h34 : ax.tmps.getD 34 undef = (.pointer (some ⟨(w.heap.size + 1), 1, none⟩)) := hd 2 34 rfl (by kernel_rfl) (by decide)
        have cx : wx.cell? ⟨(w.heap.size + 1), 1, none⟩ = some (.int .u64 d1) := (Blk.later X9.out.1 hb (Blk.lt X9.out.1)).cell 1
        refine Does.value (.int .u64 d1) ?_ rfl
        go_simp
      · intro ax wx hb hs hd
        have h33 : ax.tmps.getD 33 undef = (.int .u64 d0) := hd 1 33 rfl (by kernel_rfl) (by decide)
        have h35 : ax.tmps.getD 35 undef = (.int .u64 d1) := hd 3 35 rfl (by kernel_rfl) (by decide)
        exact Does.build 58 _ rfl #[(0, .int .u64 d0), (1, .int .u64 d1)] (by simp only [List.map_toArray, List.map_cons, List.map_nil, Act.eval, h33, h35]) _ (build_pair _ _ _)
      · intro ax wx hb hs hd
        have h0 : ax.tmps.getD 0 undef = (.pointer (some ⟨g, 0, none⟩)) := hs 0 (by kernel_rfl)
        refine Does.value (.pointer (some ⟨g, 0, none⟩)) ?_ rfl
        go_simp
      · intro ax wx hb hs hd
        have h37 : ax.tmps.getD 37 undef = (.pointer (some ⟨g, 0, none⟩)) := hd 5 37 rfl (by kernel_rfl) (by decide)
        refine Does.value (.pointer (some ⟨g, 0, none⟩)) ?_ rfl
        go_simp
      · intro ax wx hb hs hd
        have h38 : ax.tmps.getD 38 undef = (.pointer (some ⟨g, 0, none⟩)) := hd 6 38 rfl (by kernel_rfl) (by decide)
        refine Does.value _ ?_ rfl
        go_simp
      · intro ax wx hb hs hd
        have h39 : ax.tmps.getD 39 undef = (.pointer (some ⟨g, 2, none⟩)) := hd 7 39 rfl (by kernel_rfl) (by decide)
        exact Does.load 58 (.tmp 39) rfl g 2 h39 (u64s (pr s)) _ (blk_s (Blk.later X9.out.2.2.2 hb (Blk.lt X9.out.2.2.2))) Try.underlying58 rfl (by exact sizePair)
      · intro ax wx hb hs hd
        have h36 : ax.tmps.getD 36 undef = (.agg (u64s [d0, d1]).toArray) := hd 4 36 rfl (by kernel_rfl) (by decide)
        have h40 : ax.tmps.getD 40 undef = (.agg (u64s (pr s)).toArray) := hd 8 40 rfl (by kernel_rfl) (by decide)
        refine Does.call 21 #[(.agg (u64s [d0, d1]).toArray), (.agg (u64s (pr s)).toArray)] (by go_simp) ?_
        refine (CC.out.2 _).mono ?_
        rintro z w' ⟨rfl, l⟩
        exact ⟨_, rfl, rfl, l⟩
      · intro ax wx hb hs hd
        exact Does.alloc 58 rfl 2 _ zeroPair hb.size
    · intro wx hb
      refine @Ends.val _ _ _ _ _ _ _ _ _ (.pointer (some ⟨(w.heap.size + 1), 0, none⟩)) rfl ?_
      refine @Ends.val _ _ _ _ _ _ _ _ _ (.int .u64 d0) rfl ?_
      refine @Ends.val _ _ _ _ _ _ _ _ _ (.pointer (some ⟨(w.heap.size + 1), 1, none⟩)) rfl ?_
      refine @Ends.val _ _ _ _ _ _ _ _ _ (.int .u64 d1) rfl ?_
      refine @Ends.val _ _ _ _ _ _ _ _ _ (.agg (u64s [d0, d1]).toArray) rfl ?_
      refine @Ends.val _ _ _ _ _ _ _ _ _ (.pointer (some ⟨g, 0, none⟩)) rfl ?_
      refine @Ends.val _ _ _ _ _ _ _ _ _ (.pointer (some ⟨g, 0, none⟩)) rfl ?_
      refine @Ends.val _ _ _ _ _ _ _ _ _ (.pointer (some ⟨g, 2, none⟩)) rfl ?_
      refine @Ends.val _ _ _ _ _ _ _ _ _ (.agg (u64s (pr s)).toArray) rfl ?_
      refine @Ends.val _ _ _ _ _ _ _ _ _ (.agg (u64s [t0, t1]).toArray) rfl ?_
      refine @Ends.blk _ _ _ _ _ _ _ _ _ 58 (u64s [0, 0]) rfl ?_
      intro g10 hg10 bg10
      refine @Ends.one _ _ _ _ _ _ _ ?_
      simp only [Act.put, List.setIfInBounds_toArray, List.set_cons_zero, List.set_cons_succ]
      refine last_store 58 (.tmp 5) (.tmp 41) rfl rfl g10 rfl 58 _ (u64s [t0, t1]) rfl bg10 rfl sizePair (u64s_one _) ?_
      intro wa ba sa ka
      have XA : Hid (Blk wa g10 58 (u64s [t0, t1]) ∧ Blk wa w.heap.size 46 (u8s (zs0 16)) ∧ Below w.heap.size w wa) := by
        have q2 := X9.out.2.1.lt
        have q5 := hb.size
        have q6 := X9.out.2.2.1.size
        exact ⟨ba, (X9.out.2.1.later hb q2).kept ka (by omega), below_kept (below_chain X9.out.2.2.1 hb (by omega)) ka (by omega) (fun j hj => by omega)⟩
      clear ba sa ka hb bg10 hg10 X9
      go_wp2_with fail
      try simp only [Act.put, List.setIfInBounds_toArray, List.set_cons_zero, List.set_cons_succ]
      refine region_inv [.val (.pointer (some ⟨g10, 0, none⟩)), .val (.int .u64 t0), .any (isSl 8 (leB 8 t0)) (isSl_later _ _), .val (.pointer (some ⟨g10, 1, none⟩)), .val (.int .u64 t1), .any (isSl 16 CB) (isSl_later _ _), .any (isPt 16 CB) (isPt_later _ _), .val (.agg (u8s CB).toArray)] (by kernel_rfl) (by kernel_rfl) (by kernel_rfl) ?_ ?_
      · refine Steps'.cons ?_ (Steps'.cons ?_ (Steps'.cons ?_ (Steps'.cons ?_ (Steps'.cons ?_ (Steps'.cons ?_ (Steps'.cons ?_ (Steps'.cons ?_ (Steps'.one _ _ _ _ _ _ _))))))))
        · intro ax wx hb hs hd
          have h5 : ax.tmps.getD 5 undef = (.pointer (some ⟨g10, 0, none⟩)) := hs 5 (by kernel_rfl)
          refine Does.value (.pointer (some ⟨g10, 0, none⟩)) ?_ rfl
          go_simp
        · intro ax wx hb hs hd
          have h42 : ax.tmps.getD 42 undef = (.pointer (some ⟨g10, 0, none⟩)) := hd 0 42 rfl (by kernel_rfl) (by decide)
          have cx : wx.cell? ⟨g10, 0, none⟩ = some (.int .u64 t0) := (Blk.later XA.out.1 hb (Blk.lt XA.out.1)).cell 0
          refine Does.value (.int .u64 t0) ?_ rfl
          go_simp
        · intro ax wx hb hs hd
          have h43 : ax.tmps.getD 43 undef = (.int .u64 t0) := hd 1 43 rfl (by kernel_rfl) (by decide)
          refine Does.call 22 #[(Value.slice none 0 0), (.int .u64 t0)] (by go_simp) ?_
          exact put_first t0 HC.out.2.2.1 _
        · intro ax wx hb hs hd
          have h5 : ax.tmps.getD 5 undef = (.pointer (some ⟨g10, 0, none⟩)) := hs 5 (by kernel_rfl)
          refine Does.value (.pointer (some ⟨g10, 1, none⟩)) ?_ rfl
          go_simp
        · intro ax wx hb hs hd
          have h45 : ax.tmps.getD 45 undef = (.pointer (some ⟨g10, 1, none⟩)) := hd 3 45 rfl (by kernel_rfl) (by decide)
          have cx : wx.cell? ⟨g10, 1, none⟩ = some (.int .u64 t1) := (Blk.later XA.out.1 hb (Blk.lt XA.out.1)).cell 1
          refine Does.value (.int .u64 t1) ?_ rfl
          go_simp
        · intro ax wx hb hs hd
          have h46 : ax.tmps.getD 46 undef = (.int .u64 t1) := hd 4 46 rfl (by kernel_rfl) (by decide)
          obtain ⟨b, o, cc, h44, s44⟩ : isSl 8 (leB 8 t0) (ax.tmps.getD 44 undef) wx := hd 2 44 rfl (by kernel_rfl) (by decide)
          refine Does.call 22 #[.slice (some ⟨b, o, none⟩) 8 cc, .int .u64 t1] (by go_simp) ?_
          have q := put_more b o cc _ t1 HC.out.2.2.2.1 wx s44
          rw [← HC.out.1] at q
          exact q
        · intro ax wx hb hs hd
          obtain ⟨b, o, cc, h47, s47⟩ : isSl 16 CB (ax.tmps.getD 47 undef) wx := hd 5 47 rfl (by kernel_rfl) (by decide)
          have harr := fun W => arrTag (some ⟨b, o, none⟩) 16 cc (Nat.le_refl _) W
          refine Does.value (.pointer (some ⟨b, o, none⟩)) ?_ ⟨b, o, rfl, s47⟩
          go_simp
        · intro ax wx hb hs hd
          obtain ⟨b, o, h48, s48⟩ : isPt 16 CB (ax.tmps.getD 48 undef) wx := hd 6 48 rfl (by kernel_rfl) (by decide)
          exact Does.load 46 (.tmp 48) rfl b o h48 (u8s CB) _ (seen_range s48) Try.underlying46 rfl (by rw [u8s_length, HC.out.2.1]; exact sizeTag)
      · intro wx hb
        refine @Ends.val _ _ _ _ _ _ _ _ _ (.pointer (some ⟨g10, 0, none⟩)) rfl ?_
        refine @Ends.val _ _ _ _ _ _ _ _ _ (.int .u64 t0) rfl ?_
        refine @Ends.any _ _ _ _ _ _ _ _ _ (isSl 8 (leB 8 t0)) (isSl_later _ _) rfl ?_
        intro v2 p2
        refine @Ends.val _ _ _ _ _ _ _ _ _ (.pointer (some ⟨g10, 1, none⟩)) rfl ?_
        refine @Ends.val _ _ _ _ _ _ _ _ _ (.int .u64 t1) rfl ?_
        refine @Ends.any _ _ _ _ _ _ _ _ _ (isSl 16 CB) (isSl_later _ _) rfl ?_
        intro v5 p5
        refine @Ends.any _ _ _ _ _ _ _ _ _ (isPt 16 CB) (isPt_later _ _) rfl ?_
        intro v6 p6
        refine @Ends.val _ _ _ _ _ _ _ _ _ (.agg (u8s CB).toArray) rfl ?_
        refine @Ends.one _ _ _ _ _ _ _ ?_
        simp only [Act.put, List.setIfInBounds_toArray, List.set_cons_zero, List.set_cons_succ]
        have q := XA.out.2.1
        refine last_store 46 (.tmp 2) (.tmp 49) rfl rfl w.heap.size rfl 46 _ (u8s CB) rfl (q.later hb q.lt) (by rw [u8s_length, u8s_length, HC.out.2.1]; rfl) (by rw [u8s_length, HC.out.2.1]; exact sizeTag) (u8s_one _) ?_
        intro wb bb sb kb
        have XB : Hid (Below w.heap.size w wb) := below_kept (below_chain XA.out.2.2 hb XA.out.2.2.size) kb (by have := XA.out.2.2.size; have := hb.size; omega) (fun j hj => by omega)
        clear hb sb kb q
        go_wp2_with fail
        exact ret_blk rfl w.heap.size (u8s CB) _ rfl bb Try.underlying46 rfl (by rw [u8s_length, HC.out.2.1]; exact sizeTag) rfl ⟨rfl, XB.out⟩
  · have i0 : ¬ (0 : Int) < (F : Int) := by omega
    have ea : nm a = EE := by rw [← HE.out.2, ← HE.out.1, accE, HP.out.2.2.1, if_neg h0, HP.out.2.2.2.1]
    have HEA : Hid (nm a = EE) := ea
    clear ea
    go_enter Try.func11, Try.ntmps11
    go_wp2_with (first | (refine wpList_alloc_new rfl 46 rfl 16 _ zeroTag ?_; intro w1 b1 s1 l1; have P1 : Hid (PolyAt w1 g r0 r1 s a (openB m) F) := HP.out.1.later l1 HP.out.1.lt; have A1 : Hid (w1.rangeAt g 4 (u64s EE)) := (by have q := blk_a P1.out.blk; rw [HEA.out] at q; exact q)) | ((with_reducible show wpList _ _ _ _ _ w1); refine wpList_load_mid rfl 55 _ rfl g 4 rfl (u64s EE) _ A1.out Try.underlying55 rfl (by rw [u64s_length, HC.out.2.2.2.2.1]; exact sizeNumber) ?_) | ((with_reducible show wpList _ _ _ _ _ w1); refine wpList_alloc_new rfl 55 rfl 3 _ zeroNumber ?_; intro w2 b2 s2 l2) | ((with_reducible show wpList _ _ _ _ _ w2); refine wpList_store_blk rfl 55 55 _ _ rfl _ rfl _ (u64s EE) rfl b2 (by rw [u64s_length, HC.out.2.2.2.2.1]; rfl) (by rw [u64s_length, HC.out.2.2.2.2.1]; exact sizeNumber) (u64s_one _) ?_; intro w3 b3 s3 k3; have P3 : Hid (PolyAt w3 g r0 r1 s a (openB m) F) := ((P1.out.later l2 P1.out.lt).kept k3 (by have := P1.out.lt; omega)); have c3 := blk_filled P3.out.blk P3.out.ol; have X7 : Hid (Blk w3 (w.heap.size + 1) 55 (u64s EE) ∧ Blk w3 w.heap.size 46 (u8s (zs0 16)) ∧ Below w.heap.size w w3 ∧ PolyAt w3 g r0 r1 s a (openB m) F ∧ g < w.heap.size) := (by have q := HP.out.1.lt; rw [s1] at b3; exact ⟨b3, (b1.later l2 (by omega)).kept k3 (by omega), below_kept (below_chain l1 l2 (by omega)) k3 (by omega) (fun j hj => by omega), P3.out, q⟩)) | (refine wpList_load_blk rfl 55 _ rfl (w.heap.size + 1) rfl (u64s EE) _ X7.out.1 Try.underlying55 rfl (by rw [u64s_length, HC.out.2.2.2.2.1]; exact sizeNumber) ?_) | (go_at_call 20; refine (CC.out.1 _).mono ?_; rintro e w8 ⟨rfl, l8⟩; have X8 : Hid (Blk w8 (w.heap.size + 1) 55 (u64s EE) ∧ Blk w8 w.heap.size 46 (u8s (zs0 16)) ∧ Below w.heap.size w w8 ∧ PolyAt w8 g r0 r1 s a (openB m) F) := ⟨X7.out.1.later l8 X7.out.1.lt, X7.out.2.1.later l8 X7.out.2.1.lt, below_chain X7.out.2.2.1 l8 X7.out.2.2.1.size, X7.out.2.2.2.1.later l8 X7.out.2.2.2.1.lt⟩; clear l8) | (refine wpList_store_blk rfl 55 55 _ _ rfl (w.heap.size + 1) rfl _ (u64s [d0, d1, d2]) rfl X8.out.1 (by rw [u64s_length, u64s_length, HC.out.2.2.2.2.1]; rfl) sizeNumber (u64s_one _) ?_; intro w9 b9 s9 k9; have X9 : Hid (Blk w9 (w.heap.size + 1) 55 (u64s [d0, d1, d2]) ∧ Blk w9 w.heap.size 46 (u8s (zs0 16)) ∧ Below w.heap.size w w9 ∧ Blk w9 g 60 (pCells r0 r1 s a (openB m) F)) := ⟨b9, X8.out.2.1.kept k9 (by omega), below_kept X8.out.2.2.1 k9 X8.out.2.2.1.size (fun j hj => by omega), (X8.out.2.2.2.kept k9 (by have := X7.out.2.2.2.2; omega)).blk⟩; clear b9 s9 k9))
    simp only [Act.put, List.setIfInBounds_toArray, List.set_cons_zero, List.set_cons_succ]
    refine region_inv [.val (.pointer (some ⟨(w.heap.size + 1), 0, none⟩)), .val (.int .u64 d0), .val (.pointer (some ⟨(w.heap.size + 1), 1, none⟩)), .val (.int .u64 d1), .val (.agg (u64s [d0, d1]).toArray), .val (.pointer (some ⟨g, 0, none⟩)), .val (.pointer (some ⟨g, 0, none⟩)), .val (.pointer (some ⟨g, 2, none⟩)), .val (.agg (u64s (pr s)).toArray), .val (.agg (u64s [t0, t1]).toArray), .blk 58 (u64s [0, 0])] (by kernel_rfl) (by kernel_rfl) (by kernel_rfl) ?_ ?_
    · refine Steps'.cons ?_ (Steps'.cons ?_ (Steps'.cons ?_ (Steps'.cons ?_ (Steps'.cons ?_ (Steps'.cons ?_ (Steps'.cons ?_ (Steps'.cons ?_ (Steps'.cons ?_ (Steps'.cons ?_ (Steps'.cons ?_ (Steps'.one _ _ _ _ _ _ _)))))))))))
      · intro ax wx hb hs hd
        have h3 : ax.tmps.getD 3 undef = (.pointer (some ⟨(w.heap.size + 1), 0, none⟩)) := hs 3 (by kernel_rfl)
        refine Does.value (.pointer (some ⟨(w.heap.size + 1), 0, none⟩)) ?_ rfl
        go_simp
      · intro ax wx hb hs hd
        have h32 : ax.tmps.getD 32 undef = (.pointer (some ⟨(w.heap.size + 1), 0, none⟩)) := hd 0 32 rfl (by kernel_rfl) (by decide)
        have cx : wx.cell? ⟨(w.heap.size + 1), 0, none⟩ = some (.int .u64 d0) := (Blk.later X9.out.1 hb (Blk.lt X9.out.1)).cell 0
        refine Does.value (.int .u64 d0) ?_ rfl
        go_simp
      · intro ax wx hb hs hd
        have h3 : ax.tmps.getD 3 undef = (.pointer (some ⟨(w.heap.size + 1), 0, none⟩)) := hs 3 (by kernel_rfl)
        refine Does.value (.pointer (some ⟨(w.heap.size + 1), 1, none⟩)) ?_ rfl
        go_simp
      · intro ax wx hb hs hd
        have h34 : ax.tmps.getD 34 undef = (.pointer (some ⟨(w.heap.size + 1), 1, none⟩)) := hd 2 34 rfl (by kernel_rfl) (by decide)
        have cx : wx.cell? ⟨(w.heap.size + 1), 1, none⟩ = some (.int .u64 d1) := (Blk.later X9.out.1 hb (Blk.lt X9.out.1)).cell 1
        refine Does.value (.int .u64 d1) ?_ rfl
        go_simp
      · intro ax wx hb hs hd
        have h33 : ax.tmps.getD 33 undef = (.int .u64 d0) := hd 1 33 rfl (by kernel_rfl) (by decide)
        have h35 : ax.tmps.getD 35 undef = (.int .u64 d1) := hd 3 35 rfl (by kernel_rfl) (by decide)
        exact Does.build 58 _ rfl #[(0, .int .u64 d0), (1, .int .u64 d1)] (by simp only [List.map_toArray, List.map_cons, List.map_nil, Act.eval, h33, h35]) _ (build_pair _ _ _)
      · intro ax wx hb hs hd
        have h0 : ax.tmps.getD 0 undef = (.pointer (some ⟨g, 0, none⟩)) := hs 0 (by kernel_rfl)
        refine Does.value (.pointer (some ⟨g, 0, none⟩)) ?_ rfl
        go_simp
      · intro ax wx hb hs hd
        have h37 : ax.tmps.getD 37 undef = (.pointer (some ⟨g, 0, none⟩)) := hd 5 37 rfl (by kernel_rfl) (by decide)
        refine Does.value (.pointer (some ⟨g, 0, none⟩)) ?_ rfl
        go_simp
      · intro ax wx hb hs hd
        have h38 : ax.tmps.getD 38 undef = (.pointer (some ⟨g, 0, none⟩)) := hd 6 38 rfl (by kernel_rfl) (by decide)
        refine Does.value _ ?_ rfl
        go_simp
      · intro ax wx hb hs hd
        have h39 : ax.tmps.getD 39 undef = (.pointer (some ⟨g, 2, none⟩)) := hd 7 39 rfl (by kernel_rfl) (by decide)
        exact Does.load 58 (.tmp 39) rfl g 2 h39 (u64s (pr s)) _ (blk_s (Blk.later X9.out.2.2.2 hb (Blk.lt X9.out.2.2.2))) Try.underlying58 rfl (by exact sizePair)
      · intro ax wx hb hs hd
        have h36 : ax.tmps.getD 36 undef = (.agg (u64s [d0, d1]).toArray) := hd 4 36 rfl (by kernel_rfl) (by decide)
        have h40 : ax.tmps.getD 40 undef = (.agg (u64s (pr s)).toArray) := hd 8 40 rfl (by kernel_rfl) (by decide)
        refine Does.call 21 #[(.agg (u64s [d0, d1]).toArray), (.agg (u64s (pr s)).toArray)] (by go_simp) ?_
        refine (CC.out.2 _).mono ?_
        rintro z w' ⟨rfl, l⟩
        exact ⟨_, rfl, rfl, l⟩
      · intro ax wx hb hs hd
        exact Does.alloc 58 rfl 2 _ zeroPair hb.size
    · intro wx hb
      refine @Ends.val _ _ _ _ _ _ _ _ _ (.pointer (some ⟨(w.heap.size + 1), 0, none⟩)) rfl ?_
      refine @Ends.val _ _ _ _ _ _ _ _ _ (.int .u64 d0) rfl ?_
      refine @Ends.val _ _ _ _ _ _ _ _ _ (.pointer (some ⟨(w.heap.size + 1), 1, none⟩)) rfl ?_
      refine @Ends.val _ _ _ _ _ _ _ _ _ (.int .u64 d1) rfl ?_
      refine @Ends.val _ _ _ _ _ _ _ _ _ (.agg (u64s [d0, d1]).toArray) rfl ?_
      refine @Ends.val _ _ _ _ _ _ _ _ _ (.pointer (some ⟨g, 0, none⟩)) rfl ?_
      refine @Ends.val _ _ _ _ _ _ _ _ _ (.pointer (some ⟨g, 0, none⟩)) rfl ?_
      refine @Ends.val _ _ _ _ _ _ _ _ _ (.pointer (some ⟨g, 2, none⟩)) rfl ?_
      refine @Ends.val _ _ _ _ _ _ _ _ _ (.agg (u64s (pr s)).toArray) rfl ?_
      refine @Ends.val _ _ _ _ _ _ _ _ _ (.agg (u64s [t0, t1]).toArray) rfl ?_
      refine @Ends.blk _ _ _ _ _ _ _ _ _ 58 (u64s [0, 0]) rfl ?_
      intro g10 hg10 bg10
      refine @Ends.one _ _ _ _ _ _ _ ?_
      simp only [Act.put, List.setIfInBounds_toArray, List.set_cons_zero, List.set_cons_succ]
      refine last_store 58 (.tmp 5) (.tmp 41) rfl rfl g10 rfl 58 _ (u64s [t0, t1]) rfl bg10 rfl sizePair (u64s_one _) ?_
      intro wa ba sa ka
      have XA : Hid (Blk wa g10 58 (u64s [t0, t1]) ∧ Blk wa w.heap.size 46 (u8s (zs0 16)) ∧ Below w.heap.size w wa) := by
        have q2 := X9.out.2.1.lt
        have q5 := hb.size
        have q6 := X9.out.2.2.1.size
        exact ⟨ba, (X9.out.2.1.later hb q2).kept ka (by omega), below_kept (below_chain X9.out.2.2.1 hb (by omega)) ka (by omega) (fun j hj => by omega)⟩
      clear ba sa ka hb bg10 hg10 X9
      go_wp2_with fail
      try simp only [Act.put, List.setIfInBounds_toArray, List.set_cons_zero, List.set_cons_succ]
      refine region_inv [.val (.pointer (some ⟨g10, 0, none⟩)), .val (.int .u64 t0), .any (isSl 8 (leB 8 t0)) (isSl_later _ _), .val (.pointer (some ⟨g10, 1, none⟩)), .val (.int .u64 t1), .any (isSl 16 CB) (isSl_later _ _), .any (isPt 16 CB) (isPt_later _ _), .val (.agg (u8s CB).toArray)] (by kernel_rfl) (by kernel_rfl) (by kernel_rfl) ?_ ?_
      · refine Steps'.cons ?_ (Steps'.cons ?_ (Steps'.cons ?_ (Steps'.cons ?_ (Steps'.cons ?_ (Steps'.cons ?_ (Steps'.cons ?_ (Steps'.cons ?_ (Steps'.one _ _ _ _ _ _ _))))))))
        · intro ax wx hb hs hd
          have h5 : ax.tmps.getD 5 undef = (.pointer (some ⟨g10, 0, none⟩)) := hs 5 (by kernel_rfl)
          refine Does.value (.pointer (some ⟨g10, 0, none⟩)) ?_ rfl
          go_simp
        · intro ax wx hb hs hd
          have h42 : ax.tmps.getD 42 undef = (.pointer (some ⟨g10, 0, none⟩)) := hd 0 42 rfl (by kernel_rfl) (by decide)
          have cx : wx.cell? ⟨g10, 0, none⟩ = some (.int .u64 t0) := (Blk.later XA.out.1 hb (Blk.lt XA.out.1)).cell 0
          refine Does.value (.int .u64 t0) ?_ rfl
          go_simp
        · intro ax wx hb hs hd
          have h43 : ax.tmps.getD 43 undef = (.int .u64 t0) := hd 1 43 rfl (by kernel_rfl) (by decide)
          refine Does.call 22 #[(Value.slice none 0 0), (.int .u64 t0)] (by go_simp) ?_
          exact put_first t0 HC.out.2.2.1 _
        · intro ax wx hb hs hd
          have h5 : ax.tmps.getD 5 undef = (.pointer (some ⟨g10, 0, none⟩)) := hs 5 (by kernel_rfl)
          refine Does.value (.pointer (some ⟨g10, 1, none⟩)) ?_ rfl
          go_simp
        · intro ax wx hb hs hd
          have h45 : ax.tmps.getD 45 undef = (.pointer (some ⟨g10, 1, none⟩)) := hd 3 45 rfl (by kernel_rfl) (by decide)
          have cx : wx.cell? ⟨g10, 1, none⟩ = some (.int .u64 t1) := (Blk.later XA.out.1 hb (Blk.lt XA.out.1)).cell 1
          refine Does.value (.int .u64 t1) ?_ rfl
          go_simp
        · intro ax wx hb hs hd
          have h46 : ax.tmps.getD 46 undef = (.int .u64 t1) := hd 4 46 rfl (by kernel_rfl) (by decide)
          obtain ⟨b, o, cc, h44, s44⟩ : isSl 8 (leB 8 t0) (ax.tmps.getD 44 undef) wx := hd 2 44 rfl (by kernel_rfl) (by decide)
          refine Does.call 22 #[.slice (some ⟨b, o, none⟩) 8 cc, .int .u64 t1] (by go_simp) ?_
          have q := put_more b o cc _ t1 HC.out.2.2.2.1 wx s44
          rw [← HC.out.1] at q
          exact q
        · intro ax wx hb hs hd
          obtain ⟨b, o, cc, h47, s47⟩ : isSl 16 CB (ax.tmps.getD 47 undef) wx := hd 5 47 rfl (by kernel_rfl) (by decide)
          have harr := fun W => arrTag (some ⟨b, o, none⟩) 16 cc (Nat.le_refl _) W
          refine Does.value (.pointer (some ⟨b, o, none⟩)) ?_ ⟨b, o, rfl, s47⟩
          go_simp
        · intro ax wx hb hs hd
          obtain ⟨b, o, h48, s48⟩ : isPt 16 CB (ax.tmps.getD 48 undef) wx := hd 6 48 rfl (by kernel_rfl) (by decide)
          exact Does.load 46 (.tmp 48) rfl b o h48 (u8s CB) _ (seen_range s48) Try.underlying46 rfl (by rw [u8s_length, HC.out.2.1]; exact sizeTag)
      · intro wx hb
        refine @Ends.val _ _ _ _ _ _ _ _ _ (.pointer (some ⟨g10, 0, none⟩)) rfl ?_
        refine @Ends.val _ _ _ _ _ _ _ _ _ (.int .u64 t0) rfl ?_
        refine @Ends.any _ _ _ _ _ _ _ _ _ (isSl 8 (leB 8 t0)) (isSl_later _ _) rfl ?_
        intro v2 p2
        refine @Ends.val _ _ _ _ _ _ _ _ _ (.pointer (some ⟨g10, 1, none⟩)) rfl ?_
        refine @Ends.val _ _ _ _ _ _ _ _ _ (.int .u64 t1) rfl ?_
        refine @Ends.any _ _ _ _ _ _ _ _ _ (isSl 16 CB) (isSl_later _ _) rfl ?_
        intro v5 p5
        refine @Ends.any _ _ _ _ _ _ _ _ _ (isPt 16 CB) (isPt_later _ _) rfl ?_
        intro v6 p6
        refine @Ends.val _ _ _ _ _ _ _ _ _ (.agg (u8s CB).toArray) rfl ?_
        refine @Ends.one _ _ _ _ _ _ _ ?_
        simp only [Act.put, List.setIfInBounds_toArray, List.set_cons_zero, List.set_cons_succ]
        have q := XA.out.2.1
        refine last_store 46 (.tmp 2) (.tmp 49) rfl rfl w.heap.size rfl 46 _ (u8s CB) rfl (q.later hb q.lt) (by rw [u8s_length, u8s_length, HC.out.2.1]; rfl) (by rw [u8s_length, HC.out.2.1]; exact sizeTag) (u8s_one _) ?_
        intro wb bb sb kb
        have XB : Hid (Below w.heap.size w wb) := below_kept (below_chain XA.out.2.2 hb XA.out.2.2.size) kb (by have := XA.out.2.2.size; have := hb.size; omega) (fun j hj => by omega)
        clear hb sb kb q
        go_wp2_with fail
        exact ret_blk rfl w.heap.size (u8s CB) _ rfl bb Try.underlying46 rfl (by rw [u8s_length, HC.out.2.1]; exact sizeTag) rfl ⟨rfl, XB.out⟩
end Go.Proofs.Ytlaegbabpiepeaa
