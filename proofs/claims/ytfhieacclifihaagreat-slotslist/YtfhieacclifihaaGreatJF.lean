/- Joined by program: what the theorem reaches. -/
import Derived.Laws.StructEq
import Derived.Lib.SmallJoins
import Derived.Laws.Cover3
import Derived.Lib.SliceRun
import Derived.WalkMore
import Derived.ScopeJumps
import Derived.WalkKit
import Derived.LaidEql
import Derived.Stop.Asserts
import Derived.RowKitTokens
import Derived.Lib.IfaceEq
import Derived.Test.YtfhieacclifihaaGreatJA
import Derived.Test.YtfhieacclifihaaGreatJB
import Derived.Test.YtfhieacclifihaaGreatJC
import Derived.Test.YtfhieacclifihaaGreatJD
import Derived.Test.YtfhieacclifihaaGreatJE
namespace Go.Proofs.YtfhieacclifihaaGreat
open Go.RowKit
set_option linter.unusedVariables false
set_option linter.unusedSimpArgs false

theorem sizeTag : (Tryz.prog.info? 164).map (·.size) = some 16 := by kernel_rfl
theorem zeroTag : (Tryz.prog.info? 164).map (fun i => (i.zero, i.size)) = some (some (.agg (u8s (zs0 16)).toArray), 16) := by kernel_rfl
/-- A slice of so many bytes; a pointer to so many. -/
def isSl (n : Nat) (L : List Int) (v : Value) (w : World) : Prop := ∃ b o c, v = .slice (some ⟨b, o, none⟩) n c ∧ Seen w (some ⟨b, o, none⟩) n L
theorem isSl_later (n : Nat) (L : List Int) : ∀ v w w', Below w.heap.size w w' → isSl n L v w → isSl n L v w' := fun _ _ _ hb ⟨b, o, c, h1, h2⟩ => ⟨b, o, c, h1, h2.later hb (Nat.le_refl _)⟩
def isPt (n : Nat) (L : List Int) (v : Value) (w : World) : Prop := ∃ b o, v = .pointer (some ⟨b, o, none⟩) ∧ Seen w (some ⟨b, o, none⟩) n L
theorem isPt_later (n : Nat) (L : List Int) : ∀ v w w', Below w.heap.size w w' → isPt n L v w → isPt n L v w' := fun _ _ _ hb ⟨b, o, h1, h2⟩ => ⟨b, o, h1, h2.later hb (Nat.le_refl _)⟩
theorem seen_range {w : World} {b o n : Nat} {L : List Int} (h : Seen w (some ⟨b, o, none⟩) n L) : w.rangeAt b o (u8s L) := fun j v hv => by
  have hj : j < L.length := by have := (List.getElem?_eq_some_iff.1 hv).1; rwa [u8s_length] at this
  have hl := h.len
  obtain ⟨b', o', e, _, hc⟩ := h.cells (by omega)
  cases e
  rw [hc j (by omega), ← hv]
  simp [u8s, List.getD, hj]
theorem own_sl {w : World} {base : Nat} {v : Value} {n : Nat} {L : List Int} (hl : L.length = n) (hn : 0 < n) (hb : Bytes L) (ht : n ≤ 140737488355328) (h : w.ownsRow base 5 1 v n (L.map (Value.int .u8))) : isSl n L v w := by
  obtain ⟨vo, cap, rfl, hs, _⟩ := own_seen hl hb ht h
  obtain ⟨b, o, rfl, _⟩ := hs.cells hn
  exact ⟨b, o, cap, rfl, hs⟩
theorem put_first (x : Int) (hx : Word x) (w : World) : Calls Tryz.prog 87 #[.slice none 0 0, .int .u64 x] w fun e w' => ∃ v, e = .returned v ∧ isSl 8 (leB 8 x) v w' ∧ Below w.heap.size w w' := by
  refine (put_64 none 0 0 [] x w (Seen.empty _ _) (fun _ => rfl) (by decide) hx).mono ?_
  rintro e w' ⟨v, rfl, ho, hb⟩
  exact ⟨v, rfl, own_sl (leB_length _ _) (by decide) (leB_bytes _ _) (by decide) ho, hb⟩
theorem put_more (b o c : Nat) (L : List Int) (x : Int) (hx : Word x) (w : World) (hs : Seen w (some ⟨b, o, none⟩) 8 L) : Calls Tryz.prog 87 #[.slice (some ⟨b, o, none⟩) 8 c, .int .u64 x] w fun e w' => ∃ v, e = .returned v ∧ isSl 16 (L ++ leB 8 x) v w' ∧ Below w.heap.size w w' := by
  refine (put_64 (some ⟨b, o, none⟩) 8 c L x w hs (fun h => by cases h) (by decide) hx).mono ?_
  rintro e w' ⟨v, rfl, ho, hb⟩
  exact ⟨v, rfl, own_sl (by rw [List.length_append, hs.len, leB_length]) (by decide) (bytes_app hs.bytes (leB_bytes _ _)) (by decide) ho, hb⟩
theorem arrTag (ao : Option Addr) (n c : Nat) (hn : 16 ≤ n) (w : World) : (Instr.arrayAt 164 (.slice ao n c)).run Tryz.prog w = .ok (.pointer ao) w := run_arrayAt w 164 5 16 ao n c Tryz.underlying164 hn
theorem code_words (A s : Int) (hA : 0 ≤ A) (hs : 0 ≤ s ∧ s < 340282366920938463463374607431768211456) : pr (A % 340282366920938463463374607431768211456) = [A % 18446744073709551616, A / 18446744073709551616 % 18446744073709551616] := by
  unfold pr
  refine List.cons_eq_cons.2 ⟨by omega, List.cons_eq_cons.2 ⟨by omega, rfl⟩⟩
set_option maxRecDepth 20000 in
set_option maxHeartbeats 4000000 in
theorem psum_any (g : Nat) (r0 r1 s : Int) (m : List Int) (w : World) (h : PHolds w g r0 r1 s m) :
    Calls Tryz.prog 121 #[.pointer (some ⟨g, 0, none⟩)] w fun e w' => e = .returned (.agg (u8s (codeB (r0 + 18446744073709551616 * r1) s m)).toArray) ∧ Below w.heap.size w w' := by
  have hP := h.at_
  have hE := accE_bd (r0 + 18446744073709551616 * r1) m (by have := hP.hr0; have := hP.hr1; omega) h.bytes
  have hR := reduced_any (accE (r0 + 18446744073709551616 * r1) m) ⟨hE.1, by omega⟩
  obtain ⟨E, hEe⟩ : ∃ z, accE (r0 + 18446744073709551616 * r1) m = z := ⟨_, rfl⟩
  obtain ⟨D, hD⟩ : ∃ z, E % prime = z := ⟨_, rfl⟩
  have hD0 : 0 ≤ D := by rw [← hD]; exact Int.emod_nonneg _ (by decide)
  obtain ⟨T, hT⟩ : ∃ z, (D % 340282366920938463463374607431768211456 + s) % 340282366920938463463374607431768211456 = z := ⟨_, rfl⟩
  have hT0 : 0 ≤ T ∧ T < 340282366920938463463374607431768211456 := by omega
  have hcode : codeB (r0 + 18446744073709551616 * r1) s m = leB 8 (T % 18446744073709551616) ++ leB 8 (T / 18446744073709551616) := by
    rw [code_split, codeB, codeN, hEe, hD, hT]
  rw [hEe, hD] at hR
  have hpl := pplus_any (D % 340282366920938463463374607431768211456) s ⟨by omega, by omega⟩ hP.hs
  rw [hT, code_words D s hD0 hP.hs] at hpl
  obtain ⟨d0, hd0⟩ : ∃ z, D % 18446744073709551616 = z := ⟨_, rfl⟩
  obtain ⟨d1, hd1⟩ : ∃ z, D / 18446744073709551616 % 18446744073709551616 = z := ⟨_, rfl⟩
  obtain ⟨d2, hd2⟩ : ∃ z, D / 340282366920938463463374607431768211456 = z := ⟨_, rfl⟩
  have eD : nm D = [d0, d1, d2] := by unfold nm; rw [hd0, hd1, hd2]
  obtain ⟨t0, ht0⟩ : ∃ z, T % 18446744073709551616 = z := ⟨_, rfl⟩
  obtain ⟨t1, ht1⟩ : ∃ z, T / 18446744073709551616 = z := ⟨_, rfl⟩
  have eT : pr T = [t0, t1] := by unfold pr; rw [ht0, ht1]
  have wt0 : Word t0 := ⟨by omega, by omega⟩
  have wt1 : Word t1 := ⟨by omega, by omega⟩
  rw [hd0, hd1, eT] at hpl
  rw [eD] at hR
  obtain ⟨EE, hEE⟩ : ∃ z, nm E = z := ⟨_, rfl⟩
  rw [hEE] at hR
  obtain ⟨CB, hCB⟩ : ∃ z, codeB (r0 + 18446744073709551616 * r1) s m = z := ⟨_, rfl⟩
  rw [ht0, ht1, hCB] at hcode
  have HC : Hid (CB = leB 8 t0 ++ leB 8 t1 ∧ CB.length = 16 ∧ Word t0 ∧ Word t1 ∧ EE.length = 3 ∧ Bytes CB) := ⟨hcode, by rw [← hCB]; exact codeB_length _ _ _, wt0, wt1, by rw [← hEE]; rfl, by rw [← hCB]; exact codeB_bytes _ _ _⟩
  rw [hCB]
  have CC : Hid ((∀ w, Calls Tryz.prog 134 #[.agg (u64s EE).toArray] w fun e w' => e = .returned (.agg (u64s [d0, d1, d2]).toArray) ∧ Below w.heap.size w w') ∧ (∀ w, Calls Tryz.prog 135 #[.agg (u64s [d0, d1]).toArray, .agg (u64s (pr s)).toArray] w fun e w' => e = .returned (.agg (u64s [t0, t1]).toArray) ∧ Below w.heap.size w w')) := ⟨hR, hpl⟩
  have HE : Hid (accE (r0 + 18446744073709551616 * r1) m = E ∧ nm E = EE) := ⟨hEe, hEE⟩
  obtain ⟨a, ha⟩ : ∃ z, acc (r0 + 18446744073709551616 * r1) m = z := ⟨_, rfl⟩
  obtain ⟨F, hF⟩ : ∃ z, m.length % 16 = z := ⟨_, rfl⟩
  rw [ha, hF] at hP
  have HP : Hid (PolyAt w g r0 r1 s a (openB m) F ∧ Bytes m ∧ m.length % 16 = F ∧ acc (r0 + 18446744073709551616 * r1) m = a ∧ F < 16) := ⟨hP, h.bytes, hF, ha, by omega⟩
  clear hP hE hR hpl hD hD0 hT hT0 hcode hd0 hd1 hd2 eD ht0 ht1 eT wt0 wt1 hEE hCB hEe ha hF h
  by_cases h0 : 0 < F
  · have i0 : (0 : Int) < (F : Int) := by omega
    have hF16 := HP.out.2.2.2.2
    have i2 : (F : Int) < 16 := by omega
    obtain ⟨LB, hLB⟩ : ∃ z, lastB m = z := ⟨_, rfl⟩
    have hbe : ∀ W, PolyAt W g r0 r1 s a (openB m) F → Calls Tryz.prog 133 #[.pointer (some ⟨g, 0, none⟩), .agg (u8s LB).toArray, .int .u64 0] W fun e w' => e = .returned (.agg (u64s EE).toArray) ∧ Below W.heap.size W w' := fun W hW => by
      have q := behind_any g r0 r1 s a (openB m) F (lastB m) 0 (lastB_length m) (lastB_bytes HP.out.2.1) (by decide) W hW
      have e : step5 (r0 + 18446744073709551616 * r1) a (le (lastB m) + 0 * 340282366920938463463374607431768211456) = E := by
        rw [← HE.out.1, accE, HP.out.2.2.1, if_pos h0, HP.out.2.2.2.1, Int.zero_mul, Int.add_zero]
      rw [e, HE.out.2, hLB] at q
      exact q
    have HBE : Hid (∀ W, PolyAt W g r0 r1 s a (openB m) F → Calls Tryz.prog 133 #[.pointer (some ⟨g, 0, none⟩), .agg (u8s LB).toArray, .int .u64 0] W fun e w' => e = .returned (.agg (u64s EE).toArray) ∧ Below W.heap.size W w') := hbe
    have HLB : Hid (LB.length = 16 ∧ (openB m).set F 1 = LB) := ⟨by rw [← hLB]; exact lastB_length m, by rw [← hLB, ← open_set, HP.out.2.2.1]⟩
    clear hbe hLB
    go_enter Tryz.func121, Tryz.ntmps121
    go_wp2_with (first | (refine wpList_alloc_new rfl 164 rfl 16 _ zeroTag ?_; intro w1 b1 s1 l1; have P1 : Hid (PolyAt w1 g r0 r1 s a (openB m) F) := HP.out.1.later l1 HP.out.1.lt; have A1 : Hid (w1.rangeAt g 4 (u64s (nm a))) := blk_a P1.out.blk) | ((with_reducible show wpList _ _ _ _ _ w1); refine wpList_load_mid rfl 233 _ rfl g 4 rfl (u64s (nm a)) _ A1.out Tryz.underlying233 rfl (by exact sizeNumber) ?_) | ((with_reducible show wpList _ _ _ _ _ w1); refine wpList_alloc_new rfl 233 rfl 3 _ zeroNumber ?_; intro w2 b2 s2 l2) | ((with_reducible show wpList _ _ _ _ _ w2); refine wpList_store_blk rfl 233 233 _ _ rfl _ rfl _ (u64s (nm a)) rfl b2 rfl sizeNumber (u64s_one _) ?_; intro w3 b3 s3 k3; have P3 : Hid (PolyAt w3 g r0 r1 s a (openB m) F) := ((P1.out.later l2 P1.out.lt).kept k3 (by have := P1.out.lt; omega)); have c3 := blk_filled P3.out.blk P3.out.ol) | ((with_reducible show wpList _ _ _ _ _ w3); refine wpList_load_mid rfl 163 _ rfl g 7 rfl (u8s (openB m)) _ (blk_open P3.out.blk) Tryz.underlying163 rfl (by rw [u8s_length, openB_length]; exact size16) ?_) | ((with_reducible show wpList _ _ _ _ _ w3); refine wpList_alloc_new rfl 163 rfl 16 _ zero16 ?_; intro w4 b4 s4 l4) | ((with_reducible show wpList _ _ _ _ _ w4); refine wpList_store_blk rfl 163 163 _ _ rfl _ rfl _ (u8s (openB m)) rfl b4 (by rw [u8s_length, u8s_length, openB_length]; rfl) (by rw [u8s_length, openB_length]; exact size16) (u8s_one _) ?_; intro w5 b5 s5 k5; have e3 : w3.heap.size = w.heap.size + 1 + 1 := (by omega); rw [e3] at b5 k5; have P5 : Hid (PolyAt w5 g r0 r1 s a (openB m) F) := ((P3.out.later l4 P3.out.lt).kept k5 (by have := P3.out.lt; omega)); have c5 := blk_filled P5.out.blk P5.out.ol; have y5 := u8s_cell b5 F (by rw [openB_length]; exact hF16); have f5 := b5.frozen F) | (refine wpList_load_blk rfl 163 _ rfl _ rfl (u8s LB) _ (by have q := b5.set F (.int .u8 1); rw [u8s_set, HLB.out.2] at q; exact q) Tryz.underlying163 rfl (by rw [u8s_length, HLB.out.1]; exact size16) ?_) | (go_at_call 133; refine (HBE.out _ (P5.out.kept ((Kept.refl (fun k => k = (w.heap.size + 1 + 1)) w5).setCell (p := ⟨(w.heap.size + 1 + 1), F, none⟩) rfl (.int .u8 1)) (by have := P3.out.lt; omega))).mono ?_; rintro e w6 ⟨rfl, l6⟩; have B6 : Hid (Blk w6 (w.heap.size + 1) 233 (u64s (nm a)) ∧ Blk w6 w.heap.size 164 (u8s (zs0 16)) ∧ Below w.heap.size w w6 ∧ PolyAt w6 g r0 r1 s a (openB m) F) := (by have q6 := l6.size; rw [s1] at b3; have q : (w5.setCell ⟨(w.heap.size + 1 + 1), F, none⟩ (.int .u8 1)).heap.size = w5.heap.size := (by simp [World.setCell]); have kk := (Kept.refl (fun k => k = (w.heap.size + 1 + 1)) w5).setCell (p := ⟨(w.heap.size + 1 + 1), F, none⟩) rfl (.int .u8 1); have gl := P5.out.lt; have gl3 := P3.out.lt; have glw := HP.out.1.lt; exact ⟨((((b3.later l4 (by omega)).kept k5 (by omega)).kept kk (by omega)).later l6 (by omega)), (((((((b1.later l2 (by omega)).kept k3 (by omega)).later l4 (by omega)).kept k5 (by omega)).kept kk (by omega))).later l6 (by omega)), below_chain (below_kept (below_kept (below_chain (below_kept (below_chain l1 l2 (by omega)) k3 (by omega) (fun j hj => by omega)) l4 (by omega)) k5 (by omega) (fun j hj => by omega)) kk (by omega) (fun j hj => by omega)) l6 (by omega), (P5.out.kept kk (by omega)).later l6 (by omega)⟩)) | ((with_reducible show wpList _ _ _ _ _ w6); refine wpList_store_blk rfl 233 233 _ _ rfl (w.heap.size + 1) rfl _ (u64s EE) rfl B6.out.1 (by rw [u64s_length, HC.out.2.2.2.2.1]; rfl) (by rw [u64s_length, HC.out.2.2.2.2.1]; exact sizeNumber) (u64s_one _) ?_; intro w7 b7 s7 k7; have X7 : Hid (Blk w7 (w.heap.size + 1) 233 (u64s EE) ∧ Blk w7 w.heap.size 164 (u8s (zs0 16)) ∧ Below w.heap.size w w7 ∧ PolyAt w7 g r0 r1 s a (openB m) F ∧ g < w.heap.size) := ⟨b7, B6.out.2.1.kept k7 (by omega), below_kept B6.out.2.2.1 k7 B6.out.2.2.1.size (fun j hj => by omega), B6.out.2.2.2.kept k7 (by have := HP.out.1.lt; omega), HP.out.1.lt⟩; clear e3 b1 s1 l1 b2 s2 l2 b3 s3 k3 c3 b4 s4 l4 b5 s5 k5 c5 y5 f5 l6 b7 s7 k7) | (refine wpList_load_blk rfl 233 _ rfl (w.heap.size + 1) rfl (u64s EE) _ X7.out.1 Tryz.underlying233 rfl (by rw [u64s_length, HC.out.2.2.2.2.1]; exact sizeNumber) ?_) | (go_at_call 134; refine (CC.out.1 _).mono ?_; rintro e w8 ⟨rfl, l8⟩; have X8 : Hid (Blk w8 (w.heap.size + 1) 233 (u64s EE) ∧ Blk w8 w.heap.size 164 (u8s (zs0 16)) ∧ Below w.heap.size w w8 ∧ PolyAt w8 g r0 r1 s a (openB m) F) := ⟨X7.out.1.later l8 X7.out.1.lt, X7.out.2.1.later l8 X7.out.2.1.lt, below_chain X7.out.2.2.1 l8 X7.out.2.2.1.size, X7.out.2.2.2.1.later l8 X7.out.2.2.2.1.lt⟩; clear l8) | (refine wpList_store_blk rfl 233 233 _ _ rfl (w.heap.size + 1) rfl _ (u64s [d0, d1, d2]) rfl X8.out.1 (by rw [u64s_length, u64s_length, HC.out.2.2.2.2.1]; rfl) sizeNumber (u64s_one _) ?_; intro w9 b9 s9 k9; have X9 : Hid (Blk w9 (w.heap.size + 1) 233 (u64s [d0, d1, d2]) ∧ Blk w9 w.heap.size 164 (u8s (zs0 16)) ∧ Below w.heap.size w w9 ∧ Blk w9 g 235 (pCells r0 r1 s a (openB m) F)) := ⟨b9, X8.out.2.1.kept k9 (by omega), below_kept X8.out.2.2.1 k9 X8.out.2.2.1.size (fun j hj => by omega), (X8.out.2.2.2.kept k9 (by have := X7.out.2.2.2.2; omega)).blk⟩; clear b9 s9 k9))
    simp only [Act.put, List.setIfInBounds_toArray, List.set_cons_zero, List.set_cons_succ]
    refine region_inv [.val (.pointer (some ⟨(w.heap.size + 1), 0, none⟩)), .val (.int .u64 d0), .val (.pointer (some ⟨(w.heap.size + 1), 1, none⟩)), .val (.int .u64 d1), .val (.agg (u64s [d0, d1]).toArray), .val (.pointer (some ⟨g, 0, none⟩)), .val (.pointer (some ⟨g, 0, none⟩)), .val (.pointer (some ⟨g, 2, none⟩)), .val (.agg (u64s (pr s)).toArray), .val (.agg (u64s [t0, t1]).toArray), .blk 230 (u64s [0, 0])] (by kernel_rfl) (by kernel_rfl) (by kernel_rfl) ?_ ?_
    · refine Steps'.cons ?_ (Steps'.cons ?_ (Steps'.cons ?_ (Steps'.cons ?_ (Steps'.cons ?_ (Steps'.cons ?_ (Steps'.cons ?_ (Steps'.cons ?_ (Steps'.cons ?_ (Steps'.cons ?_ (Steps'.cons ?_ (Steps'.one _ _ _ _ _ _ _)))))))))))
      · intro ax wx hb hs hd
        have h3 : ax.tmps.getD 3 undef = (.pointer (some ⟨(w.heap.size + 1), 0, none⟩)) := hs 3 (by kernel_rfl)
        refine Does.value (.pointer (some ⟨(w.heap.size + 1), 0, none⟩)) ?_ rfl
        go_simp
      · intro ax wx hb hs hd
        have h32 : ax.tmps.getD 32 undef = (.pointer (some ⟨(w.heap.size + 1), 0, none⟩)) := hd 0 32 rfl (by kernel_rfl) (by decide)
        have cx : wx.cell? ⟨(w.heap.size + 1), 0, none⟩ = some (.int .u64 d0) := (Blk.later X9.out.1 hb (Blk.lt X9.out.1)).cell 0
        refine Does.value (.int .u64 d0) ?_ rfl
        go_simp
      · intro ax wx hb hs hd
        have h3 : ax.tmps.getD 3 undef = (.pointer (some ⟨(w.heap.size + 1), 0, none⟩)) := hs 3 (by kernel_rfl)
        refine Does.value (.pointer (some ⟨(w.heap.size + 1), 1, none⟩)) ?_ rfl
        go_simp
      · intro ax wx hb hs hd
        have h34 : ax.tmps.getD 34 undef = (.pointer (some ⟨(w.heap.size + 1), 1, none⟩)) := hd 2 34 rfl (by kernel_rfl) (by decide)
        have cx : wx.cell? ⟨(w.heap.size + 1), 1, none⟩ = some (.int .u64 d1) := (Blk.later X9.out.1 hb (Blk.lt X9.out.1)).cell 1
        refine Does.value (.int .u64 d1) ?_ rfl
        go_simp
      · intro ax wx hb hs hd
        have h33 : ax.tmps.getD 33 undef = (.int .u64 d0) := hd 1 33 rfl (by kernel_rfl) (by decide)
        have h35 : ax.tmps.getD 35 undef = (.int .u64 d1) := hd 3 35 rfl (by kernel_rfl) (by decide)
        exact Does.build 230 _ rfl #[(0, .int .u64 d0), (1, .int .u64 d1)] (by simp only [List.map_toArray, List.map_cons, List.map_nil, Act.eval, h33, h35]) _ (build_pair _ _ _)
      · intro ax wx hb hs hd
        have h0 : ax.tmps.getD 0 undef = (.pointer (some ⟨g, 0, none⟩)) := hs 0 (by kernel_rfl)
        refine Does.value (.pointer (some ⟨g, 0, none⟩)) ?_ rfl
        go_simp
      · intro ax wx hb hs hd
        have h37 : ax.tmps.getD 37 undef = (.pointer (some ⟨g, 0, none⟩)) := hd 5 37 rfl (by kernel_rfl) (by decide)
        refine Does.value (.pointer (some ⟨g, 0, none⟩)) ?_ rfl
        go_simp
      · intro ax wx hb hs hd
        have h38 : ax.tmps.getD 38 undef = (.pointer (some ⟨g, 0, none⟩)) := hd 6 38 rfl (by kernel_rfl) (by decide)
        refine Does.value _ ?_ rfl
        go_simp
      · intro ax wx hb hs hd
        have h39 : ax.tmps.getD 39 undef = (.pointer (some ⟨g, 2, none⟩)) := hd 7 39 rfl (by kernel_rfl) (by decide)
        exact Does.load 230 (.tmp 39) rfl g 2 h39 (u64s (pr s)) _ (blk_s (Blk.later X9.out.2.2.2 hb (Blk.lt X9.out.2.2.2))) Tryz.underlying230 rfl (by exact sizePair)
      · intro ax wx hb hs hd
        have h36 : ax.tmps.getD 36 undef = (.agg (u64s [d0, d1]).toArray) := hd 4 36 rfl (by kernel_rfl) (by decide)
        have h40 : ax.tmps.getD 40 undef = (.agg (u64s (pr s)).toArray) := hd 8 40 rfl (by kernel_rfl) (by decide)
        refine Does.call 135 #[(.agg (u64s [d0, d1]).toArray), (.agg (u64s (pr s)).toArray)] (by go_simp) ?_
        refine (CC.out.2 _).mono ?_
        rintro z w' ⟨rfl, l⟩
        exact ⟨_, rfl, rfl, l⟩
      · intro ax wx hb hs hd
        exact Does.alloc 230 rfl 2 _ zeroPair hb.size
    · intro wx hb
      refine @Ends.val _ _ _ _ _ _ _ _ _ (.pointer (some ⟨(w.heap.size + 1), 0, none⟩)) rfl ?_
      refine @Ends.val _ _ _ _ _ _ _ _ _ (.int .u64 d0) rfl ?_
      refine @Ends.val _ _ _ _ _ _ _ _ _ (.pointer (some ⟨(w.heap.size + 1), 1, none⟩)) rfl ?_
      refine @Ends.val _ _ _ _ _ _ _ _ _ (.int .u64 d1) rfl ?_
      refine @Ends.val _ _ _ _ _ _ _ _ _ (.agg (u64s [d0, d1]).toArray) rfl ?_
      refine @Ends.val _ _ _ _ _ _ _ _ _ (.pointer (some ⟨g, 0, none⟩)) rfl ?_
      refine @Ends.val _ _ _ _ _ _ _ _ _ (.pointer (some ⟨g, 0, none⟩)) rfl ?_
      refine @Ends.val _ _ _ _ _ _ _ _ _ (.pointer (some ⟨g, 2, none⟩)) rfl ?_
      refine @Ends.val _ _ _ _ _ _ _ _ _ (.agg (u64s (pr s)).toArray) rfl ?_
      refine @Ends.val _ _ _ _ _ _ _ _ _ (.agg (u64s [t0, t1]).toArray) rfl ?_
      refine @Ends.blk _ _ _ _ _ _ _ _ _ 230 (u64s [0, 0]) rfl ?_
      intro g10 hg10 bg10
      refine @Ends.one _ _ _ _ _ _ _ ?_
      simp only [Act.put, List.setIfInBounds_toArray, List.set_cons_zero, List.set_cons_succ]
      refine last_store 230 (.tmp 5) (.tmp 41) rfl rfl g10 rfl 230 _ (u64s [t0, t1]) rfl bg10 rfl sizePair (u64s_one _) ?_
      intro wa ba sa ka
      have XA : Hid (Blk wa g10 230 (u64s [t0, t1]) ∧ Blk wa w.heap.size 164 (u8s (zs0 16)) ∧ Below w.heap.size w wa) := by
        have q2 := X9.out.2.1.lt
        have q5 := hb.size
        have q6 := X9.out.2.2.1.size
        exact ⟨ba, (X9.out.2.1.later hb q2).kept ka (by omega), below_kept (below_chain X9.out.2.2.1 hb (by omega)) ka (by omega) (fun j hj => by omega)⟩
      clear ba sa ka hb bg10 hg10 X9
      go_wp2_with fail
      try simp only [Act.put, List.setIfInBounds_toArray, List.set_cons_zero, List.set_cons_succ]
      refine region_inv [.val (.pointer (some ⟨g10, 0, none⟩)), .val (.int .u64 t0), .any (isSl 8 (leB 8 t0)) (isSl_later _ _), .val (.pointer (some ⟨g10, 1, none⟩)), .val (.int .u64 t1), .any (isSl 16 CB) (isSl_later _ _), .any (isPt 16 CB) (isPt_later _ _), .val (.agg (u8s CB).toArray)] (by kernel_rfl) (by kernel_rfl) (by kernel_rfl) ?_ ?_
      · refine Steps'.cons ?_ (Steps'.cons ?_ (Steps'.cons ?_ (Steps'.cons ?_ (Steps'.cons ?_ (Steps'.cons ?_ (Steps'.cons ?_ (Steps'.cons ?_ (Steps'.one _ _ _ _ _ _ _))))))))
        · intro ax wx hb hs hd
          have h5 : ax.tmps.getD 5 undef = (.pointer (some ⟨g10, 0, none⟩)) := hs 5 (by kernel_rfl)
          refine Does.value (.pointer (some ⟨g10, 0, none⟩)) ?_ rfl
          go_simp
        · intro ax wx hb hs hd
          have h42 : ax.tmps.getD 42 undef = (.pointer (some ⟨g10, 0, none⟩)) := hd 0 42 rfl (by kernel_rfl) (by decide)
          have cx : wx.cell? ⟨g10, 0, none⟩ = some (.int .u64 t0) := (Blk.later XA.out.1 hb (Blk.lt XA.out.1)).cell 0
          refine Does.value (.int .u64 t0) ?_ rfl
          go_simp
        · intro ax wx hb hs hd
          have h43 : ax.tmps.getD 43 undef = (.int .u64 t0) := hd 1 43 rfl (by kernel_rfl) (by decide)
          refine Does.call 87 #[(Value.slice none 0 0), (.int .u64 t0)] (by go_simp) ?_
          exact put_first t0 HC.out.2.2.1 _
        · intro ax wx hb hs hd
          have h5 : ax.tmps.getD 5 undef = (.pointer (some ⟨g10, 0, none⟩)) := hs 5 (by kernel_rfl)
          refine Does.value (.pointer (some ⟨g10, 1, none⟩)) ?_ rfl
          go_simp
        · intro ax wx hb hs hd
          have h45 : ax.tmps.getD 45 undef = (.pointer (some ⟨g10, 1, none⟩)) := hd 3 45 rfl (by kernel_rfl) (by decide)
          have cx : wx.cell? ⟨g10, 1, none⟩ = some (.int .u64 t1) := (Blk.later XA.out.1 hb (Blk.lt XA.out.1)).cell 1
          refine Does.value (.int .u64 t1) ?_ rfl
          go_simp
        · intro ax wx hb hs hd
          have h46 : ax.tmps.getD 46 undef = (.int .u64 t1) := hd 4 46 rfl (by kernel_rfl) (by decide)
          obtain ⟨b, o, cc, h44, s44⟩ : isSl 8 (leB 8 t0) (ax.tmps.getD 44 undef) wx := hd 2 44 rfl (by kernel_rfl) (by decide)
          refine Does.call 87 #[.slice (some ⟨b, o, none⟩) 8 cc, .int .u64 t1] (by go_simp) ?_
          have q := put_more b o cc _ t1 HC.out.2.2.2.1 wx s44
          rw [← HC.out.1] at q
          exact q
        · intro ax wx hb hs hd
          obtain ⟨b, o, cc, h47, s47⟩ : isSl 16 CB (ax.tmps.getD 47 undef) wx := hd 5 47 rfl (by kernel_rfl) (by decide)
          have harr := fun W => arrTag (some ⟨b, o, none⟩) 16 cc (Nat.le_refl _) W
          refine Does.value (.pointer (some ⟨b, o, none⟩)) ?_ ⟨b, o, rfl, s47⟩
          go_simp
        · intro ax wx hb hs hd
          obtain ⟨b, o, h48, s48⟩ : isPt 16 CB (ax.tmps.getD 48 undef) wx := hd 6 48 rfl (by kernel_rfl) (by decide)
          exact Does.load 164 (.tmp 48) rfl b o h48 (u8s CB) _ (seen_range s48) Tryz.underlying164 rfl (by rw [u8s_length, HC.out.2.1]; exact sizeTag)
      · intro wx hb
        refine @Ends.val _ _ _ _ _ _ _ _ _ (.pointer (some ⟨g10, 0, none⟩)) rfl ?_
        refine @Ends.val _ _ _ _ _ _ _ _ _ (.int .u64 t0) rfl ?_
        refine @Ends.any _ _ _ _ _ _ _ _ _ (isSl 8 (leB 8 t0)) (isSl_later _ _) rfl ?_
        intro v2 p2
        refine @Ends.val _ _ _ _ _ _ _ _ _ (.pointer (some ⟨g10, 1, none⟩)) rfl ?_
        refine @Ends.val _ _ _ _ _ _ _ _ _ (.int .u64 t1) rfl ?_
        refine @Ends.any _ _ _ _ _ _ _ _ _ (isSl 16 CB) (isSl_later _ _) rfl ?_
        intro v5 p5
        refine @Ends.any _ _ _ _ _ _ _ _ _ (isPt 16 CB) (isPt_later _ _) rfl ?_
        intro v6 p6
        refine @Ends.val _ _ _ _ _ _ _ _ _ (.agg (u8s CB).toArray) rfl ?_
        refine @Ends.one _ _ _ _ _ _ _ ?_
        simp only [Act.put, List.setIfInBounds_toArray, List.set_cons_zero, List.set_cons_succ]
        have q := XA.out.2.1
        refine last_store 164 (.tmp 2) (.tmp 49) rfl rfl w.heap.size rfl 164 _ (u8s CB) rfl (q.later hb q.lt) (by rw [u8s_length, u8s_length, HC.out.2.1]; rfl) (by rw [u8s_length, HC.out.2.1]; exact sizeTag) (u8s_one _) ?_
        intro wb bb sb kb
        have XB : Hid (Below w.heap.size w wb) := below_kept (below_chain XA.out.2.2 hb XA.out.2.2.size) kb (by have := XA.out.2.2.size; have := hb.size; omega) (fun j hj => by omega)
        clear hb sb kb q
        go_wp2_with fail
        exact ret_blk rfl w.heap.size (u8s CB) _ rfl bb Tryz.underlying164 rfl (by rw [u8s_length, HC.out.2.1]; exact sizeTag) rfl ⟨rfl, XB.out⟩
  · have i0 : ¬ (0 : Int) < (F : Int) := by omega
    have ea : nm a = EE := by rw [← HE.out.2, ← HE.out.1, accE, HP.out.2.2.1, if_neg h0, HP.out.2.2.2.1]
    have HEA : Hid (nm a = EE) := ea
    clear ea
    go_enter Tryz.func121, Tryz.ntmps121
    go_wp2_with (first | (refine wpList_alloc_new rfl 164 rfl 16 _ zeroTag ?_; intro w1 b1 s1 l1; have P1 : Hid (PolyAt w1 g r0 r1 s a (openB m) F) := HP.out.1.later l1 HP.out.1.lt; have A1 : Hid (w1.rangeAt g 4 (u64s EE)) := (by have q := blk_a P1.out.blk; rw [HEA.out] at q; exact q)) | ((with_reducible show wpList _ _ _ _ _ w1); refine wpList_load_mid rfl 233 _ rfl g 4 rfl (u64s EE) _ A1.out Tryz.underlying233 rfl (by rw [u64s_length, HC.out.2.2.2.2.1]; exact sizeNumber) ?_) | ((with_reducible show wpList _ _ _ _ _ w1); refine wpList_alloc_new rfl 233 rfl 3 _ zeroNumber ?_; intro w2 b2 s2 l2) | ((with_reducible show wpList _ _ _ _ _ w2); refine wpList_store_blk rfl 233 233 _ _ rfl _ rfl _ (u64s EE) rfl b2 (by rw [u64s_length, HC.out.2.2.2.2.1]; rfl) (by rw [u64s_length, HC.out.2.2.2.2.1]; exact sizeNumber) (u64s_one _) ?_; intro w3 b3 s3 k3; have P3 : Hid (PolyAt w3 g r0 r1 s a (openB m) F) := ((P1.out.later l2 P1.out.lt).kept k3 (by have := P1.out.lt; omega)); have c3 := blk_filled P3.out.blk P3.out.ol; have X7 : Hid (Blk w3 (w.heap.size + 1) 233 (u64s EE) ∧ Blk w3 w.heap.size 164 (u8s (zs0 16)) ∧ Below w.heap.size w w3 ∧ PolyAt w3 g r0 r1 s a (openB m) F ∧ g < w.heap.size) := (by have q := HP.out.1.lt; rw [s1] at b3; exact ⟨b3, (b1.later l2 (by omega)).kept k3 (by omega), below_kept (below_chain l1 l2 (by omega)) k3 (by omega) (fun j hj => by omega), P3.out, q⟩)) | (refine wpList_load_blk rfl 233 _ rfl (w.heap.size + 1) rfl (u64s EE) _ X7.out.1 Tryz.underlying233 rfl (by rw [u64s_length, HC.out.2.2.2.2.1]; exact sizeNumber) ?_) | (go_at_call 134; refine (CC.out.1 _).mono ?_; rintro e w8 ⟨rfl, l8⟩; have X8 : Hid (Blk w8 (w.heap.size + 1) 233 (u64s EE) ∧ Blk w8 w.heap.size 164 (u8s (zs0 16)) ∧ Below w.heap.size w w8 ∧ PolyAt w8 g r0 r1 s a (openB m) F) := ⟨X7.out.1.later l8 X7.out.1.lt, X7.out.2.1.later l8 X7.out.2.1.lt, below_chain X7.out.2.2.1 l8 X7.out.2.2.1.size, X7.out.2.2.2.1.later l8 X7.out.2.2.2.1.lt⟩; clear l8) | (refine wpList_store_blk rfl 233 233 _ _ rfl (w.heap.size + 1) rfl _ (u64s [d0, d1, d2]) rfl X8.out.1 (by rw [u64s_length, u64s_length, HC.out.2.2.2.2.1]; rfl) sizeNumber (u64s_one _) ?_; intro w9 b9 s9 k9; have X9 : Hid (Blk w9 (w.heap.size + 1) 233 (u64s [d0, d1, d2]) ∧ Blk w9 w.heap.size 164 (u8s (zs0 16)) ∧ Below w.heap.size w w9 ∧ Blk w9 g 235 (pCells r0 r1 s a (openB m) F)) := ⟨b9, X8.out.2.1.kept k9 (by omega), below_kept X8.out.2.2.1 k9 X8.out.2.2.1.size (fun j hj => by omega), (X8.out.2.2.2.kept k9 (by have := X7.out.2.2.2.2; omega)).blk⟩; clear b9 s9 k9))
    simp only [Act.put, List.setIfInBounds_toArray, List.set_cons_zero, List.set_cons_succ]
    refine region_inv [.val (.pointer (some ⟨(w.heap.size + 1), 0, none⟩)), .val (.int .u64 d0), .val (.pointer (some ⟨(w.heap.size + 1), 1, none⟩)), .val (.int .u64 d1), .val (.agg (u64s [d0, d1]).toArray), .val (.pointer (some ⟨g, 0, none⟩)), .val (.pointer (some ⟨g, 0, none⟩)), .val (.pointer (some ⟨g, 2, none⟩)), .val (.agg (u64s (pr s)).toArray), .val (.agg (u64s [t0, t1]).toArray), .blk 230 (u64s [0, 0])] (by kernel_rfl) (by kernel_rfl) (by kernel_rfl) ?_ ?_
    · refine Steps'.cons ?_ (Steps'.cons ?_ (Steps'.cons ?_ (Steps'.cons ?_ (Steps'.cons ?_ (Steps'.cons ?_ (Steps'.cons ?_ (Steps'.cons ?_ (Steps'.cons ?_ (Steps'.cons ?_ (Steps'.cons ?_ (Steps'.one _ _ _ _ _ _ _)))))))))))
      · intro ax wx hb hs hd
        have h3 : ax.tmps.getD 3 undef = (.pointer (some ⟨(w.heap.size + 1), 0, none⟩)) := hs 3 (by kernel_rfl)
        refine Does.value (.pointer (some ⟨(w.heap.size + 1), 0, none⟩)) ?_ rfl
        go_simp
      · intro ax wx hb hs hd
        have h32 : ax.tmps.getD 32 undef = (.pointer (some ⟨(w.heap.size + 1), 0, none⟩)) := hd 0 32 rfl (by kernel_rfl) (by decide)
        have cx : wx.cell? ⟨(w.heap.size + 1), 0, none⟩ = some (.int .u64 d0) := (Blk.later X9.out.1 hb (Blk.lt X9.out.1)).cell 0
        refine Does.value (.int .u64 d0) ?_ rfl
        go_simp
      · intro ax wx hb hs hd
        have h3 : ax.tmps.getD 3 undef = (.pointer (some ⟨(w.heap.size + 1), 0, none⟩)) := hs 3 (by kernel_rfl)
        refine Does.value (.pointer (some ⟨(w.heap.size + 1), 1, none⟩)) ?_ rfl
        go_simp
      · intro ax wx hb hs hd
        have h34 : ax.tmps.getD 34 undef = (.pointer (some ⟨(w.heap.size + 1), 1, none⟩)) := hd 2 34 rfl (by kernel_rfl) (by decide)
        have cx : wx.cell? ⟨(w.heap.size + 1), 1, none⟩ = some (.int .u64 d1) := (Blk.later X9.out.1 hb (Blk.lt X9.out.1)).cell 1
        refine Does.value (.int .u64 d1) ?_ rfl
        go_simp
      · intro ax wx hb hs hd
        have h33 : ax.tmps.getD 33 undef = (.int .u64 d0) := hd 1 33 rfl (by kernel_rfl) (by decide)
        have h35 : ax.tmps.getD 35 undef = (.int .u64 d1) := hd 3 35 rfl (by kernel_rfl) (by decide)
        exact Does.build 230 _ rfl #[(0, .int .u64 d0), (1, .int .u64 d1)] (by simp only [List.map_toArray, List.map_cons, List.map_nil, Act.eval, h33, h35]) _ (build_pair _ _ _)
      · intro ax wx hb hs hd
        have h0 : ax.tmps.getD 0 undef = (.pointer (some ⟨g, 0, none⟩)) := hs 0 (by kernel_rfl)
        refine Does.value (.pointer (some ⟨g, 0, none⟩)) ?_ rfl
        go_simp
      · intro ax wx hb hs hd
        have h37 : ax.tmps.getD 37 undef = (.pointer (some ⟨g, 0, none⟩)) := hd 5 37 rfl (by kernel_rfl) (by decide)
        refine Does.value (.pointer (some ⟨g, 0, none⟩)) ?_ rfl
        go_simp
      · intro ax wx hb hs hd
        have h38 : ax.tmps.getD 38 undef = (.pointer (some ⟨g, 0, none⟩)) := hd 6 38 rfl (by kernel_rfl) (by decide)
        refine Does.value _ ?_ rfl
        go_simp
      · intro ax wx hb hs hd
        have h39 : ax.tmps.getD 39 undef = (.pointer (some ⟨g, 2, none⟩)) := hd 7 39 rfl (by kernel_rfl) (by decide)
        exact Does.load 230 (.tmp 39) rfl g 2 h39 (u64s (pr s)) _ (blk_s (Blk.later X9.out.2.2.2 hb (Blk.lt X9.out.2.2.2))) Tryz.underlying230 rfl (by exact sizePair)
      · intro ax wx hb hs hd
        have h36 : ax.tmps.getD 36 undef = (.agg (u64s [d0, d1]).toArray) := hd 4 36 rfl (by kernel_rfl) (by decide)
        have h40 : ax.tmps.getD 40 undef = (.agg (u64s (pr s)).toArray) := hd 8 40 rfl (by kernel_rfl) (by decide)
        refine Does.call 135 #[(.agg (u64s [d0, d1]).toArray), (.agg (u64s (pr s)).toArray)] (by go_simp) ?_
        refine (CC.out.2 _).mono ?_
        rintro z w' ⟨rfl, l⟩
        exact ⟨_, rfl, rfl, l⟩
      · intro ax wx hb hs hd
        exact Does.alloc 230 rfl 2 _ zeroPair hb.size
    · intro wx hb
      refine @Ends.val _ _ _ _ _ _ _ _ _ (.pointer (some ⟨(w.heap.size + 1), 0, none⟩)) rfl ?_
      refine @Ends.val _ _ _ _ _ _ _ _ _ (.int .u64 d0) rfl ?_
      refine @Ends.val _ _ _ _ _ _ _ _ _ (.pointer (some ⟨(w.heap.size + 1), 1, none⟩)) rfl ?_
      refine @Ends.val _ _ _ _ _ _ _ _ _ (.int .u64 d1) rfl ?_
      refine @Ends.val _ _ _ _ _ _ _ _ _ (.agg (u64s [d0, d1]).toArray) rfl ?_
      refine @Ends.val _ _ _ _ _ _ _ _ _ (.pointer (some ⟨g, 0, none⟩)) rfl ?_
      refine @Ends.val _ _ _ _ _ _ _ _ _ (.pointer (some ⟨g, 0, none⟩)) rfl ?_
      refine @Ends.val _ _ _ _ _ _ _ _ _ (.pointer (some ⟨g, 2, none⟩)) rfl ?_
      refine @Ends.val _ _ _ _ _ _ _ _ _ (.agg (u64s (pr s)).toArray) rfl ?_
      refine @Ends.val _ _ _ _ _ _ _ _ _ (.agg (u64s [t0, t1]).toArray) rfl ?_
      refine @Ends.blk _ _ _ _ _ _ _ _ _ 230 (u64s [0, 0]) rfl ?_
      intro g10 hg10 bg10
      refine @Ends.one _ _ _ _ _ _ _ ?_
      simp only [Act.put, List.setIfInBounds_toArray, List.set_cons_zero, List.set_cons_succ]
      refine last_store 230 (.tmp 5) (.tmp 41) rfl rfl g10 rfl 230 _ (u64s [t0, t1]) rfl bg10 rfl sizePair (u64s_one _) ?_
      intro wa ba sa ka
      have XA : Hid (Blk wa g10 230 (u64s [t0, t1]) ∧ Blk wa w.heap.size 164 (u8s (zs0 16)) ∧ Below w.heap.size w wa) := by
        have q2 := X9.out.2.1.lt
        have q5 := hb.size
        have q6 := X9.out.2.2.1.size
        exact ⟨ba, (X9.out.2.1.later hb q2).kept ka (by omega), below_kept (below_chain X9.out.2.2.1 hb (by omega)) ka (by omega) (fun j hj => by omega)⟩
      clear ba sa ka hb bg10 hg10 X9
      go_wp2_with fail
      try simp only [Act.put, List.setIfInBounds_toArray, List.set_cons_zero, List.set_cons_succ]
      refine region_inv [.val (.pointer (some ⟨g10, 0, none⟩)), .val (.int .u64 t0), .any (isSl 8 (leB 8 t0)) (isSl_later _ _), .val (.pointer (some ⟨g10, 1, none⟩)), .val (.int .u64 t1), .any (isSl 16 CB) (isSl_later _ _), .any (isPt 16 CB) (isPt_later _ _), .val (.agg (u8s CB).toArray)] (by kernel_rfl) (by kernel_rfl) (by kernel_rfl) ?_ ?_
      · refine Steps'.cons ?_ (Steps'.cons ?_ (Steps'.cons ?_ (Steps'.cons ?_ (Steps'.cons ?_ (Steps'.cons ?_ (Steps'.cons ?_ (Steps'.cons ?_ (Steps'.one _ _ _ _ _ _ _))))))))
        · intro ax wx hb hs hd
          have h5 : ax.tmps.getD 5 undef = (.pointer (some ⟨g10, 0, none⟩)) := hs 5 (by kernel_rfl)
          refine Does.value (.pointer (some ⟨g10, 0, none⟩)) ?_ rfl
          go_simp
        · intro ax wx hb hs hd
          have h42 : ax.tmps.getD 42 undef = (.pointer (some ⟨g10, 0, none⟩)) := hd 0 42 rfl (by kernel_rfl) (by decide)
          have cx : wx.cell? ⟨g10, 0, none⟩ = some (.int .u64 t0) := (Blk.later XA.out.1 hb (Blk.lt XA.out.1)).cell 0
          refine Does.value (.int .u64 t0) ?_ rfl
          go_simp
        · intro ax wx hb hs hd
          have h43 : ax.tmps.getD 43 undef = (.int .u64 t0) := hd 1 43 rfl (by kernel_rfl) (by decide)
          refine Does.call 87 #[(Value.slice none 0 0), (.int .u64 t0)] (by go_simp) ?_
          exact put_first t0 HC.out.2.2.1 _
        · intro ax wx hb hs hd
          have h5 : ax.tmps.getD 5 undef = (.pointer (some ⟨g10, 0, none⟩)) := hs 5 (by kernel_rfl)
          refine Does.value (.pointer (some ⟨g10, 1, none⟩)) ?_ rfl
          go_simp
        · intro ax wx hb hs hd
          have h45 : ax.tmps.getD 45 undef = (.pointer (some ⟨g10, 1, none⟩)) := hd 3 45 rfl (by kernel_rfl) (by decide)
          have cx : wx.cell? ⟨g10, 1, none⟩ = some (.int .u64 t1) := (Blk.later XA.out.1 hb (Blk.lt XA.out.1)).cell 1
          refine Does.value (.int .u64 t1) ?_ rfl
          go_simp
        · intro ax wx hb hs hd
          have h46 : ax.tmps.getD 46 undef = (.int .u64 t1) := hd 4 46 rfl (by kernel_rfl) (by decide)
          obtain ⟨b, o, cc, h44, s44⟩ : isSl 8 (leB 8 t0) (ax.tmps.getD 44 undef) wx := hd 2 44 rfl (by kernel_rfl) (by decide)
          refine Does.call 87 #[.slice (some ⟨b, o, none⟩) 8 cc, .int .u64 t1] (by go_simp) ?_
          have q := put_more b o cc _ t1 HC.out.2.2.2.1 wx s44
          rw [← HC.out.1] at q
          exact q
        · intro ax wx hb hs hd
          obtain ⟨b, o, cc, h47, s47⟩ : isSl 16 CB (ax.tmps.getD 47 undef) wx := hd 5 47 rfl (by kernel_rfl) (by decide)
          have harr := fun W => arrTag (some ⟨b, o, none⟩) 16 cc (Nat.le_refl _) W
          refine Does.value (.pointer (some ⟨b, o, none⟩)) ?_ ⟨b, o, rfl, s47⟩
          go_simp
        · intro ax wx hb hs hd
          obtain ⟨b, o, h48, s48⟩ : isPt 16 CB (ax.tmps.getD 48 undef) wx := hd 6 48 rfl (by kernel_rfl) (by decide)
          exact Does.load 164 (.tmp 48) rfl b o h48 (u8s CB) _ (seen_range s48) Tryz.underlying164 rfl (by rw [u8s_length, HC.out.2.1]; exact sizeTag)
      · intro wx hb
        refine @Ends.val _ _ _ _ _ _ _ _ _ (.pointer (some ⟨g10, 0, none⟩)) rfl ?_
        refine @Ends.val _ _ _ _ _ _ _ _ _ (.int .u64 t0) rfl ?_
        refine @Ends.any _ _ _ _ _ _ _ _ _ (isSl 8 (leB 8 t0)) (isSl_later _ _) rfl ?_
        intro v2 p2
        refine @Ends.val _ _ _ _ _ _ _ _ _ (.pointer (some ⟨g10, 1, none⟩)) rfl ?_
        refine @Ends.val _ _ _ _ _ _ _ _ _ (.int .u64 t1) rfl ?_
        refine @Ends.any _ _ _ _ _ _ _ _ _ (isSl 16 CB) (isSl_later _ _) rfl ?_
        intro v5 p5
        refine @Ends.any _ _ _ _ _ _ _ _ _ (isPt 16 CB) (isPt_later _ _) rfl ?_
        intro v6 p6
        refine @Ends.val _ _ _ _ _ _ _ _ _ (.agg (u8s CB).toArray) rfl ?_
        refine @Ends.one _ _ _ _ _ _ _ ?_
        simp only [Act.put, List.setIfInBounds_toArray, List.set_cons_zero, List.set_cons_succ]
        have q := XA.out.2.1
        refine last_store 164 (.tmp 2) (.tmp 49) rfl rfl w.heap.size rfl 164 _ (u8s CB) rfl (q.later hb q.lt) (by rw [u8s_length, u8s_length, HC.out.2.1]; rfl) (by rw [u8s_length, HC.out.2.1]; exact sizeTag) (u8s_one _) ?_
        intro wb bb sb kb
        have XB : Hid (Below w.heap.size w wb) := below_kept (below_chain XA.out.2.2 hb XA.out.2.2.size) kb (by have := XA.out.2.2.size; have := hb.size; omega) (fun j hj => by omega)
        clear hb sb kb q
        go_wp2_with fail
        exact ret_blk rfl w.heap.size (u8s CB) _ rfl bb Tryz.underlying164 rfl (by rw [u8s_length, HC.out.2.1]; exact sizeTag) rfl ⟨rfl, XB.out⟩
end Go.Proofs.YtfhieacclifihaaGreat
namespace Go.Proofs.YtfhieacclifihaaGreat
open Go.RowKit
set_option linter.unusedVariables false
set_option linter.unusedSimpArgs false

/-- Lists of bytes, as data. -/
structure SeenP (w : World) (ao : Option Addr) (n : Nat) (pss : List (List Int)) : Prop where
  len : pss.length = n
  cells : ∀ i, i < n → ∃ b o so c, ao = some ⟨b, o, none⟩ ∧ b < w.heap.size ∧ w.cell? ⟨b, o + i, none⟩ = some (.slice so (pss.getD i []).length c) ∧ Seen w so (pss.getD i []).length (pss.getD i []) ∧ (pss.getD i []).length ≤ c
theorem SeenP.later {w w' : World} {ao : Option Addr} {n : Nat} {pss : List (List Int)} (h : SeenP w ao n pss) {B : Nat} (hb : Below B w w') (hB : w.heap.size ≤ B) : SeenP w' ao n pss :=
  ⟨h.len, fun i hi => by
    obtain ⟨b, o, so, c, e, hlt, hc, hs, hl⟩ := h.cells i hi
    exact ⟨b, o, so, c, e, Nat.lt_of_lt_of_le hlt hb.size, (hb.cell (p := ⟨b, o + i, none⟩) (Nat.lt_of_lt_of_le hlt hB)).trans hc, hs.later hb hB, hl⟩⟩
theorem flat_succ (pss : List (List Int)) (k : Nat) (hk : k < pss.length) : (pss.take (k + 1)).flatten = (pss.take k).flatten ++ pss.getD k [] := by
  rw [List.take_succ_eq_append_getElem hk, List.flatten_append]
  simp [List.getD, hk]
end Go.Proofs.YtfhieacclifihaaGreat
namespace Go.Proofs.YtfhieacclifihaaGreat
open Go.RowKit
set_option linter.unusedVariables false
set_option linter.unusedSimpArgs false

/-- The code of bytes under a key. -/
def tagB (key m : List Int) : List Int := codeB (rOf key) (sOf key) m
theorem tagB_length (key m : List Int) : (tagB key m).length = 16 := codeB_length _ _ _
theorem tagB_bytes (key m : List Int) : Bytes (tagB key m) := codeB_bytes _ _ _
/-- A poly of a key that holds the bytes m. -/
def KHolds (w : World) (g : Nat) (key m : List Int) : Prop := PHolds w g (rLow key) (rHigh key) (sOf key) m
theorem psum_key (g : Nat) (key m : List Int) (w : World) (h : KHolds w g key m) : Calls Tryz.prog 121 #[.pointer (some ⟨g, 0, none⟩)] w fun e w' => e = .returned (.agg (u8s (tagB key m)).toArray) ∧ Below w.heap.size w w' := psum_any g _ _ _ m w h
set_option maxRecDepth 20000 in
set_option maxHeartbeats 1000000 in
theorem tsum_any (key : List Int) (hkl : key.length = 32) (hkb : Bytes key) (ao : Option Addr) (n c : Nat) (pss : List (List Int)) (w : World) (hx : SeenP w ao n pss) (hn : n ≤ 140737488355328) :
    Calls Tryz.prog 105 #[.agg (u8s key).toArray, .slice ao n c] w fun e w' => e = .returned (.agg (u8s (tagB key pss.flatten)).toArray) ∧ Below w.heap.size w w' := by
  have HX : Hid (SeenP w ao n pss) := hx
  have HN : Hid (pss.length = n) := hx.len
  have HK : Hid (key.length = 32 ∧ Bytes key) := ⟨hkl, hkb⟩
  clear hx hkl hkb
  go_enter Tryz.func105, Tryz.ntmps105
  go_wp2_with (first | (refine wpList_box_new rfl 41 _ rfl (u8s key) rfl ?_; intro w1 b1 s1 l1) | (refine wpList_alloc_new rfl 164 rfl 16 _ zeroTag ?_; intro w2 b2 s2 l2) | (refine wpList_load_blk rfl 41 _ rfl _ rfl (u8s key) _ (b1.later l2 (by omega)) Tryz.underlying41 rfl (by rw [u8s_length, HK.out.1]; exact tsizeKey) ?_) | (go_at_call 119; refine (tnew_any key HK.out.1 HK.out.2 _).mono ?_; rintro e w4 ⟨G, rfl, hG, h4, l4⟩))
  have q2 := l4.size
  have HB : Hid (Blk w4 (w.heap.size + 1) 164 (u8s (zs0 16)) ∧ KHolds w4 G key [] ∧ Below w.heap.size w w4 ∧ w.heap.size + 1 < G) := by
    rw [s1] at b2
    exact ⟨b2.later l4 (by omega), h4, below_chain (below_chain l1 l2 (by omega)) l4 (by omega), by omega⟩
  clear b1 s1 l1 b2 s2 l2 hG h4 l4 q2
  go_loopw [12] (fun i wr => ∃ k : Nat, k ≤ n ∧ i = .int .i64 k ∧ KHolds wr G key (pss.take k).flatten ∧ Kept (fun b => b = G) w4 wr) (fun i _ => n - (intOf i).toNat)
  case atStart => exact ⟨0, Nat.zero_le _, rfl, HB.out.2.1, Kept.refl _ _⟩
  case round =>
    obtain ⟨k, hk, rfl, hh, hkp⟩ := hrel
    by_cases hlt : k < n
    · obtain ⟨b, o, so, cs, rfl, hb, hc, hs, hl⟩ := HX.out.cells k hlt
      obtain ⟨B1, B2, B3, B5⟩ := HB.out
      have c1 : wr.cell? ⟨b, o + k, none⟩ = some (.slice so (pss.getD k []).length cs) := (hkp.cell (p := ⟨b, o + k, none⟩) (Nat.lt_of_lt_of_le hb B3.size) (by show ¬ b = _; omega)).trans ((B3.cell (p := ⟨b, o + k, none⟩) hb).trans hc)
      have S1 : Hid (Seen wr so (pss.getD k []).length (pss.getD k [])) := (hs.later B3 (Nat.le_refl _)).kept hkp (fun b' o' h0 e => by
        have := hs.old (Nat.le_refl _) b' o' h0 e
        omega)
      have N1 : Hid (∀ b' o', 0 < (pss.getD k []).length → so = some ⟨b', o', none⟩ → b' ≠ G) := fun b' o' h0 e => by
        have := hs.old (Nat.le_refl _) b' o' h0 e
        omega
      have L1 : Hid ((pss.getD k []).length ≤ cs) := hl
      have E1 : Hid _ := flat_succ pss k (by have := HN.out; omega)
      have HH : Hid (KHolds wr G key (pss.take k).flatten ∧ Kept (fun b => b = G) w4 wr) := ⟨hh, hkp⟩
      have i1 : (0 : Int) ≤ (k : Int) := by omega
      have i2 : (k : Int) < (n : Int) := by omega
      clear B1 B2 B3 B5 hs hl hc hh hkp
      obtain ⟨p, hp⟩ : ∃ p, pss.getD k [] = p := ⟨_, rfl⟩
      rw [hp] at c1 S1 N1 L1 E1
      clear hp
      go_wp2_with (go_at_call 120; refine (write_any _ _ _ _ _ so p.length cs p _ HH.out.1 S1.out L1.out N1.out).mono ?_; rintro e w5 ⟨rfl, h5, k5⟩)
      exact ⟨⟨k + 1, by omega, by go_num, by rw [E1.out]; exact h5, HH.out.2.trans k5⟩, by simp [intOf]; omega⟩
    · obtain rfl : k = n := by omega
      obtain ⟨B1, B2, B3, B5⟩ := HB.out
      rw [List.take_of_length_le (by have := HN.out; omega)] at hh
      have X1 : Hid (KHolds wr G key pss.flatten ∧ Blk wr (w.heap.size + 1) 164 (u8s (zs0 16)) ∧ Below w.heap.size w wr) := ⟨hh, B1.kept hkp (by omega), below_kept B3 hkp B3.size (fun j hj => by omega)⟩
      clear B1 B2 B3 B5 hh hkp
      go_wp2_with (first | (go_at_call 121; refine (psum_key _ key pss.flatten _ X1.out.1).mono ?_; rintro e w5 ⟨rfl, l5⟩; have X5 : Hid (Blk w5 (w.heap.size + 1) 164 (u8s (zs0 16)) ∧ Below w.heap.size w w5) := ⟨X1.out.2.1.later l5 X1.out.2.1.lt, below_chain X1.out.2.2 l5 X1.out.2.2.size⟩) | (refine wpList_store_blk rfl 164 164 _ _ rfl _ rfl _ (u8s (tagB key pss.flatten)) rfl X5.out.1 (by rw [u8s_length, tagB_length]; rfl) (by rw [u8s_length, tagB_length]; exact sizeTag) (u8s_one _) ?_; intro w6 b6 s6 k6))
      exact ret_blk rfl (w.heap.size + 1) (u8s (tagB key pss.flatten)) _ rfl b6 Tryz.underlying164 rfl (by rw [u8s_length, tagB_length]; exact sizeTag) rfl ⟨rfl, below_kept X5.out.2 k6 X5.out.2.size (fun j hj => by omega)⟩
end Go.Proofs.YtfhieacclifihaaGreat
namespace Go.Proofs.YtfhieacclifihaaGreat
open Go.RowKit
set_option linter.unusedVariables false
set_option linter.unusedSimpArgs false

def fillN (n : Nat) : Nat := (16 - n % 16) % 16
def fillL (n : Nat) : List Int := List.replicate (fillN n) 0
theorem rep0_bytes (n : Nat) : Bytes (List.replicate n 0) := fun z hz => by rw [List.eq_of_mem_replicate hz]; decide
/-- The key of a tag. -/
def tagKey (key nonce : List Int) : List Int := (blkB key 0 nonce).take 32
theorem tagKey_length (key nonce : List Int) : (tagKey key nonce).length = 32 := by rw [tagKey, List.length_take, blkB_length]; rfl
theorem tagKey_bytes (key nonce : List Int) : Bytes (tagKey key nonce) := bytes_take (blkB_bytes _ _ _) _
/-- What a tag vouches for. -/
def ends8 (a b : Nat) : List Int := leB 8 (a : Int) ++ leB 8 (b : Int)
def vouched (more cover : List Int) : List Int := ([more, fillL more.length, cover, fillL cover.length, ends8 more.length cover.length] : List (List Int)).flatten
/-- The tag of a cover. -/
def codeL (key nonce more cover : List Int) : List Int := tagB (tagKey key nonce) (vouched more cover)
theorem codeL_length (key nonce more cover : List Int) : (codeL key nonce more cover).length = 16 := tagB_length _ _
theorem codeL_bytes (key nonce more cover : List Int) : Bytes (codeL key nonce more cover) := tagB_bytes _ _
/-- The cover and the box of a text. -/
def coverL (key nonce zs : List Int) : List Int := over key nonce 64 zs
theorem coverL_length (key nonce zs : List Int) : (coverL key nonce zs).length = zs.length := over_length _ _ _ _
theorem coverL_bytes (key nonce : List Int) {zs : List Int} (h : Bytes zs) : Bytes (coverL key nonce zs) := over_bytes _ _ _ _ h
theorem cover_cover (key nonce : List Int) {zs : List Int} (h : Bytes zs) : coverL key nonce (coverL key nonce zs) = zs := over_over _ _ _ _ h
def boxL (key nonce more zs : List Int) : List Int := coverL key nonce zs ++ codeL key nonce more (coverL key nonce zs)
theorem boxL_length (key nonce more zs : List Int) : (boxL key nonce more zs).length = zs.length + 16 := by rw [boxL, List.length_append, coverL_length, codeL_length]
theorem boxL_bytes (key nonce more : List Int) {zs : List Int} (h : Bytes zs) : Bytes (boxL key nonce more zs) := bytes_app (coverL_bytes _ _ h) (codeL_bytes _ _ _ _)
theorem boxL_front (key nonce more zs : List Int) : (boxL key nonce more zs).take zs.length = coverL key nonce zs := by
  rw [boxL, List.take_append_of_le_length (by rw [coverL_length]; exact Nat.le_refl _), List.take_of_length_le (by rw [coverL_length]; exact Nat.le_refl _)]
theorem boxL_back (key nonce more zs : List Int) : (boxL key nonce more zs).drop zs.length = codeL key nonce more (coverL key nonce zs) := by
  have h := List.drop_left (l₁ := coverL key nonce zs) (l₂ := codeL key nonce more (coverL key nonce zs))
  rwa [coverL_length] at h
/-- Does a box open? -/
def opensL (key nonce more box : List Int) : Bool := decide (codeL key nonce more (box.take (box.length - 16)) = box.drop (box.length - 16))
/-- The text under a cover. -/
def textL (key nonce box : List Int) : List Int := coverL key nonce (box.take (box.length - 16))
theorem textL_length (key nonce box : List Int) : (textL key nonce box).length = box.length - 16 := by rw [textL, coverL_length, List.length_take]; omega
theorem opens_box (key nonce more : List Int) {zs : List Int} : opensL key nonce more (boxL key nonce more zs) = true := by
  rw [opensL, boxL_length, Nat.add_sub_cancel, boxL_front, boxL_back]; simp
theorem text_box (key nonce more : List Int) {zs : List Int} (h : Bytes zs) : textL key nonce (boxL key nonce more zs) = zs := by
  rw [textL, boxL_length, Nat.add_sub_cancel, boxL_front, cover_cover _ _ h]
end Go.Proofs.YtfhieacclifihaaGreat
namespace Go.Proofs.YtfhieacclifihaaGreat
open Go.RowKit
set_option linter.unusedVariables false
set_option linter.unusedSimpArgs false

/-- A value that owns bytes, read as data. -/
theorem own_data {w : World} {base : Nat} {v : Value} {zs : List Int} (hb : Bytes zs) (ht : zs.length ≤ 140737488355328) (h : w.ownsRow base 5 1 v zs.length (zs.map (Value.int .u8))) :
    ∃ vo cap, v = .slice vo zs.length cap ∧ Seen w vo zs.length zs ∧ zs.length ≤ cap ∧ (vo = none → cap = 0) ∧ (∀ b o, vo = some ⟨b, o, none⟩ → base ≤ b ∧ b < w.heap.size ∧ o = 0 ∧ RowAt w b zs) ∧ cap ≤ maxLen := by
  rcases own_cases h with ⟨rfl, h0⟩ | ⟨g, cap, rfl, hr, hg, hc, hm⟩
  · subst h0
    exact ⟨none, 0, rfl, Seen.empty _ _, Nat.le_refl _, fun _ => rfl, (fun b o h => by cases h), by decide⟩
  · refine ⟨_, cap, rfl, ?_, hc, (fun h => by cases h), fun b o h => ?_, hm⟩
    · have := Seen.of_row (n := zs.length) hr (Nat.le_refl _) ht hb
      rwa [List.take_length] at this
    · simp only [Option.some.injEq, Addr.mk.injEq, and_true] at h
      obtain ⟨rfl, rfl⟩ := h
      exact ⟨hg, hr.lt, rfl, hr⟩
/-- One list, two lists in a new row of headers. -/
theorem seenP1 (W : World) (s1 : Option Addr) (n1 c1 : Nat) (z1 : List Int) (h1 : Seen W s1 n1 z1) (l1 : n1 ≤ c1) :
    SeenP (W.alloc (.cells #[.slice s1 n1 c1] 66)) (some ⟨W.heap.size, 0, none⟩) 1 [z1] := by
  obtain rfl := h1.len
  have hb : Below W.heap.size W (W.alloc (.cells #[.slice s1 z1.length c1] 66)) := (Below.refl _ _).alloc (Nat.le_refl _) _
  have hh : (W.alloc (.cells #[.slice s1 z1.length c1] 66)).heap[W.heap.size]? = some (.cells [.slice s1 z1.length c1].toArray 66 (0, 0)) := heap_alloc_new W _
  refine ⟨rfl, fun i hi => ?_⟩
  obtain rfl : i = 0 := by omega
  exact ⟨_, 0, s1, c1, rfl, by simp, by rw [cell_of_row _ _ _ _ _ _ hh]; rfl, h1.later hb (Nat.le_refl _), l1⟩
end Go.Proofs.YtfhieacclifihaaGreat
namespace Go.Proofs.YtfhieacclifihaaGreat
open Go.RowKit Go.Joins
set_option linter.unusedVariables false
set_option linter.unusedSimpArgs false

theorem infoByte : (Tryz.prog.info? 5).map (fun i => (i.zero, i.size)) = some (some (.int .u8 0), 1) := by kernel_rfl
/-- Lists in a new row of headers. -/
def isP (n : Nat) (pss : List (List Int)) (v : Value) (w : World) : Prop := ∃ b c, v = .slice (some ⟨b, 0, none⟩) n c ∧ SeenP w (some ⟨b, 0, none⟩) n pss
theorem isP_later (n : Nat) (pss : List (List Int)) : ∀ v w w', Below w.heap.size w w' → isP n pss v w → isP n pss v w' := fun _ _ _ hb ⟨b, c, h1, h2⟩ => ⟨b, c, h1, h2.later hb (Nat.le_refl _)⟩
theorem Does.run {base : Nat} {E : Exp} {ρ : Operand → Value} {o : Oper} {w w' : World} (v : Value) (h : (execOp ρ o).run Tryz.prog w = .ok (.value v) w') (hE : E.ok base v w') (hb : Below w.heap.size w w') : Does base E ρ o w := by
  unfold Does; rw [h]; exact ⟨hE, hb⟩
theorem bs1 (s1 : Option Addr) (n1 c1 : Nat) (w : World) : (Instr.buildSlice 65 1 #[(0, .slice s1 n1 c1)]).run Tryz.prog w = .ok (.slice (some ⟨w.heap.size, 0, none⟩) 1 1) (w.alloc (.cells #[.slice s1 n1 c1] 66)) := by kernel_rfl
theorem Does.rows1 {base : Nat} {ρ : Operand → Value} {o : Oper} {w : World} (parts : Array (Nat × Operand)) (ho : o.op = .buildSlice 65 1 parts) (s1 : Option Addr) (n1 c1 : Nat) (z1 : List Int) (hp : (parts.map fun (i, x) => (i, ρ x)) = #[(0, .slice s1 n1 c1)]) (h1 : Seen w s1 n1 z1) (l1 : n1 ≤ c1) : Does base (.any (isP 1 [z1]) (isP_later _ _)) ρ o w := by
  refine Does.run (.slice (some ⟨w.heap.size, 0, none⟩) 1 1) (w' := w.alloc (.cells #[.slice s1 n1 c1] 66)) ?_ ⟨_, _, rfl, seenP1 w s1 n1 c1 z1 h1 l1⟩ ((Below.refl _ _).alloc (Nat.le_refl _) _)
  unfold execOp
  simp only [ho, hp, Sem.run_bind, bs1, Sem.run_pure, Result.andThen_ok]
/-- Lists in a new row of headers, however many. -/
def hdr (x : Option Addr × Nat × Nat × List Int) : Value := .slice x.1 x.2.1 x.2.2.1
theorem seenPn (W : World) (l : List (Option Addr × Nat × Nat × List Int)) (h : ∀ x ∈ l, Seen W x.1 x.2.1 x.2.2.2 ∧ x.2.1 ≤ x.2.2.1) :
    SeenP (W.alloc (.cells (l.map hdr).toArray 66)) (some ⟨W.heap.size, 0, none⟩) l.length (l.map (·.2.2.2)) := by
  have hb : Below W.heap.size W (W.alloc (.cells (l.map hdr).toArray 66)) := (Below.refl _ _).alloc (Nat.le_refl _) _
  have hh : (W.alloc (.cells (l.map hdr).toArray 66)).heap[W.heap.size]? = some (.cells (l.map hdr).toArray 66 (0, 0)) := heap_alloc_new W _
  refine ⟨by simp, fun i hi => ?_⟩
  have hx := h l[i] (List.getElem_mem hi)
  have e : (l.map (·.2.2.2)).getD i [] = l[i].2.2.2 := by simp [List.getD, hi]
  have el : l[i].2.2.2.length = l[i].2.1 := hx.1.len
  rw [e, el]
  refine ⟨_, 0, l[i].1, l[i].2.2.1, rfl, by simp, ?_, hx.1.later hb (Nat.le_refl _), hx.2⟩
  rw [cell_of_row _ _ _ _ _ _ hh]
  simp [hi, hdr]
theorem bs5 (s1 s2 s3 s4 s5 : Option Addr) (n1 n2 n3 n4 n5 c1 c2 c3 c4 c5 : Nat) (w : World) : (Instr.buildSlice 65 5 #[(0, .slice s1 n1 c1), (1, .slice s2 n2 c2), (2, .slice s3 n3 c3), (3, .slice s4 n4 c4), (4, .slice s5 n5 c5)]).run Tryz.prog w = .ok (.slice (some ⟨w.heap.size, 0, none⟩) 5 5) (w.alloc (.cells #[.slice s1 n1 c1, .slice s2 n2 c2, .slice s3 n3 c3, .slice s4 n4 c4, .slice s5 n5 c5] 66)) := by kernel_rfl
theorem Does.rows5 {base : Nat} {ρ : Operand → Value} {o : Oper} {w : World} (parts : Array (Nat × Operand)) (ho : o.op = .buildSlice 65 5 parts) (s1 s2 s3 s4 s5 : Option Addr) (n1 n2 n3 n4 n5 c1 c2 c3 c4 c5 : Nat) (z1 z2 z3 z4 z5 : List Int) (hp : (parts.map fun (i, x) => (i, ρ x)) = #[(0, .slice s1 n1 c1), (1, .slice s2 n2 c2), (2, .slice s3 n3 c3), (3, .slice s4 n4 c4), (4, .slice s5 n5 c5)])
    (h1 : Seen w s1 n1 z1 ∧ n1 ≤ c1) (h2 : Seen w s2 n2 z2 ∧ n2 ≤ c2) (h3 : Seen w s3 n3 z3 ∧ n3 ≤ c3) (h4 : Seen w s4 n4 z4 ∧ n4 ≤ c4) (h5 : Seen w s5 n5 z5 ∧ n5 ≤ c5) : Does base (.any (isP 5 [z1, z2, z3, z4, z5]) (isP_later _ _)) ρ o w := by
  refine Does.run (.slice (some ⟨w.heap.size, 0, none⟩) 5 5) (w' := w.alloc (.cells #[.slice s1 n1 c1, .slice s2 n2 c2, .slice s3 n3 c3, .slice s4 n4 c4, .slice s5 n5 c5] 66)) ?_ ⟨_, _, rfl, ?_⟩ ((Below.refl _ _).alloc (Nat.le_refl _) _)
  · unfold execOp
    simp only [ho, hp, Sem.run_bind, bs5, Sem.run_pure, Result.andThen_ok]
  · exact seenPn w [(s1, n1, c1, z1), (s2, n2, c2, z2), (s3, n3, c3, z3), (s4, n4, c4, z4), (s5, n5, c5, z5)] (fun x hx => by
      simp only [List.mem_cons, List.not_mem_nil, or_false] at hx
      rcases hx with rfl | rfl | rfl | rfl | rfl
      · exact h1
      · exact h2
      · exact h3
      · exact h4
      · exact h5)
/-- A slice of these bytes, with room enough. -/
def isS (zs : List Int) (v : Value) (w : World) : Prop := ∃ vo n c, v = .slice vo n c ∧ Seen w vo n zs ∧ n ≤ c
theorem isS_later (zs : List Int) : ∀ v w w', Below w.heap.size w w' → isS zs v w → isS zs v w' := fun _ _ _ hb ⟨b, o, c, h1, h2, h3⟩ => ⟨b, o, c, h1, h2.later hb (Nat.le_refl _), h3⟩
end Go.Proofs.YtfhieacclifihaaGreat
namespace Go.Proofs.YtfhieacclifihaaGreat
open Go.RowKit
set_option linter.unusedVariables false
set_option linter.unusedSimpArgs false

theorem madeZ (n : Nat) : (madeCells #[Value.int .u8 0] n) = (u8s (List.replicate n 0)).toArray := by
  apply Array.ext'
  rw [toList_madeCells_one]
  simp [u8s]
set_option maxRecDepth 20000 in
theorem filler_any (ao : Option Addr) (n c : Nat) (hn : n ≤ 140737488355328) (w : World) :
    Calls Tryz.prog 106 #[.slice ao n c] w fun e w' => ∃ v, e = .returned v ∧ isS (fillL n) v w' ∧ Below w.heap.size w w' := by
  obtain ⟨i0, hi, hz0, hz1, hz2⟩ := info_parts info_byte
  obtain ⟨R, hR⟩ : ∃ R, n % 16 = R := ⟨_, rfl⟩
  obtain ⟨K, hK⟩ : ∃ K, fillN n = K := ⟨_, rfl⟩
  have hR16 : R < 16 := by omega
  have hK2 : (16 - R) % 16 = K := by rw [← hK, fillN, hR]
  have hK16 : K < 16 := by omega
  have n1 : (n : Int).tmod 16 = (R : Int) := by rw [Int.tmod_eq_emod_of_nonneg (by omega)]; omega
  have n2 : (n : Int) % 16 = (R : Int) := by omega
  have n3 : (16 - (R : Int)).tmod 16 = (K : Int) := by rw [Int.tmod_eq_emod_of_nonneg (by omega)]; omega
  have n4 : (16 - (R : Int)) % 16 = (K : Int) := by omega
  have hmk := run_make (P := Tryz.prog) w 66 5 i0 (.int .u8 0) Tryz.underlying66 hi hz0 .i64 .i64 (K : Int) (K : Int) (by omega) (Int.le_refl _) (by rw [hz2]; omega) (by omega)
  rw [hz1, show ((K : Int).toNat) = K by omega, Nat.mul_one, show (Value.int .u8 0).cells = #[.int .u8 0] from rfl, madeZ] at hmk
  obtain ⟨w1, hw1, HB⟩ : ∃ w1, w.alloc (.cells (u8s (List.replicate K 0)).toArray 5) = w1 ∧ Hid (Blk w1 w.heap.size 5 (u8s (List.replicate K 0)) ∧ Below w.heap.size w w1) := ⟨_, rfl, ⟨heap_alloc_new w _, (Below.refl _ _).alloc (Nat.le_refl _) _⟩⟩
  rw [hw1] at hmk
  have HE : Hid (fillL n = List.replicate K 0) := by show _ = _; rw [fillL, hK]
  clear hw1 hi hz0 hz1 hz2 hR hK hK2
  go_enter Tryz.func106, Tryz.ntmps106
  go_wp2
  go_ret
  refine ⟨_, rfl, ⟨_, _, _, rfl, ?_, Nat.le_refl _⟩, HB.out.2⟩
  rw [HE.out]
  have := seen_blk HB.out.1 (rep0_bytes K) (by simp; omega)
  simpa using this
set_option maxRecDepth 20000 in
set_option maxHeartbeats 1000000 in
theorem laidOver_any (key nonce : List Int) (n c : Nat) (ao : Option Addr) (zs : List Int) (hk : key.length = 32) (hno : nonce.length = 12) (hkb : Bytes key) (hnb : Bytes nonce) (hc : n ≤ 274877906880) (w : World) (hx : Seen w ao n zs) :
    Calls Tryz.prog 88 #[.agg (u8s key).toArray, .agg (u8s nonce).toArray, .slice ao n c] w fun e w' => ∃ v, e = .returned v ∧ w'.ownsRow w.heap.size 5 1 v n ((coverL key nonce zs).map (Value.int .u8)) ∧ Below w.heap.size w w' := by
  have HX : Hid (Seen w ao n zs) := hx
  clear hx
  have HS : Hid (key.length = 32 ∧ nonce.length = 12 ∧ Bytes key ∧ Bytes nonce) := ⟨hk, hno, hkb, hnb⟩
  clear hk hno hkb hnb
  go_enter Tryz.func88, Tryz.ntmps88
  go_wp2_with (first | (refine wpList_box_new rfl 41 _ rfl (u8s key) rfl ?_; intro w1 b1 s1 l1) | (refine wpList_box_new rfl 124 _ rfl (u8s nonce) rfl ?_; intro w2 b2 s2 l2) | (refine wpList_load_blk rfl 41 _ rfl _ rfl (u8s key) _ (by first | exact b1.later l2 (by omega)) Tryz.underlying41 rfl (by rw [u8s_length, HS.out.1]; exact sizeKey) ?_) | (refine wpList_load_blk rfl 124 _ rfl _ rfl (u8s nonce) _ (by first | exact b2 | (rw [← s1]; exact b2)) Tryz.underlying124 rfl (by rw [u8s_length, HS.out.2.1]; exact sizeNonce) ?_) | (go_at_call 103; refine (xor_any key nonce 1 n c ao zs HS.out.1 HS.out.2.1 HS.out.2.2.1 HS.out.2.2.2 (by decide) (by omega) _ (HX.out.later (below_chain l1 l2 (by omega)) (Nat.le_refl _))).mono ?_; rintro e w3 ⟨v, rfl, o3, l3⟩; have HO : Hid (w3.ownsRow w.heap.size 5 1 v n ((coverL key nonce zs).map (Value.int .u8)) ∧ Below w.heap.size w w3) := ⟨ownsRow_base o3 (by omega), below_chain (below_chain l1 l2 (by omega)) l3 (by omega)⟩; clear o3 l3 b1 s1 l1 b2 s2 l2))
  go_ret
  exact ⟨_, rfl, HO.out⟩
end Go.Proofs.YtfhieacclifihaaGreat
namespace Go.Proofs.YtfhieacclifihaaGreat
open Go.RowKit
set_option linter.unusedVariables false
set_option linter.unusedSimpArgs false

theorem arrKey (ao : Option Addr) (n c : Nat) (hn : 32 ≤ n) (w : World) : (Instr.arrayAt 41 (.slice ao n c)).run Tryz.prog w = .ok (.pointer ao) w := run_arrayAt w 41 5 32 ao n c Tryz.underlying41 hn
theorem sizeA64b : (Tryz.prog.info? 181).map (·.size) = some 64 := by kernel_rfl
set_option maxRecDepth 20000 in
set_option maxHeartbeats 1000000 in
theorem codeOf_any (key nonce : List Int) (n c m d : Nat) (ao bo : Option Addr) (ms zs : List Int) (hk : key.length = 32) (hno : nonce.length = 12) (hkb : Bytes key) (hnb : Bytes nonce) (w : World) (hx : Seen w ao n ms) (hy : Seen w bo m zs) (hc : n ≤ c) (hd : m ≤ d) :
    Calls Tryz.prog 89 #[.agg (u8s key).toArray, .agg (u8s nonce).toArray, .slice ao n c, .slice bo m d] w fun e w' => e = .returned (.agg (u8s (codeL key nonce ms zs)).toArray) ∧ Below w.heap.size w w' := by
  have HX : Hid (Seen w ao n ms ∧ Seen w bo m zs ∧ n ≤ c ∧ m ≤ d) := ⟨hx, hy, hc, hd⟩
  have HS : Hid (key.length = 32 ∧ nonce.length = 12 ∧ Bytes key ∧ Bytes nonce) := ⟨hk, hno, hkb, hnb⟩
  have t1 := hx.top
  have t2 := hy.top
  have e1 : ms.length = n := hx.len
  have e2 : zs.length = m := hy.len
  obtain ⟨B, hB⟩ : ∃ B, blkB key 0 nonce = B := ⟨_, rfl⟩
  obtain ⟨TK, hTK⟩ : ∃ T, tagKey key nonce = T := ⟨_, rfl⟩
  obtain ⟨CL, hCL⟩ : ∃ C, codeL key nonce ms zs = C := ⟨_, rfl⟩
  have HB : Hid (blkB key 0 nonce = B ∧ B.length = 64 ∧ u8s B = u8s TK ++ u8s (B.drop 32) ∧ TK.length = 32 ∧ Bytes TK ∧ CL.length = 16 ∧ tagB TK ([ms, fillL n, zs, fillL m, ends8 n m] : List (List Int)).flatten = CL) := by
    refine ⟨hB, by rw [← hB, blkB_length], ?_, by rw [← hTK, tagKey_length], by rw [← hTK]; exact tagKey_bytes _ _, by rw [← hCL, codeL_length], ?_⟩
    · rw [← hTK, tagKey, hB, u8s, u8s, u8s, ← List.map_append, List.take_append_drop]
    · rw [← hCL, codeL, hTK, vouched, e1, e2]
  rw [hCL]
  clear hx hy hk hno hkb hnb hB hTK hCL e1 e2 hc hd
  have v1 : IntKind.u64.wrap (n : Int) = (n : Int) := by simp only [IntKind.wrap, IntKind.bits, IntKind.signed]; simp; omega
  have v2 : IntKind.u64.wrap (m : Int) = (m : Int) := by simp only [IntKind.wrap, IntKind.bits, IntKind.signed]; simp; omega
  go_enter Tryz.func89, Tryz.ntmps89
  go_wp2_with (first | (refine wpList_box_new rfl 41 _ rfl (u8s key) rfl ?_; intro w1 b1 s1 l1) | (refine wpList_box_new rfl 124 _ rfl (u8s nonce) rfl ?_; intro w2 b2 s2 l2) | (refine wpList_alloc_new rfl 164 rfl 16 _ zeroTag ?_; intro w3 b3 s3 l3; have K3 : Hid (Blk w3 w.heap.size 41 (u8s key) ∧ Blk w3 w1.heap.size 124 (u8s nonce)) := ⟨(b1.later l2 (by omega)).later l3 (by omega), b2.later l3 (by omega)⟩) | (refine wpList_load_blk rfl 41 _ rfl _ rfl (u8s key) _ K3.out.1 Tryz.underlying41 rfl (by rw [u8s_length, HS.out.1]; exact sizeKey) ?_) | (refine wpList_load_blk rfl 124 _ rfl _ rfl (u8s nonce) _ (by first | exact K3.out.2 | (rw [← s1]; exact K3.out.2)) Tryz.underlying124 rfl (by rw [u8s_length, HS.out.2.1]; exact sizeNonce) ?_) | (go_at_call 104; refine (block_any key 0 nonce HS.out.1 HS.out.2.1 HS.out.2.2.1 HS.out.2.2.2 _).mono ?_; rintro e w4 ⟨rfl, l4⟩; rw [HB.out.1]) | (refine wpList_alloc_new rfl 181 rfl 64 _ zero64b ?_; intro w5 b5 s5 l5) | (refine wpList_store_blk rfl 181 181 _ _ rfl _ rfl _ (u8s B) rfl b5 (by rw [u8s_length, u8s_length, HB.out.2.1]; rfl) (by rw [u8s_length, HB.out.2.1]; exact sizeA64b) (u8s_one _) ?_; intro w6 b6 s6 k6))
  have q4 := l4.size
  obtain ⟨G, hG⟩ : ∃ G, w4.heap.size = G := ⟨_, rfl⟩
  try simp only [Act.put, List.setIfInBounds_toArray, List.set_cons_zero, List.set_cons_succ]
  rw [hG] at b6 k6 ⊢
  have H6 : Hid (Blk w6 G 181 (u8s B) ∧ Blk w6 (w.heap.size + 1 + 1) 164 (u8s (zs0 16)) ∧ Below w.heap.size w w6 ∧ w.heap.size + 1 + 1 < G) := by
    rw [s2, s1] at b3
    exact ⟨b6, ((b3.later l4 (by omega)).later l5 (by omega)).kept k6 (by omega), below_kept (below_chain (below_chain (below_chain (below_chain l1 l2 (by omega)) l3 (by omega)) l4 (by omega)) l5 (by omega)) k6 (by omega) (fun j hj => by omega), by omega⟩
  clear b1 s1 l1 b2 s2 l2 b3 s3 l3 l4 b5 s5 l5 b6 s6 k6 hG q4 K3
  refine (put_64 none 0 0 [] (n : Int) w6 (Seen.empty _ _) (fun _ => rfl) (by decide) (by omega)).mono ?_
  rintro e w7 ⟨v7, rfl, o7, l7⟩
  obtain ⟨p7, c7, rfl, d7, _⟩ := own_seen (by simp [leB_length]) (bytes_app (fun z hz => by cases hz) (leB_bytes _ _)) (by decide) o7
  have z7 : p7 = none → c7 = 0 := fun h => by
    obtain ⟨b, o, e, _⟩ := d7.cells (by decide)
    rw [h] at e; cases e
  have H7 : Hid (Blk w7 G 181 (u8s B) ∧ Blk w7 (w.heap.size + 1 + 1) 164 (u8s (zs0 16)) ∧ Below w.heap.size w w7 ∧ Seen w7 p7 (0 + 8) ([] ++ leB 8 n) ∧ w.heap.size + 1 + 1 < G) := ⟨H6.out.1.later l7 H6.out.1.lt, H6.out.2.1.later l7 H6.out.2.1.lt, below_chain H6.out.2.2.1 l7 H6.out.2.2.1.size, d7, H6.out.2.2.2⟩
  clear o7 l7 d7 H6
  go_wp2_with fail
  refine (put_64 p7 (0 + 8) c7 _ (m : Int) w7 H7.out.2.2.2.1 z7 (by decide) (by omega)).mono ?_
  rintro e w8 ⟨v8, rfl, o8, l8⟩
  have b8 : Bytes (([] ++ leB 8 (n : Int)) ++ leB 8 (m : Int)) := bytes_app (bytes_app (fun z hz => by cases hz) (leB_bytes _ _)) (leB_bytes _ _)
  have e8 : (([] ++ leB 8 (n : Int)) ++ leB 8 (m : Int) : List Int).length = 0 + 8 + 8 := by simp [leB_length]
  rw [← e8] at o8
  obtain ⟨po8, c8, rfl, d8, hc8, _⟩ := own_data b8 (by rw [e8]; decide) o8
  rw [e8] at d8 hc8
  have H8 : Hid (Blk w8 G 181 (u8s B) ∧ Blk w8 (w.heap.size + 1 + 1) 164 (u8s (zs0 16)) ∧ Below w.heap.size w w8 ∧ Seen w8 po8 16 (ends8 n m) ∧ 16 ≤ c8 ∧ Seen w8 ao n ms ∧ Seen w8 bo m zs) := by
    have L8 := below_chain H7.out.2.2.1 l8 H7.out.2.2.1.size
    refine ⟨H7.out.1.later l8 H7.out.1.lt, H7.out.2.1.later l8 H7.out.2.1.lt, L8, ?_, hc8, HX.out.1.later L8 (Nat.le_refl _), HX.out.2.1.later L8 (Nat.le_refl _)⟩
    simpa [ends8] using d8
  rw [e8]
  clear o8 l8 d8 hc8 H7 b8 e8 z7
  go_wp2_with fail
  try simp only [Act.put, List.setIfInBounds_toArray, List.set_cons_zero, List.set_cons_succ]
  refine region_inv [.val (.slice (some ⟨G, 0, none⟩) 32 64), .val (.pointer (some ⟨G, 0, none⟩)), .val (.agg (u8s TK).toArray), .val (.slice ao n c), .val (.slice ao n c), .any (isS (fillL n)) (isS_later _), .val (.slice bo m d), .val (.slice bo m d), .any (isS (fillL m)) (isS_later _), .val (.slice po8 16 c8), .any (isP 5 [ms, fillL n, zs, fillL m, ends8 n m]) (isP_later _ _), .val (.agg (u8s CL).toArray)] (by kernel_rfl) (by kernel_rfl) (by kernel_rfl) ?_ ?_
  · refine Steps'.cons ?_ (Steps'.cons ?_ (Steps'.cons ?_ (Steps'.cons ?_ (Steps'.cons ?_ (Steps'.cons ?_ (Steps'.cons ?_ (Steps'.cons ?_ (Steps'.cons ?_ (Steps'.cons ?_ (Steps'.cons ?_ (Steps'.cons ?_ (Steps'.one _ _ _ _ _ _ _))))))))))))
    · intro ax wx hb hs hd
      have h9 : ax.tmps.getD 9 undef = (.pointer (some ⟨G, 0, none⟩)) := hs 9 (by kernel_rfl)
      refine Does.value (.slice (some ⟨G, 0, none⟩) 32 64) ?_ rfl
      go_simp
    · intro ax wx hb hs hd
      have h22 : ax.tmps.getD 22 undef = (.slice (some ⟨G, 0, none⟩) 32 64) := hd 0 22 rfl (by kernel_rfl) (by decide)
      have hat := arrKey (some ⟨G, 0, none⟩) 32 64 (Nat.le_refl _) wx
      refine Does.value (.pointer (some ⟨G, 0, none⟩)) ?_ rfl
      go_simp
    · intro ax wx hb hs hd
      have h23 : ax.tmps.getD 23 undef = (.pointer (some ⟨G, 0, none⟩)) := hd 1 23 rfl (by kernel_rfl) (by decide)
      exact Does.load 41 (.tmp 23) rfl G 0 h23 (u8s TK) _ (by have q := H8.out.1.later hb H8.out.1.lt; rw [HB.out.2.2.1] at q; exact Blk.range (xs := []) (ys := u8s TK) q) Tryz.underlying41 rfl (by rw [u8s_length, HB.out.2.2.2.1]; exact sizeKey)
    · intro ax wx hb hs hd
      have h2 : ax.tmps.getD 2 undef = (.slice ao n c) := hs 2 (by kernel_rfl)
      refine Does.value (.slice ao n c) ?_ rfl
      go_simp
    · intro ax wx hb hs hd
      have h2 : ax.tmps.getD 2 undef = (.slice ao n c) := hs 2 (by kernel_rfl)
      refine Does.value (.slice ao n c) ?_ rfl
      go_simp
    · intro ax wx hb hs hd
      have h26 : ax.tmps.getD 26 undef = (.slice ao n c) := hd 4 26 rfl (by kernel_rfl) (by decide)
      refine Does.call 106 #[(.slice ao n c)] (by go_simp) ?_
      exact filler_any _ _ _ t1 wx
    · intro ax wx hb hs hd
      have h3 : ax.tmps.getD 3 undef = (.slice bo m d) := hs 3 (by kernel_rfl)
      refine Does.value (.slice bo m d) ?_ rfl
      go_simp
    · intro ax wx hb hs hd
      have h3 : ax.tmps.getD 3 undef = (.slice bo m d) := hs 3 (by kernel_rfl)
      refine Does.value (.slice bo m d) ?_ rfl
      go_simp
    · intro ax wx hb hs hd
      have h29 : ax.tmps.getD 29 undef = (.slice bo m d) := hd 7 29 rfl (by kernel_rfl) (by decide)
      refine Does.call 106 #[(.slice bo m d)] (by go_simp) ?_
      exact filler_any _ _ _ t2 wx
    · intro ax wx hb hs hd
      have h10 : ax.tmps.getD 10 undef = (.slice po8 16 c8) := hs 10 (by kernel_rfl)
      refine Does.value (.slice po8 16 c8) ?_ rfl
      go_simp
    · intro ax wx hb hs hd
      have h25 : ax.tmps.getD 25 undef = (.slice ao n c) := hd 3 25 rfl (by kernel_rfl) (by decide)
      have h28 : ax.tmps.getD 28 undef = (.slice bo m d) := hd 6 28 rfl (by kernel_rfl) (by decide)
      have h31 : ax.tmps.getD 31 undef = (.slice po8 16 c8) := hd 9 31 rfl (by kernel_rfl) (by decide)
      obtain ⟨x1, n1, c1, h27, s27, q27⟩ : isS (fillL n) (ax.tmps.getD 27 undef) wx := hd 5 27 rfl (by kernel_rfl) (by decide)
      obtain ⟨x2, n2, c2, h30, s30, q30⟩ : isS (fillL m) (ax.tmps.getD 30 undef) wx := hd 8 30 rfl (by kernel_rfl) (by decide)
      exact Does.rows5 _ rfl _ _ _ _ _ _ _ _ _ _ _ _ _ _ _ _ _ _ _ _ (by simp only [List.map_toArray, List.map_cons, List.map_nil, Act.eval, h25, h27, h28, h30, h31]) ⟨H8.out.2.2.2.2.2.1.later hb (Nat.le_refl _), HX.out.2.2.1⟩ ⟨s27, q27⟩ ⟨H8.out.2.2.2.2.2.2.later hb (Nat.le_refl _), HX.out.2.2.2⟩ ⟨s30, q30⟩ ⟨H8.out.2.2.2.1.later hb (Nat.le_refl _), H8.out.2.2.2.2.1⟩
    · intro ax wx hb hs hd
      have h24 : ax.tmps.getD 24 undef = (.agg (u8s TK).toArray) := hd 2 24 rfl (by kernel_rfl) (by decide)
      obtain ⟨b, c', h32, s32⟩ : isP 5 [ms, fillL n, zs, fillL m, ends8 n m] (ax.tmps.getD 32 undef) wx := hd 10 32 rfl (by kernel_rfl) (by decide)
      refine Does.call 105 #[(.agg (u8s TK).toArray), .slice (some ⟨b, 0, none⟩) 5 c'] (by go_simp) ?_
      have q := tsum_any TK HB.out.2.2.2.1 HB.out.2.2.2.2.1 _ 5 c' _ wx s32 (by decide)
      rw [HB.out.2.2.2.2.2.2] at q
      refine q.mono ?_
      rintro e w' ⟨rfl, l⟩
      exact ⟨_, rfl, rfl, l⟩
  · intro wx hb
    refine @Ends.val _ _ _ _ _ _ _ _ _ (.slice (some ⟨G, 0, none⟩) 32 64) rfl ?_
    refine @Ends.val _ _ _ _ _ _ _ _ _ (.pointer (some ⟨G, 0, none⟩)) rfl ?_
    refine @Ends.val _ _ _ _ _ _ _ _ _ (.agg (u8s TK).toArray) rfl ?_
    refine @Ends.val _ _ _ _ _ _ _ _ _ (.slice ao n c) rfl ?_
    refine @Ends.val _ _ _ _ _ _ _ _ _ (.slice ao n c) rfl ?_
    refine @Ends.any _ _ _ _ _ _ _ _ _ (isS (fillL n)) (isS_later _) rfl ?_
    intro v5 p5
    refine @Ends.val _ _ _ _ _ _ _ _ _ (.slice bo m d) rfl ?_
    refine @Ends.val _ _ _ _ _ _ _ _ _ (.slice bo m d) rfl ?_
    refine @Ends.any _ _ _ _ _ _ _ _ _ (isS (fillL m)) (isS_later _) rfl ?_
    intro v8 p8
    refine @Ends.val _ _ _ _ _ _ _ _ _ (.slice po8 16 c8) rfl ?_
    refine @Ends.any _ _ _ _ _ _ _ _ _ (isP 5 [ms, fillL n, zs, fillL m, ends8 n m]) (isP_later _ _) rfl ?_
    intro v10 p10
    refine @Ends.val _ _ _ _ _ _ _ _ _ (.agg (u8s CL).toArray) rfl ?_
    refine @Ends.one _ _ _ _ _ _ _ ?_
    simp only [Act.put, List.setIfInBounds_toArray, List.set_cons_zero, List.set_cons_succ]
    have qT := H8.out.2.1
    refine last_store 164 (.tmp 8) (.tmp 33) rfl rfl _ rfl 164 _ (u8s CL) rfl (qT.later hb qT.lt) (by rw [u8s_length, HB.out.2.2.2.2.2.1]; rfl) (by rw [u8s_length, HB.out.2.2.2.2.2.1]; exact sizeTag) (u8s_one _) ?_
    intro w9 b9 s9 k9
    have L9 : Hid (Below w.heap.size w w9) := below_kept (below_chain H8.out.2.2.1 hb H8.out.2.2.1.size) k9 (below_chain H8.out.2.2.1 hb H8.out.2.2.1.size).size (fun j hj => by omega)
    clear k9 s9 hb
    go_wp2_with fail
    exact ret_blk rfl (w.heap.size + 1 + 1) (u8s CL) _ rfl b9 Tryz.underlying164 rfl (by rw [u8s_length, HB.out.2.2.2.2.2.1]; exact sizeTag) rfl ⟨rfl, L9.out⟩
end Go.Proofs.YtfhieacclifihaaGreat
namespace Go.Proofs.YtfhieacclifihaaGreat
open Go.RowKit
set_option linter.unusedVariables false
set_option linter.unusedSimpArgs false

set_option maxRecDepth 20000 in
set_option maxHeartbeats 1000000 in
theorem seal_any (key nonce : List Int) (n c m d : Nat) (ao bo : Option Addr) (ms zs : List Int) (hk : key.length = 32) (hno : nonce.length = 12) (hkb : Bytes key) (hnb : Bytes nonce) (hn : n ≤ 1048576) (hm : m ≤ 1048576) (w : World) (hx : Seen w ao n ms) (hy : Seen w bo m zs) (hc : n ≤ c) (hd : m ≤ d) :
    Calls Tryz.prog 81 #[.agg (u8s key).toArray, .agg (u8s nonce).toArray, .slice ao n c, .slice bo m d] w fun e w' => ∃ v, e = .returned (.tuple #[v, .int .i64 0]) ∧ w'.ownsRow w.heap.size 5 1 v (m + 16) ((boxL key nonce ms zs).map (Value.int .u8)) ∧ Below w.heap.size w w' := by
  have HX : Hid (Seen w ao n ms ∧ Seen w bo m zs ∧ n ≤ c ∧ m ≤ d) := ⟨hx, hy, hc, hd⟩
  have HS : Hid (key.length = 32 ∧ nonce.length = 12 ∧ Bytes key ∧ Bytes nonce) := ⟨hk, hno, hkb, hnb⟩
  obtain ⟨V, hV⟩ : ∃ C, coverL key nonce zs = C := ⟨_, rfl⟩
  obtain ⟨CL, hCL⟩ : ∃ C, codeL key nonce ms V = C := ⟨_, rfl⟩
  have HV : Hid (coverL key nonce zs = V ∧ V.length = m ∧ Bytes V ∧ codeL key nonce ms V = CL ∧ CL.length = 16 ∧ Bytes CL ∧ boxL key nonce ms zs = V ++ CL) :=
    ⟨hV, by rw [← hV, coverL_length, hy.len], by rw [← hV]; exact coverL_bytes _ _ hy.bytes, hCL, by rw [← hCL, codeL_length], by rw [← hCL]; exact codeL_bytes _ _ _ _, by rw [boxL, hV, hCL]⟩
  clear hx hy hk hno hkb hnb hc hd hV hCL
  have i1 : ¬ (1048576 : Int) < (n : Int) := by omega
  have i2 : ¬ (1048576 : Int) < (m : Int) := by omega
  go_enter Tryz.func81, Tryz.ntmps81
  go_wp2_with (first | (refine wpList_box_new rfl 41 _ rfl (u8s key) rfl ?_; intro w1 b1 s1 l1) | (refine wpList_box_new rfl 124 _ rfl (u8s nonce) rfl ?_; intro w2 b2 s2 l2) | (refine wpList_load_blk rfl 41 _ rfl _ rfl (u8s key) _ (by first | exact b1.later l2 (by omega)) Tryz.underlying41 rfl (by rw [u8s_length, HS.out.1]; exact sizeKey) ?_) | (refine wpList_load_blk rfl 124 _ rfl _ rfl (u8s nonce) _ (by first | exact b2 | (rw [← s1]; exact b2)) Tryz.underlying124 rfl (by rw [u8s_length, HS.out.2.1]; exact sizeNonce) ?_))
  refine (laidOver_any key nonce m d bo zs HS.out.1 HS.out.2.1 HS.out.2.2.1 HS.out.2.2.2 (by omega) _ (HX.out.2.1.later (below_chain l1 l2 (by omega)) (Nat.le_refl _))).mono ?_
  rintro e w3 ⟨v, rfl, o3, l3⟩
  have q3 := l3.size
  rw [HV.out.1] at o3
  have o3' := o3
  rw [← HV.out.2.1] at o3'
  obtain ⟨vo, cap, rfl, d3, hc3, _⟩ := own_data HV.out.2.2.1 (by rw [HV.out.2.1]; omega) o3'
  rw [HV.out.2.1] at d3 hc3 o3 ⊢
  have H3 : Hid (Blk w3 w.heap.size 41 (u8s key) ∧ Blk w3 w1.heap.size 124 (u8s nonce) ∧ Below w.heap.size w w3 ∧ Seen w3 vo m V ∧ m ≤ cap ∧ Seen w3 ao n ms ∧ w3.ownsRow w2.heap.size 5 1 (.slice vo m cap) m (V.map (Value.int .u8)) ∧ w.heap.size ≤ w2.heap.size ∧ w2.heap.size ≤ w3.heap.size) := by
    have L3 := below_chain (below_chain l1 l2 (by omega)) l3 (by omega)
    exact ⟨(b1.later l2 (by omega)).later l3 (by omega), b2.later l3 (by omega), L3, d3, hc3, HX.out.1.later L3 (Nat.le_refl _), o3, by omega, q3⟩
  clear o3 o3' d3 hc3 l3 b1 l1 b2 s2 l2 q3
  go_wp2_with (first | (refine wpList_load_blk rfl 41 _ rfl _ rfl (u8s key) _ H3.out.1 Tryz.underlying41 rfl (by rw [u8s_length, HS.out.1]; exact sizeKey) ?_) | (refine wpList_load_blk rfl 124 _ rfl _ rfl (u8s nonce) _ (by first | exact H3.out.2.1 | (rw [← s1]; exact H3.out.2.1)) Tryz.underlying124 rfl (by rw [u8s_length, HS.out.2.1]; exact sizeNonce) ?_))
  refine (codeOf_any key nonce n c m cap ao vo ms V HS.out.1 HS.out.2.1 HS.out.2.2.1 HS.out.2.2.2 _ H3.out.2.2.2.2.2.1 H3.out.2.2.2.1 HX.out.2.2.1 H3.out.2.2.2.2.1).mono ?_
  rintro e w4 ⟨rfl, l4⟩
  rw [HV.out.2.2.2.1]
  have q4 := l4.size
  go_wp2_with (first | (refine wpList_alloc_new rfl 164 rfl 16 _ zeroTag ?_; intro w5 b5 s5 l5) | (refine wpList_store_blk rfl 164 164 _ _ rfl _ rfl _ (u8s CL) rfl b5 (by rw [u8s_length, HV.out.2.2.2.2.1]; rfl) (by rw [u8s_length, HV.out.2.2.2.2.1]; exact sizeTag) (u8s_one _) ?_; intro w6 b6 s6 k6; have H6 : Hid (w6.ownsRow w2.heap.size 5 1 (.slice vo m cap) m (V.map (Value.int .u8)) ∧ Seen w6 (some ⟨w4.heap.size, 0, none⟩) 16 CL ∧ Below w.heap.size w w6 ∧ w2.heap.size ≤ w6.heap.size) := (by have L6 := below_kept (below_chain l4 l5 (by omega)) k6 (by omega) (fun j hj => by omega); have q := seen_blk b6 HV.out.2.2.2.2.2.1 (by rw [HV.out.2.2.2.2.1]; decide); rw [HV.out.2.2.2.2.1] at q; exact ⟨ownsRow_below H3.out.2.2.2.2.2.2.1 L6, q, below_chain H3.out.2.2.1 L6 H3.out.2.2.1.size, (by have := H3.out.2.2.2.2.2.2.2.2; omega)⟩)) | (at_builtin; refine wpList_append_seen rfl _ _ rfl w2.heap.size (.slice vo m cap) m _ rfl H6.out.1 (some ⟨w4.heap.size, 0, none⟩) 16 16 CL rfl H6.out.2.1 (fun h => by cases h) (by omega) H6.out.2.2.2 ?_; intro v7 w7 o7 g7))
  go_ret2
  refine ⟨_, rfl, ?_, ?_⟩
  · rw [HV.out.2.2.2.2.2.2, List.map_append]; exact ownsRow_base o7 H3.out.2.2.2.2.2.2.2.1
  · exact H6.out.2.2.1.grown g7 H6.out.2.2.1.size (fun j hj => Nat.le_trans H3.out.2.2.2.2.2.2.2.1 (H6.out.1.lt j hj).1)
set_option maxRecDepth 20000 in
set_option maxHeartbeats 1000000 in
theorem seal_bad (key nonce : List Int) (n c m d : Nat) (ao bo : Option Addr) (hn : n ≤ 140737488355328) (hm : m ≤ 140737488355328) (hb : 1048576 < n ∨ 1048576 < m) (w : World) :
    Calls Tryz.prog 81 #[.agg (u8s key).toArray, .agg (u8s nonce).toArray, .slice ao n c, .slice bo m d] w fun e w' => e = .returned (.tuple #[.slice none 0 0, .int .i64 3]) ∧ Below w.heap.size w w' := by
  by_cases h1 : 1048576 < n
  · have i1 : (1048576 : Int) < (n : Int) := by omega
    go_enter Tryz.func81, Tryz.ntmps81
    go_wp2_with (first | (refine wpList_box_new rfl 41 _ rfl (u8s key) rfl ?_; intro w1 b1 s1 l1) | (refine wpList_box_new rfl 124 _ rfl (u8s nonce) rfl ?_; intro w2 b2 s2 l2))
    go_ret2
    exact ⟨rfl, below_chain l1 l2 (by omega)⟩
  · have i1 : ¬ (1048576 : Int) < (n : Int) := by omega
    have i2 : (1048576 : Int) < (m : Int) := by omega
    go_enter Tryz.func81, Tryz.ntmps81
    go_wp2_with (first | (refine wpList_box_new rfl 41 _ rfl (u8s key) rfl ?_; intro w1 b1 s1 l1) | (refine wpList_box_new rfl 124 _ rfl (u8s nonce) rfl ?_; intro w2 b2 s2 l2))
    go_ret2
    exact ⟨rfl, below_chain l1 l2 (by omega)⟩
/-- What checkBox says. -/
def boxE (n m : Nat) : Int := if m < 16 then 4 else if 1048576 < n ∨ 1048592 < m then 3 else 0
theorem checkBox_any (ao bo : Option Addr) (n c m d : Nat) (hn : n ≤ 140737488355328) (hm : m ≤ 140737488355328) (w : World) :
    Calls Tryz.prog 96 #[.slice ao n c, .slice bo m d] w fun e w' => e = .returned (.int .i64 (boxE n m)) ∧ w = w' := by
  unfold boxE
  by_cases h1 : m < 16
  · rw [if_pos h1]
    have i1 : (m : Int) < 16 := by omega
    go_enter Tryz.func96, Tryz.ntmps96
    go_wp2
    go_ret
    exact ⟨rfl, rfl⟩
  · rw [if_neg h1]
    have i1 : ¬ (m : Int) < 16 := by omega
    by_cases h2 : 1048576 < n
    · rw [if_pos (.inl h2)]
      have i2 : (1048576 : Int) < (n : Int) := by omega
      go_enter Tryz.func96, Tryz.ntmps96
      go_wp2
      go_ret
      exact ⟨rfl, rfl⟩
    · have i2 : ¬ (1048576 : Int) < (n : Int) := by omega
      by_cases h3 : 1048592 < m
      · rw [if_pos (.inr h3)]
        have i3 : (1048592 : Int) < (m : Int) := by omega
        go_enter Tryz.func96, Tryz.ntmps96
        go_wp2
        go_ret
        exact ⟨rfl, rfl⟩
      · rw [if_neg (by omega)]
        have i3 : ¬ (1048592 : Int) < (m : Int) := by omega
        go_enter Tryz.func96, Tryz.ntmps96
        go_wp2
        go_ret
        exact ⟨rfl, rfl⟩
end Go.Proofs.YtfhieacclifihaaGreat
namespace Go.Proofs.YtfhieacclifihaaGreat
open Go.RowKit
set_option linter.unusedVariables false
set_option linter.unusedSimpArgs false

theorem zero_any (x : Int) (hx : Word x) (w : World) :
    Calls Tryz.prog 125 #[.int .u64 x] w fun e w' => e = .returned (.int .u64 (mk (x == 0))) ∧ w' = w := by
  have hb : Word (bits .or .u64 x (IntKind.u64.wrap (-x)) / 9223372036854775808) := by rw [top_code x hx]; split <;> decide
  have H : Hid (bits .xor .u64 IntKind.u64.max (mk (bits .or .u64 x (IntKind.u64.wrap (-x)) / 9223372036854775808 % 2 == 1)) = mk (x == 0)) := by
    show _ = _
    rw [not_mk, top_code x hx]
    by_cases h : x = 0
    · simp [h]
    · have h' : (x == 0) = false := by simpa using h
      simp [h, h']
  go_enter Tryz.func125, Tryz.ntmps125
  go_wp2_with (go_at_call 138; refine (bit_any _ hb _).mono ?_; rintro e w' ⟨rfl, rfl⟩)
  go_ret
  exact ⟨ret_int H.out, rfl⟩

set_option maxHeartbeats 1000000 in
theorem msame_any (ao bo : Option Addr) (n n' c c' : Nat) (xs ys : List Int) (w : World) (hx : Seen w ao n xs) (hy : Seen w bo n' ys) :
    Calls Tryz.prog 111 #[.slice ao n c, .slice bo n' c'] w fun e w' => e = .returned (.int .u64 (mk (decide (xs = ys)))) ∧ ∃ q, w' = w.drewN q := by
  have t1 := hx.top
  have t2 := hy.top
  by_cases hne : n = n'
  · subst hne
    have HL : Hid (xs.length = n ∧ ys.length = n) := ⟨hx.len, hy.len⟩
    go_enter Tryz.func111, Tryz.ntmps111
    go_wp2
    go_loopw [5, 14] (fun u i wr => ∃ (k : Nat) (U : Int), k ≤ n ∧ i = .int .i64 k ∧ u = .int .u8 U ∧ (0 ≤ U ∧ U < 256) ∧ (U = 0 ↔ xs.take k = ys.take k) ∧ ∃ q, wr = w.drewN q) (fun _ i _ => n - (intOf i).toNat)
    case atStart => exact ⟨0, 0, Nat.zero_le _, rfl, rfl, by decide, by simp, 0, rfl⟩
    case round =>
      obtain ⟨k, U, hk, rfl, rfl, bU, hs, q, rfl⟩ := hrel
      by_cases hlt : k < n
      · obtain ⟨b, o, rfl, hb, hc⟩ := hx.cells (by omega)
        obtain ⟨b', o', rfl, hb', hc'⟩ := hy.cells (by omega)
        have c1 := hc k hlt
        have c2 := hc' k hlt
        have l1 : k < xs.length := by have := HL.out.1; omega
        have l2 : k < ys.length := by have := HL.out.2; omega
        have HT := mtake_same_succ xs ys k l1 l2
        have bX := hx.bytes.at k l1
        have bY := hy.bytes.at k l2
        obtain ⟨X, hX⟩ : ∃ X, xs.getD k 0 = X := ⟨_, rfl⟩
        obtain ⟨Y, hY⟩ : ∃ Y, ys.getD k 0 = Y := ⟨_, rfl⟩
        rw [hX] at c1 HT bX
        rw [hY] at c2 HT bY
        have hO := orxor_bd U X Y bU bX bY
        have HO : Hid _ := hO.1
        have HI : Hid (bits .or .u8 U (bits .xor .u8 X Y) = 0 ↔ xs.take (k + 1) = ys.take (k + 1)) := by
          show _ ↔ _
          rw [hO.2, hs, HT]
        have i1 : (0 : Int) ≤ (k : Int) := by omega
        have i2 : (k : Int) < (n : Int) := by omega
        clear hX hY hc hc' hx hy hs HT hb hb' hO l1 l2
        go_wp2
        go_quiet (fail)
        go_wp2
        go_roundw
        case rel => exact ⟨k + 1, _, by omega, by go_num, rfl, HO.out, HI.out, _, rfl⟩
        case measure => simp [intOf]; omega
      · have HE : Hid ((U == 0) = decide (xs = ys)) := by
          show _ = _
          have e1 : xs.take k = xs := List.take_of_length_le (by have := HL.out.1; omega)
          have e2 : ys.take k = ys := List.take_of_length_le (by have := HL.out.2; omega)
          rw [e1, e2] at hs
          rw [Bool.eq_iff_iff]; simp [hs]
        have wU : Word U := ⟨by omega, by omega⟩
        clear hs
        go_wp2_with (go_at_call 125; refine (zero_any _ wU _).mono ?_; rintro e w2 ⟨rfl, hw2⟩; have hw3 := hw2.symm; subst hw3)
        go_ret
        exact ⟨ret_int (by rw [HE.out]), _, rfl⟩
  · have h : ((n : Int) != (n' : Int)) = true := by simp; omega
    have HN : Hid (decide (xs = ys) = false) := by
      show _ = _
      apply decide_eq_false
      intro h
      exact hne (by rw [← hx.len, ← hy.len, h])
    go_enter Tryz.func111, Tryz.ntmps111
    go_wp2
    go_ret
    exact ⟨ret_int (by rw [HN.out, mk_false]), 0, rfl⟩
end Go.Proofs.YtfhieacclifihaaGreat
namespace Go.Proofs.YtfhieacclifihaaGreat
open Go.RowKit
set_option linter.unusedVariables false
set_option linter.unusedSimpArgs false

/-- A value that owns these bytes in new memory. -/
def isO (base n : Nat) (zs : List Int) (v : Value) (w : World) : Prop := w.ownsRow base 5 1 v n (zs.map (Value.int .u8))
theorem isO_later (base n : Nat) (zs : List Int) : ∀ v w w', Below w.heap.size w w' → isO base n zs v w → isO base n zs v w' := fun _ _ _ hb h => ownsRow_below h hb
theorem Blk.all {w : World} {g : Nat} {t : TypeId} {vs : List Value} (h : Blk w g t vs) : w.rangeAt g 0 vs := fun j v hv => by rw [Nat.zero_add, h.cell]; exact hv
set_option maxRecDepth 20000 in
set_option maxHeartbeats 1000000 in
theorem uncovered_any (key nonce : List Int) (n c m d : Nat) (ao bo : Option Addr) (ms zs : List Int) (hk : key.length = 32) (hno : nonce.length = 12) (hkb : Bytes key) (hnb : Bytes nonce) (h16 : 16 ≤ m) (hm : m ≤ 1048592) (w : World) (hx : Seen w ao n ms) (hy : Seen w bo m zs) (hc : n ≤ c) (hd : m ≤ d) :
    Calls Tryz.prog 97 #[.agg (u8s key).toArray, .agg (u8s nonce).toArray, .slice ao n c, .slice bo m d] w fun e w' => ∃ v, e = .returned (.tuple #[v, .int .u64 (mk (opensL key nonce ms zs))]) ∧ isO w.heap.size (m - 16) (textL key nonce zs) v w' ∧ Below w.heap.size w w' := by
  obtain ⟨M, rfl⟩ : ∃ M, m = M + 16 := ⟨m - 16, by omega⟩
  have hM : M ≤ 1048576 := by omega
  obtain ⟨CL, hCL⟩ : ∃ C, codeL key nonce ms (zs.take M) = C := ⟨_, rfl⟩
  obtain ⟨O, hO⟩ : ∃ b, opensL key nonce ms zs = b := ⟨_, rfl⟩
  obtain ⟨X, hX⟩ : ∃ X, textL key nonce zs = X := ⟨_, rfl⟩
  rw [hO, hX, Nat.add_sub_cancel]
  have hl := hy.len
  have SX : Hid (∀ W, Below w.heap.size w W → Seen W ao n ms ∧ Seen W (subA bo 0 d) M (zs.take M) ∧ Seen W (subA bo M d) 16 (zs.drop M)) := fun W hW => by
    have g1 := hy.sub 0 M d (Nat.zero_le _) (by omega) hd
    have g2 := hy.sub M (M + 16) d (by omega) (Nat.le_refl _) hd
    rw [Nat.sub_zero, List.drop_zero] at g1
    rw [Nat.add_sub_cancel_left, List.take_of_length_le (by rw [List.length_drop, hl]; omega)] at g2
    exact ⟨hx.later hW (Nat.le_refl _), g1.later hW (Nat.le_refl _), g2.later hW (Nat.le_refl _)⟩
  have HS : Hid (key.length = 32 ∧ nonce.length = 12 ∧ Bytes key ∧ Bytes nonce ∧ n ≤ c ∧ M ≤ d) := ⟨hk, hno, hkb, hnb, hc, by omega⟩
  have HV : Hid (codeL key nonce ms (zs.take M) = CL ∧ CL.length = 16 ∧ Bytes CL ∧ decide (CL = zs.drop M) = O ∧ coverL key nonce (zs.take M) = X) := by
    have e : zs.length - 16 = M := by rw [hl]; omega
    refine ⟨hCL, by rw [← hCL, codeL_length], by rw [← hCL]; exact codeL_bytes _ _ _ _, ?_, ?_⟩
    · rw [← hO, opensL, e, hCL]
    · rw [← hX, textL, e]
  have hsh : ∀ W, (Instr.sliceAt 66 (.slice bo (M + 16) d) none (some (.int .i64 (M : Int))) none).run Tryz.prog W = .ok (.slice (subA bo 0 d) M d) W := fun W => sl_h bo (M + 16) d M (by omega) W
  have hsl : ∀ W, (Instr.sliceAt 66 (.slice bo (M + 16) d) (some (.int .i64 (M : Int))) none none).run Tryz.prog W = .ok (.slice (subA bo M d) 16 (d - M)) W := fun W => by
    have := sl_l bo (M + 16) d M (by omega) W
    rwa [Nat.add_sub_cancel_left] at this
  have a1 : ((M + 16 : Nat) : Int) - 16 = (M : Int) := by omega
  have a2 : (M : Int) + 16 - 16 = (M : Int) := by omega
  have HD : Hid (M + 16 ≤ d) := hd
  clear hx hy hk hno hkb hnb hc hd hCL hO hX hl
  go_enter Tryz.func97, Tryz.ntmps97
  go_wp2_with (first | (refine wpList_box_new rfl 41 _ rfl (u8s key) rfl ?_; intro w1 b1 s1 l1) | (refine wpList_box_new rfl 124 _ rfl (u8s nonce) rfl ?_; intro w2 b2 s2 l2))
  have H2 : Hid (Blk w2 w.heap.size 41 (u8s key) ∧ Blk w2 (w.heap.size + 1) 124 (u8s nonce) ∧ Below w.heap.size w w2) := by
    rw [s1] at b2
    exact ⟨b1.later l2 (by omega), b2, below_chain l1 l2 (by omega)⟩
  clear b1 s1 l1 b2 s2 l2
  try simp only [Act.put, List.setIfInBounds_toArray, List.set_cons_zero, List.set_cons_succ]
  refine region_inv [.val (.agg (u8s key).toArray), .val (.agg (u8s nonce).toArray), .val (.slice ao n c), .val (.slice bo (M + 16) d), .val (.int .i64 (M : Int)), .val (.slice (subA bo 0 d) M d), .val (.agg (u8s CL).toArray), .blk 164 (u8s (zs0 16))] (by kernel_rfl) (by kernel_rfl) (by kernel_rfl) ?_ ?_
  · refine Steps'.cons ?_ (Steps'.cons ?_ (Steps'.cons ?_ (Steps'.cons ?_ (Steps'.cons ?_ (Steps'.cons ?_ (Steps'.cons ?_ (Steps'.cons ?_ (Steps'.one _ _ _ _ _ _ _))))))))
    · intro ax wx hb hs hd
      have h4 : ax.tmps.getD 4 undef = (.pointer (some ⟨w.heap.size, 0, none⟩)) := hs 4 (by kernel_rfl)
      exact Does.load 41 (.tmp 4) rfl w.heap.size 0 h4 (u8s key) _ ((H2.out.1.later hb H2.out.1.lt).all) Tryz.underlying41 rfl (by rw [u8s_length, HS.out.1]; exact sizeKey)
    · intro ax wx hb hs hd
      have h5 : ax.tmps.getD 5 undef = (.pointer (some ⟨(w.heap.size + 1), 0, none⟩)) := hs 5 (by kernel_rfl)
      exact Does.load 124 (.tmp 5) rfl (w.heap.size + 1) 0 h5 (u8s nonce) _ ((H2.out.2.1.later hb H2.out.2.1.lt).all) Tryz.underlying124 rfl (by rw [u8s_length, HS.out.2.1]; exact sizeNonce)
    · intro ax wx hb hs hd
      have h2 : ax.tmps.getD 2 undef = (.slice ao n c) := hs 2 (by kernel_rfl)
      refine Does.value (.slice ao n c) ?_ rfl
      go_simp
    · intro ax wx hb hs hd
      have h3 : ax.tmps.getD 3 undef = (.slice bo (M + 16) d) := hs 3 (by kernel_rfl)
      refine Does.value (.slice bo (M + 16) d) ?_ rfl
      go_simp
    · intro ax wx hb hs hd
      have h10 : ax.tmps.getD 10 undef = (.int .i64 (M : Int)) := hs 10 (by kernel_rfl)
      refine Does.value (.int .i64 (M : Int)) ?_ rfl
      go_simp
    · intro ax wx hb hs hd
      have h18 : ax.tmps.getD 18 undef = (.slice bo (M + 16) d) := hd 3 18 rfl (by kernel_rfl) (by decide)
      have h19 : ax.tmps.getD 19 undef = (.int .i64 (M : Int)) := hd 4 19 rfl (by kernel_rfl) (by decide)
      refine Does.value (.slice (subA bo 0 d) M d) ?_ rfl
      go_simp
    · intro ax wx hb hs hd
      have h15 : ax.tmps.getD 15 undef = (.agg (u8s key).toArray) := hd 0 15 rfl (by kernel_rfl) (by decide)
      have h16 : ax.tmps.getD 16 undef = (.agg (u8s nonce).toArray) := hd 1 16 rfl (by kernel_rfl) (by decide)
      have h17 : ax.tmps.getD 17 undef = (.slice ao n c) := hd 2 17 rfl (by kernel_rfl) (by decide)
      have h20 : ax.tmps.getD 20 undef = (.slice (subA bo 0 d) M d) := hd 5 20 rfl (by kernel_rfl) (by decide)
      refine Does.call 89 #[(.agg (u8s key).toArray), (.agg (u8s nonce).toArray), (.slice ao n c), (.slice (subA bo 0 d) M d)] (by go_simp) ?_
      have L := below_chain H2.out.2.2 hb H2.out.2.2.size
      have q := codeOf_any key nonce n c M d ao (subA bo 0 d) ms _ HS.out.1 HS.out.2.1 HS.out.2.2.1 HS.out.2.2.2.1 wx (SX.out wx L).1 (SX.out wx L).2.1 HS.out.2.2.2.2.1 HS.out.2.2.2.2.2
      rw [HV.out.1] at q
      refine q.mono ?_
      rintro e w' ⟨rfl, l⟩
      exact ⟨_, rfl, rfl, l⟩
    · intro ax wx hb hs hd
      exact Does.alloc 164 rfl 16 _ zeroTag hb.size
  · intro wx hb
    refine @Ends.val _ _ _ _ _ _ _ _ _ (.agg (u8s key).toArray) rfl ?_
    refine @Ends.val _ _ _ _ _ _ _ _ _ (.agg (u8s nonce).toArray) rfl ?_
    refine @Ends.val _ _ _ _ _ _ _ _ _ (.slice ao n c) rfl ?_
    refine @Ends.val _ _ _ _ _ _ _ _ _ (.slice bo (M + 16) d) rfl ?_
    refine @Ends.val _ _ _ _ _ _ _ _ _ (.int .i64 (M : Int)) rfl ?_
    refine @Ends.val _ _ _ _ _ _ _ _ _ (.slice (subA bo 0 d) M d) rfl ?_
    refine @Ends.val _ _ _ _ _ _ _ _ _ (.agg (u8s CL).toArray) rfl ?_
    refine @Ends.blk _ _ _ _ _ _ _ _ _ 164 (u8s (zs0 16)) rfl ?_
    intro g7 hg7 bg7
    refine @Ends.one _ _ _ _ _ _ _ ?_
    simp only [Act.put, List.setIfInBounds_toArray, List.set_cons_zero, List.set_cons_succ]
    refine last_store 164 (.tmp 11) (.tmp 21) rfl rfl g7 rfl 164 _ (u8s CL) rfl bg7 (by rw [u8s_length, HV.out.2.1]; rfl) (by rw [u8s_length, HV.out.2.1]; exact sizeTag) (u8s_one _) ?_
    intro w3 b3 s3 k3
    have H3 : Hid (Blk w3 w.heap.size 41 (u8s key) ∧ Blk w3 (w.heap.size + 1) 124 (u8s nonce) ∧ Below w.heap.size w w3 ∧ Blk w3 g7 164 (u8s CL)) := by
      have L := below_kept hb k3 hb.size (fun j hj => by omega)
      exact ⟨H2.out.1.later L H2.out.1.lt, H2.out.2.1.later L H2.out.2.1.lt, below_chain H2.out.2.2 L H2.out.2.2.size, b3⟩
    clear hb hg7 bg7 b3 s3 k3 H2
    go_wp2_with fail
    try simp only [Act.put, List.setIfInBounds_toArray, List.set_cons_zero, List.set_cons_succ]
    refine region_inv [.val (.agg (u8s key).toArray), .val (.agg (u8s nonce).toArray), .val (.slice bo (M + 16) d), .val (.int .i64 (M : Int)), .val (.slice (subA bo 0 d) M d), .any (isO w.heap.size M X) (isO_later _ _ _), .val (.slice (some ⟨g7, 0, none⟩) 16 16), .val (.slice bo (M + 16) d), .val (.int .i64 (M : Int)), .val (.slice (subA bo M d) 16 (d - M)), .val (.int .u64 (mk O)), .any (isO w.heap.size M X) (isO_later _ _ _)] (by kernel_rfl) (by kernel_rfl) (by kernel_rfl) ?_ ?_
    · refine Steps'.cons ?_ (Steps'.cons ?_ (Steps'.cons ?_ (Steps'.cons ?_ (Steps'.cons ?_ (Steps'.cons ?_ (Steps'.cons ?_ (Steps'.cons ?_ (Steps'.cons ?_ (Steps'.cons ?_ (Steps'.cons ?_ (Steps'.cons ?_ (Steps'.one _ _ _ _ _ _ _))))))))))))
      · intro ax wx hb hs hd
        have h4 : ax.tmps.getD 4 undef = (.pointer (some ⟨w.heap.size, 0, none⟩)) := hs 4 (by kernel_rfl)
        exact Does.load 41 (.tmp 4) rfl w.heap.size 0 h4 (u8s key) _ ((H3.out.1.later hb H3.out.1.lt).all) Tryz.underlying41 rfl (by rw [u8s_length, HS.out.1]; exact sizeKey)
      · intro ax wx hb hs hd
        have h5 : ax.tmps.getD 5 undef = (.pointer (some ⟨(w.heap.size + 1), 0, none⟩)) := hs 5 (by kernel_rfl)
        exact Does.load 124 (.tmp 5) rfl (w.heap.size + 1) 0 h5 (u8s nonce) _ ((H3.out.2.1.later hb H3.out.2.1.lt).all) Tryz.underlying124 rfl (by rw [u8s_length, HS.out.2.1]; exact sizeNonce)
      · intro ax wx hb hs hd
        have h3 : ax.tmps.getD 3 undef = (.slice bo (M + 16) d) := hs 3 (by kernel_rfl)
        refine Does.value (.slice bo (M + 16) d) ?_ rfl
        go_simp
      · intro ax wx hb hs hd
        have h10 : ax.tmps.getD 10 undef = (.int .i64 (M : Int)) := hs 10 (by kernel_rfl)
        refine Does.value (.int .i64 (M : Int)) ?_ rfl
        go_simp
      · intro ax wx hb hs hd
        have h24 : ax.tmps.getD 24 undef = (.slice bo (M + 16) d) := hd 2 24 rfl (by kernel_rfl) (by decide)
        have h25 : ax.tmps.getD 25 undef = (.int .i64 (M : Int)) := hd 3 25 rfl (by kernel_rfl) (by decide)
        refine Does.value (.slice (subA bo 0 d) M d) ?_ rfl
        go_simp
      · intro ax wx hb hs hd
        have h22 : ax.tmps.getD 22 undef = (.agg (u8s key).toArray) := hd 0 22 rfl (by kernel_rfl) (by decide)
        have h23 : ax.tmps.getD 23 undef = (.agg (u8s nonce).toArray) := hd 1 23 rfl (by kernel_rfl) (by decide)
        have h26 : ax.tmps.getD 26 undef = (.slice (subA bo 0 d) M d) := hd 4 26 rfl (by kernel_rfl) (by decide)
        refine Does.call 88 #[(.agg (u8s key).toArray), (.agg (u8s nonce).toArray), (.slice (subA bo 0 d) M d)] (by go_simp) ?_
        have L := below_chain H3.out.2.2.1 hb H3.out.2.2.1.size
        have q := laidOver_any key nonce M d (subA bo 0 d) _ HS.out.1 HS.out.2.1 HS.out.2.2.1 HS.out.2.2.2.1 (by omega) wx (SX.out wx L).2.1
        rw [HV.out.2.2.2.2] at q
        refine q.mono ?_
        rintro e w' ⟨v, rfl, o, l⟩
        exact ⟨_, rfl, ownsRow_base o L.size, l⟩
      · intro ax wx hb hs hd
        have h11 : ax.tmps.getD 11 undef = (.pointer (some ⟨g7, 0, none⟩)) := hs 11 (by kernel_rfl)
        refine Does.value (.slice (some ⟨g7, 0, none⟩) 16 16) ?_ rfl
        go_simp
      · intro ax wx hb hs hd
        have h3 : ax.tmps.getD 3 undef = (.slice bo (M + 16) d) := hs 3 (by kernel_rfl)
        refine Does.value (.slice bo (M + 16) d) ?_ rfl
        go_simp
      · intro ax wx hb hs hd
        have h10 : ax.tmps.getD 10 undef = (.int .i64 (M : Int)) := hs 10 (by kernel_rfl)
        refine Does.value (.int .i64 (M : Int)) ?_ rfl
        go_simp
      · intro ax wx hb hs hd
        have h29 : ax.tmps.getD 29 undef = (.slice bo (M + 16) d) := hd 7 29 rfl (by kernel_rfl) (by decide)
        have h30 : ax.tmps.getD 30 undef = (.int .i64 (M : Int)) := hd 8 30 rfl (by kernel_rfl) (by decide)
        refine Does.value (.slice (subA bo M d) 16 (d - M)) ?_ rfl
        go_simp
      · intro ax wx hb hs hd
        have h28 : ax.tmps.getD 28 undef = (.slice (some ⟨g7, 0, none⟩) 16 16) := hd 6 28 rfl (by kernel_rfl) (by decide)
        have h31 : ax.tmps.getD 31 undef = (.slice (subA bo M d) 16 (d - M)) := hd 9 31 rfl (by kernel_rfl) (by decide)
        refine Does.call 111 #[(.slice (some ⟨g7, 0, none⟩) 16 16), (.slice (subA bo M d) 16 (d - M))] (by go_simp) ?_
        have L := below_chain H3.out.2.2.1 hb H3.out.2.2.1.size
        have s1 := seen_blk (Blk.later H3.out.2.2.2 hb H3.out.2.2.2.lt) HV.out.2.2.1 (by rw [HV.out.2.1]; decide)
        rw [HV.out.2.1] at s1
        have q := msame_any _ _ 16 16 16 (d - M) CL _ wx s1 (SX.out wx L).2.2
        rw [HV.out.2.2.2.1] at q
        refine q.mono ?_
        rintro e w' ⟨rfl, q, rfl⟩
        exact ⟨_, rfl, rfl, below_dn (Below.refl _ _) q⟩
      · intro ax wx hb hs hd
        have h27 : isO w.heap.size M X (ax.tmps.getD 27 undef) wx := hd 5 27 rfl (by kernel_rfl) (by decide)
        exact Does.value (ax.tmps.getD 27 undef) rfl h27
    · intro wx hb
      refine @Ends.val _ _ _ _ _ _ _ _ _ (.agg (u8s key).toArray) rfl ?_
      refine @Ends.val _ _ _ _ _ _ _ _ _ (.agg (u8s nonce).toArray) rfl ?_
      refine @Ends.val _ _ _ _ _ _ _ _ _ (.slice bo (M + 16) d) rfl ?_
      refine @Ends.val _ _ _ _ _ _ _ _ _ (.int .i64 (M : Int)) rfl ?_
      refine @Ends.val _ _ _ _ _ _ _ _ _ (.slice (subA bo 0 d) M d) rfl ?_
      refine @Ends.any _ _ _ _ _ _ _ _ _ (isO w.heap.size M X) (isO_later _ _ _) rfl ?_
      intro v5 p5
      refine @Ends.val _ _ _ _ _ _ _ _ _ (.slice (some ⟨g7, 0, none⟩) 16 16) rfl ?_
      refine @Ends.val _ _ _ _ _ _ _ _ _ (.slice bo (M + 16) d) rfl ?_
      refine @Ends.val _ _ _ _ _ _ _ _ _ (.int .i64 (M : Int)) rfl ?_
      refine @Ends.val _ _ _ _ _ _ _ _ _ (.slice (subA bo M d) 16 (d - M)) rfl ?_
      refine @Ends.val _ _ _ _ _ _ _ _ _ (.int .u64 (mk O)) rfl ?_
      refine @Ends.any _ _ _ _ _ _ _ _ _ (isO w.heap.size M X) (isO_later _ _ _) rfl ?_
      intro v11 p11
      refine @Ends.one _ _ _ _ _ _ _ ?_
      simp only [Act.put, List.setIfInBounds_toArray, List.set_cons_zero, List.set_cons_succ]
      refine last_assign (.tmp 32) rfl (some 9) rfl _ rfl ?_
      simp only [Act.put, List.setIfInBounds_toArray, List.set_cons_zero, List.set_cons_succ]
      have HE : Hid (isO w.heap.size M X v11 wx ∧ Below w.heap.size w wx) := ⟨p11, below_chain H3.out.2.2.1 hb H3.out.2.2.1.size⟩
      clear hb p11 p5
      go_wp2_with fail
      go_ret2
      exact ⟨_, rfl, HE.out⟩
end Go.Proofs.YtfhieacclifihaaGreat
namespace Go.Proofs.YtfhieacclifihaaGreat
open Go.RowKit
set_option linter.unusedVariables false
set_option linter.unusedSimpArgs false

theorem boxE_ok {n m : Nat} (h16 : 16 ≤ m) (hm : m ≤ 1048592) (hn : n ≤ 1048576) : boxE n m = 0 := by
  unfold boxE
  rw [if_neg (by omega), if_neg (by omega)]
theorem clear_own {B n : Nat} {zs : List Int} {v : Value} {W : World} (h : isO B n zs v W) (hl : zs.length = n) : ∃ W', (∀ ty, (Builtin.clear_ #[66] ty #[v]).run Tryz.prog W = .ok (.tuple #[]) W') ∧ Kept (fun k => B ≤ k) W W' := by
  rcases own_len hl h with ⟨rfl, rfl⟩ | ⟨g, cap, rfl, hr, hg, _, _⟩
  · exact ⟨W, fun ty => by simp [Builtin.clear_, run_underlying Tryz.underlying66], Kept.refl _ _⟩
  · rcases Nat.eq_zero_or_pos n with rfl | h0
    · exact ⟨W, fun ty => by simp [Builtin.clear_, run_underlying Tryz.underlying66], Kept.refl _ _⟩
    · refine ⟨_, fun ty => Lib.run_clear_slice W 66 5 ty (.int .u8 0) Tryz.underlying66 (zero_of_info infoByte).1 rfl rfl g 0 n cap h0 (fun j hj => ?_) (fun j hj => ?_), (Kept.refl _ _).setCells hg _ _⟩
      · rw [Nat.zero_add, hr.cell j (by omega)]; rfl
      · exact hr.frozen _
set_option maxRecDepth 20000 in
set_option maxHeartbeats 1000000 in
theorem open_no (key nonce : List Int) (n c m d : Nat) (ao bo : Option Addr) (ms zs : List Int) (hk : key.length = 32) (hno : nonce.length = 12) (hkb : Bytes key) (hnb : Bytes nonce) (h16 : 16 ≤ m) (hm : m ≤ 1048592) (hn : n ≤ 1048576) (w : World) (hx : Seen w ao n ms) (hy : Seen w bo m zs) (hc : n ≤ c) (hd : m ≤ d) (hO : opensL key nonce ms zs = false) :
    Calls Tryz.prog 85 #[.agg (u8s key).toArray, .agg (u8s nonce).toArray, .slice ao n c, .slice bo m d] w fun e w' => e = .returned (.tuple #[.slice none 0 0, .int .i64 70]) ∧ Below w.heap.size w w' := by
  have HX : Hid (Seen w ao n ms ∧ Seen w bo m zs ∧ n ≤ c ∧ m ≤ d) := ⟨hx, hy, hc, hd⟩
  have HS : Hid (key.length = 32 ∧ nonce.length = 12 ∧ Bytes key ∧ Bytes nonce) := ⟨hk, hno, hkb, hnb⟩
  have t1 := hx.top
  have t2 := hy.top
  have hE := boxE_ok h16 hm hn
  have HL : Hid ((textL key nonce zs).length = m - 16) := by show _ = _; rw [textL_length, hy.len]
  clear hx hy hk hno hkb hnb hc hd
  go_enter Tryz.func85, Tryz.ntmps85
  go_wp2_with (first | (refine wpList_box_new rfl 41 _ rfl (u8s key) rfl ?_; intro w1 b1 s1 l1) | (refine wpList_box_new rfl 124 _ rfl (u8s nonce) rfl ?_; intro w2 b2 s2 l2))
  refine wp_scope_jumps 0 (fun a' w' => ∃ (T : Value) (u0 u1 u2 u3 u4 u5 u6 u7 u8 u9 u11 u13 u14 u15 u16 u17 u18 u19 u20 u21 u22 u23 u24 u25 u26 u27 u28 u29 u30 : Value), a' = { tmps := #[u0, u1, u2, u3, u4, u5, u6, u7, u8, u9, T, u11, .int .i64 70, u13, u14, u15, u16, u17, u18, u19, u20, u21, u22, u23, u24, u25, u26, u27, u28, u29, u30], defers := [] } ∧ ∃ W, (∀ ty, (Builtin.clear_ #[66] ty #[T]).run Tryz.prog w' = .ok (.tuple #[]) W) ∧ Below w.heap.size w W) (fun _ _ => 0) rfl ?_ ?_
  · go_wp2_with (first | (refine wpList_load_blk rfl 41 _ rfl _ rfl (u8s key) _ (by first | exact b1.later l2 (by omega)) Tryz.underlying41 rfl (by rw [u8s_length, HS.out.1]; exact sizeKey) ?_) | (refine wpList_load_blk rfl 124 _ rfl _ rfl (u8s nonce) _ (by first | exact b2 | (rw [← s1]; exact b2)) Tryz.underlying124 rfl (by rw [u8s_length, HS.out.2.1]; exact sizeNonce) ?_) | (go_at_call 96; refine (checkBox_any ao bo n c m d t1 t2 _).mono ?_; rintro e w' ⟨rfl, rfl⟩; rw [hE]) | (go_at_call 97; refine (uncovered_any key nonce n c m d ao bo ms zs HS.out.1 HS.out.2.1 HS.out.2.2.1 HS.out.2.2.2 h16 hm _ (HX.out.1.later (below_chain l1 l2 (by omega)) (Nat.le_refl _)) (HX.out.2.1.later (below_chain l1 l2 (by omega)) (Nat.le_refl _)) HX.out.2.2.1 HX.out.2.2.2).mono ?_; rintro e w3 ⟨v, rfl, o3, l3⟩; rw [hO]; have HO : Hid (isO w2.heap.size (m - 16) (textL key nonce zs) v w3 ∧ Below w.heap.size w w3 ∧ w.heap.size ≤ w2.heap.size) := ⟨o3, below_chain (below_chain l1 l2 (by omega)) l3 (by omega), by omega⟩; clear o3 l3))
    go_step3
    obtain ⟨W, hcl, hkp⟩ := clear_own HO.out.1 HL.out
    exact ⟨rfl, _, _, _, _, _, _, _, _, _, _, _, _, _, _, _, _, _, _, _, _, _, _, _, _, _, _, _, _, _, _, rfl, W, hcl, below_kept HO.out.2.1 hkp HO.out.2.1.size (fun j hj => by have := HO.out.2.2; omega)⟩
  · rintro a' w' ⟨T, u0, u1, u2, u3, u4, u5, u6, u7, u8, u9, u11, u13, u14, u15, u16, u17, u18, u19, u20, u21, u22, u23, u24, u25, u26, u27, u28, u29, u30, rfl, W, hcl, hbel⟩
    go_wp2_with fail
    try simp only [Exit.jump]
    go_ret2
    exact ⟨rfl, hbel⟩
set_option maxRecDepth 20000 in
set_option maxHeartbeats 1000000 in
theorem open_yes (key nonce : List Int) (n c m d : Nat) (ao bo : Option Addr) (ms zs : List Int) (hk : key.length = 32) (hno : nonce.length = 12) (hkb : Bytes key) (hnb : Bytes nonce) (h16 : 16 ≤ m) (hm : m ≤ 1048592) (hn : n ≤ 1048576) (w : World) (hx : Seen w ao n ms) (hy : Seen w bo m zs) (hc : n ≤ c) (hd : m ≤ d) (hO : opensL key nonce ms zs = true) :
    Calls Tryz.prog 85 #[.agg (u8s key).toArray, .agg (u8s nonce).toArray, .slice ao n c, .slice bo m d] w fun e w' => ∃ v, e = .returned (.tuple #[v, .int .i64 0]) ∧ isO w.heap.size (m - 16) (textL key nonce zs) v w' ∧ Below w.heap.size w w' := by
  have HX : Hid (Seen w ao n ms ∧ Seen w bo m zs ∧ n ≤ c ∧ m ≤ d) := ⟨hx, hy, hc, hd⟩
  have HS : Hid (key.length = 32 ∧ nonce.length = 12 ∧ Bytes key ∧ Bytes nonce) := ⟨hk, hno, hkb, hnb⟩
  have t1 := hx.top
  have t2 := hy.top
  have hE := boxE_ok h16 hm hn
  have HL : Hid ((textL key nonce zs).length = m - 16) := by show _ = _; rw [textL_length, hy.len]
  clear hx hy hk hno hkb hnb hc hd
  go_enter Tryz.func85, Tryz.ntmps85
  go_wp2_with (first | (refine wpList_box_new rfl 41 _ rfl (u8s key) rfl ?_; intro w1 b1 s1 l1) | (refine wpList_box_new rfl 124 _ rfl (u8s nonce) rfl ?_; intro w2 b2 s2 l2))
  go_step3
  go_wp2_with (first | (refine wpList_load_blk rfl 41 _ rfl _ rfl (u8s key) _ (by first | exact b1.later l2 (by omega)) Tryz.underlying41 rfl (by rw [u8s_length, HS.out.1]; exact sizeKey) ?_) | (refine wpList_load_blk rfl 124 _ rfl _ rfl (u8s nonce) _ (by first | exact b2 | (rw [← s1]; exact b2)) Tryz.underlying124 rfl (by rw [u8s_length, HS.out.2.1]; exact sizeNonce) ?_) | (go_at_call 96; refine (checkBox_any ao bo n c m d t1 t2 _).mono ?_; rintro e w' ⟨rfl, rfl⟩; rw [hE]) | (go_at_call 97; refine (uncovered_any key nonce n c m d ao bo ms zs HS.out.1 HS.out.2.1 HS.out.2.2.1 HS.out.2.2.2 h16 hm _ (HX.out.1.later (below_chain l1 l2 (by omega)) (Nat.le_refl _)) (HX.out.2.1.later (below_chain l1 l2 (by omega)) (Nat.le_refl _)) HX.out.2.2.1 HX.out.2.2.2).mono ?_; rintro e w3 ⟨v, rfl, o3, l3⟩; rw [hO]; have HO : Hid (isO w2.heap.size (m - 16) (textL key nonce zs) v w3 ∧ Below w.heap.size w w3 ∧ w.heap.size ≤ w2.heap.size) := ⟨o3, below_chain (below_chain l1 l2 (by omega)) l3 (by omega), by omega⟩; clear o3 l3))
  try rw [Exit.noGoto_ret]
  go_ret2
  exact ⟨_, rfl, ownsRow_base HO.out.1 HO.out.2.2, HO.out.2.1⟩
end Go.Proofs.YtfhieacclifihaaGreat
namespace Go.Proofs.YtfhieacclifihaaGreat
open Go.RowKit Go.Extern.Stop Go.Stop Go.Extern
set_option linter.unusedVariables false

theorem isTypeOf (v : Value) (w : World) : (Extern.ReflectliteType.typeOf #[.iface 24 v]).run Tryz.prog w = .ok (.iface 185 (.agg #[.pointer (some ⟨0, 24, none⟩)])) w := by kernel_rfl
/-- What the model answers to Comparable. -/
def cmpF : Array Value → Sem Value := Extern.ReflectliteType.method fun t => do Go.Extern.Rtype.noPackHeld "Comparable" t; pure (.bool (← typeInfo t).comparable)
theorem isComparable (w : World) : (cmpF #[.agg #[.pointer (some ⟨0, 24, none⟩)]]).run Tryz.prog w = .ok (.bool true) w := by kernel_rfl
theorem isMethodComparable (v : Value) (w : World) : (Go.method 401 185 v "Comparable").run Tryz.prog w = .ok (197, v) w := by kernel_rfl
theorem noIsE (v : Value) (xT : TypeId) (w : World) : (Instr.typeAssert (.iface 24 v) xT 187 true).run Tryz.prog w = .ok (.tuple #[.nilIface, .bool false]) w := run_typeAssert_lacksB Tryz.underlying187 (by kernel_rfl) (by kernel_rfl) v xT w
theorem noUnwrapE (v : Value) (xT : TypeId) (w : World) : (Instr.typeAssert (.iface 24 v) xT 190 true).run Tryz.prog w = .ok (.tuple #[.nilIface, .bool false]) w := run_typeAssert_lacksB Tryz.underlying190 (by kernel_rfl) (by kernel_rfl) v xT w
theorem noUnwrapsE (v : Value) (xT : TypeId) (w : World) : (Instr.typeAssert (.iface 24 v) xT 192 true).run Tryz.prog w = .ok (.tuple #[.nilIface, .bool false]) w := run_typeAssert_lacksB Tryz.underlying192 (by kernel_rfl) (by kernel_rfl) v xT w

/-- errors.Is of two numbers: are they the same? -/
theorem is_any (a : Int) (w : World) :
    Calls Tryz.prog 83 #[.iface 24 (.int .i64 a), .iface 24 (.int .i64 0)] w fun e w' => e = .returned (.bool (a == 0)) ∧ w' = w := by
  have h8 := @run_callFunc_extern Tryz.prog 90 _ Extern.ReflectliteType.typeOf Tryz.func90 (by kernel_rfl) (by kernel_rfl) (by kernel_rfl) (by kernel_rfl)
  have h32 := @run_callFunc_extern Tryz.prog 197 _ cmpF Tryz.func197 (by kernel_rfl) (by kernel_rfl) (by kernel_rfl) (by kernel_rfl)
  have tT := isTypeOf
  have cT := isComparable
  have mR := isMethodComparable
  have nE := noIsE
  have uE := noUnwrapE
  have vE := noUnwrapsE
  have heq := fun w => Go.Lib.run_eql_iface_int (P := Tryz.prog) w (t := 167) (tx := 24) (k := .i64) a 0 Tryz.underlying167 (by kernel_rfl) Tryz.underlying24
  by_cases h : a = 0
  · subst h
    have heq0 : ∀ w, (binOp .eql 167 (.iface 24 (.int .i64 0)) (.iface 24 (.int .i64 0))).run Tryz.prog w = .ok (.bool true) w := heq
    clear heq
    go_enter Tryz.func83, Tryz.ntmps83
    go_wp2
    refine wp_loop_rounds 1 ?_
    rw [rounds_succ]
    go_wp2
    go_ret
    exact ⟨rfl, rfl⟩
  · have hf : (a == 0) = false := by simpa using h
    rw [hf] at heq
    rw [hf]
    clear hf h
    go_enter Tryz.func83, Tryz.ntmps83
    go_wp2
    refine wp_loop_rounds 1 ?_
    rw [rounds_succ]
    go_wp2
    go_ret
    exact ⟨rfl, rfl⟩
end Go.Proofs.YtfhieacclifihaaGreat
namespace Go.Proofs.YtfhieacclifihaaGreat
open Go.RowKit
set_option linter.unusedVariables false
set_option linter.unusedSimpArgs false

theorem pzNonce : (Tryz.prog.info? 124).map (fun i => (i.zero, i.size)) = some (some (.agg (u8s (List.replicate 12 0)).toArray), 12) := by kernel_rfl
def U32 (x : Int) : Prop := 0 ≤ x ∧ x < 4294967296
/-- A place's cells. -/
def placeC (r c p q : Int) : List Value := [.int .u64 r, .int .u32 c, .int .u32 p, .int .u32 q]
def hdL (r c : Int) : List Int := leB 8 r ++ leB 4 c
def moL (p q : Int) : List Int := leB 4 p ++ leB 4 q
theorem hdL_length (r c : Int) : (hdL r c).length = 12 := by rw [hdL, List.length_append, leB_length, leB_length]
theorem moL_length (r c : Int) : (moL r c).length = 8 := by rw [moL, List.length_append, leB_length, leB_length]
theorem bytes_app' {a b : List Int} (h : Bytes a) (k : Bytes b) : Bytes (a ++ b) := fun z hz => (List.mem_append.1 hz).elim (h z) (k z)
theorem hdL_bytes (r c : Int) : Bytes (hdL r c) := bytes_app' (leB_bytes _ _) (leB_bytes _ _)
theorem moL_bytes (r c : Int) : Bytes (moL r c) := bytes_app' (leB_bytes _ _) (leB_bytes _ _)
/-- A pointer to bytes of the call's own. -/
def isPn (H : List Int) (v : Value) (w : World) : Prop := ∃ g, v = .pointer (some ⟨g, 0, none⟩) ∧ RowAt w g H
theorem isPn_later (H : List Int) : ∀ v w w', Below w.heap.size w w' → isPn H v w → isPn H v w' := fun _ _ _ hb ⟨g, h1, h2⟩ => ⟨g, h1, h2.block (hb.block g h2.lt)⟩
theorem Does.arrayAt {base : Nat} {E : Exp} {ρ : Operand → Value} {o : Oper} {w : World} (t : TypeId) (x : Operand) (ho : o.op = .sliceToArrayPointer t x) (v u : Value) (hx : ρ x = v) (hrun : (Instr.arrayAt t v).run Tryz.prog w = .ok u w) (hE : E.ok base u w) : Does base E ρ o w := by
  refine Does.value u ?_ hE
  unfold execOp
  simp only [ho, hx, Sem.run_bind, hrun, Sem.run_pure, Result.andThen_ok]
theorem at12 (g cap : Nat) (w : World) : (Instr.arrayAt 124 (.slice (some ⟨g, 0, none⟩) 12 cap)).run Tryz.prog w = .ok (.pointer (some ⟨g, 0, none⟩)) w := by kernel_rfl
theorem own_row {w : World} {base n : Nat} {v : Value} {zs : List Int} (hl : zs.length = n) (hn : 0 < n) (h : isO base n zs v w) : ∃ g cap, v = .slice (some ⟨g, 0, none⟩) n cap ∧ RowAt w g zs ∧ base ≤ g := by
  subst hl
  rcases own_cases h with ⟨_, h0⟩ | ⟨g, cap, rfl, hr, hg, _⟩
  · rw [h0] at hn; cases hn
  · exact ⟨g, cap, rfl, hr, hg⟩
theorem range_row {w : World} {g : Nat} {zs : List Int} (h : RowAt w g zs) : w.rangeAt g 0 (u8s zs) := fun j u hj => by
  obtain ⟨hj', e⟩ := List.getElem?_eq_some_iff.1 hj
  rw [u8s_length] at hj'
  rw [Nat.zero_add, h.cell j hj', ← e]
  simp [u8s, List.getD, hj']
theorem put64_own (r : Int) (hr : Word r) (W : World) : Calls Tryz.prog 87 #[.slice none 0 0, .int .u64 r] W fun e w' => ∃ v, e = .returned v ∧ isO W.heap.size 8 (leB 8 r) v w' ∧ Below W.heap.size W w' := by
  have h := put_64 none 0 0 [] r W (Seen.empty _ _) (fun _ => rfl) (by decide) hr
  rwa [List.nil_append, Nat.zero_add] at h
theorem put32_own (r : Int) (hr : U32 r) (W : World) : Calls Tryz.prog 86 #[.slice none 0 0, .int .u32 r] W fun e w' => ∃ v, e = .returned v ∧ isO W.heap.size 4 (leB 4 r) v w' ∧ Below W.heap.size W w' := by
  have h := put_32 none 0 0 [] r W (Seen.empty _ _) (fun _ => rfl) (by decide) hr
  rwa [List.nil_append, Nat.zero_add] at h
theorem put32_on (v : Value) (B n : Nat) (zs : List Int) (hn : zs.length = n) (hb : Bytes zs) (ht : n ≤ 100) (r : Int) (hr : U32 r) (W : World) (o : isO B n zs v W) : Calls Tryz.prog 86 #[v, .int .u32 r] W fun e w' => ∃ v, e = .returned v ∧ isO W.heap.size (n + 4) (zs ++ leB 4 r) v w' ∧ Below W.heap.size W w' := by
  subst hn
  obtain ⟨vo, cap, rfl, h1, h2, h3, _⟩ := own_data hb (by omega) o
  exact put_32 vo _ cap zs r W h1 h3 (by omega) hr

set_option maxRecDepth 20000 in
set_option maxHeartbeats 1000000 in
theorem headOf_any (r c p q : Int) (hr : Word r) (hc : U32 c) (w : World) :
    Calls Tryz.prog 80 #[.agg (placeC r c p q).toArray] w fun e w' => e = .returned (.agg (u8s (hdL r c)).toArray) ∧ Below w.heap.size w w' := by
  have HR : Hid (Word r ∧ U32 c) := ⟨hr, hc⟩
  obtain ⟨H, hH⟩ : ∃ H, hdL r c = H := ⟨_, rfl⟩
  have HH : Hid (leB 8 r ++ leB 4 c = H ∧ H.length = 12) := ⟨hH, by rw [← hH]; exact hdL_length r c⟩
  rw [hH]
  clear hr hc hH
  go_enter Tryz.func80, Tryz.ntmps80
  go_wp2_with (first | (refine wpList_box_new rfl 150 _ rfl (placeC r c p q) rfl ?_; intro w1 b1 s1 l1) | (refine wpList_alloc_new rfl 124 rfl 12 _ pzNonce ?_; intro w2 b2 s2 l2))
  have V : Hid (Below w.heap.size w w2 ∧ Blk w2 w.heap.size 150 (placeC r c p q) ∧ Blk w2 w1.heap.size 124 (u8s (List.replicate 12 0)) ∧ w.heap.size ≤ w1.heap.size) := ⟨below_chain l1 l2 (by omega), b1.later l2 (by omega), b2, by omega⟩
  clear b1 s2 l1 b2 l2 s1
  refine region_inv [.val (.pointer (some ⟨w.heap.size, 0, none⟩)), .val (.int .u64 r), .any (isO w.heap.size 8 (leB 8 r)) (isO_later _ _ _), .val (.pointer (some ⟨w.heap.size, 1, none⟩)), .val (.int .u32 c), .any (isO w.heap.size 12 H) (isO_later _ _ _), .any (isPn H) (isPn_later H), .val (.agg (u8s H).toArray)] (by kernel_rfl) (by kernel_rfl) (by kernel_rfl) ?_ ?_
  · refine Steps'.cons ?_ (Steps'.cons ?_ (Steps'.cons ?_ (Steps'.cons ?_ (Steps'.cons ?_ (Steps'.cons ?_ (Steps'.cons ?_ (Steps'.cons ?_ (Steps'.one _ _ _ _ _ _ _))))))))
    · intro ax wx hb hs hd
      have h1 : ax.tmps.getD 1 undef = (.pointer (some ⟨w.heap.size, 0, none⟩)) := hs 1 (by kernel_rfl)
      refine Does.value (.pointer (some ⟨w.heap.size, 0, none⟩)) ?_ rfl
      clear hs hd
      go_simp
    · intro ax wx hb hs hd
      have h3 : ax.tmps.getD 3 undef = (.pointer (some ⟨w.heap.size, 0, none⟩)) := hd 0 3 rfl (by kernel_rfl) (by decide)
      have cx : wx.cell? ⟨w.heap.size, 0, none⟩ = some (.int .u64 r) := (V.out.2.1.later hb V.out.2.1.lt).cell 0
      refine Does.value (.int .u64 r) ?_ rfl
      clear hs hd
      go_simp
    · intro ax wx hb hs hd
      have h4 : ax.tmps.getD 4 undef = (.int .u64 r) := hd 1 4 rfl (by kernel_rfl) (by decide)
      refine Does.call 87 #[.slice none 0 0, .int .u64 r] (by clear hs hd; go_simp) ?_
      refine (put64_own r HR.out.1 wx).mono ?_
      rintro e w' ⟨v, rfl, o, l⟩
      exact ⟨_, rfl, ownsRow_base o (by have := hb.size; have := V.out.1.size; omega), l⟩
    · intro ax wx hb hs hd
      have h1 : ax.tmps.getD 1 undef = (.pointer (some ⟨w.heap.size, 0, none⟩)) := hs 1 (by kernel_rfl)
      refine Does.value (.pointer (some ⟨w.heap.size, 1, none⟩)) ?_ rfl
      clear hs hd
      go_simp
    · intro ax wx hb hs hd
      have h6 : ax.tmps.getD 6 undef = (.pointer (some ⟨w.heap.size, 1, none⟩)) := hd 3 6 rfl (by kernel_rfl) (by decide)
      have cx : wx.cell? ⟨w.heap.size, 1, none⟩ = some (.int .u32 c) := (V.out.2.1.later hb V.out.2.1.lt).cell 1
      refine Does.value (.int .u32 c) ?_ rfl
      clear hs hd
      go_simp
    · intro ax wx hb hs hd
      have h7 : ax.tmps.getD 7 undef = (.int .u32 c) := hd 4 7 rfl (by kernel_rfl) (by decide)
      have p5 : isO w.heap.size 8 (leB 8 r) (ax.tmps.getD 5 undef) wx := hd 2 5 rfl (by kernel_rfl) (by decide)
      obtain ⟨v5, h5⟩ : ∃ v, ax.tmps.getD 5 undef = v := ⟨_, rfl⟩
      rw [h5] at p5
      refine Does.call 86 #[v5, .int .u32 c] (by clear hs hd; go_simp) ?_
      refine (put32_on v5 _ 8 (leB 8 r) (leB_length _ _) (leB_bytes _ _) (by decide) c HR.out.2 wx p5).mono ?_
      rintro e w' ⟨v, rfl, o, l⟩
      rw [HH.out.1] at o
      exact ⟨_, rfl, ownsRow_base o (by have := hb.size; have := V.out.1.size; omega), l⟩
    · intro ax wx hb hs hd
      have p8 : isO w.heap.size 12 H (ax.tmps.getD 8 undef) wx := hd 5 8 rfl (by kernel_rfl) (by decide)
      obtain ⟨g, cap, h8, hrow, _⟩ := own_row HH.out.2 (by decide) p8
      exact Does.arrayAt 124 (.tmp 8) rfl _ _ h8 (at12 g cap wx) ⟨g, rfl, hrow⟩
    · intro ax wx hb hs hd
      obtain ⟨g, h9, hrow⟩ : isPn H (ax.tmps.getD 9 undef) wx := hd 6 9 rfl (by kernel_rfl) (by decide)
      exact Does.load 124 (.tmp 9) rfl g 0 h9 (u8s H) _ (range_row hrow) Tryz.underlying124 rfl (by rw [u8s_length, HH.out.2]; exact sizeNonce)
  · intro wx hb
    refine @Ends.val _ _ _ _ _ _ _ _ _ (.pointer (some ⟨w.heap.size, 0, none⟩)) rfl ?_
    refine @Ends.val _ _ _ _ _ _ _ _ _ (.int .u64 r) rfl ?_
    refine @Ends.any _ _ _ _ _ _ _ _ _ (isO w.heap.size 8 (leB 8 r)) (isO_later _ _ _) rfl ?_
    intro v2 p2
    refine @Ends.val _ _ _ _ _ _ _ _ _ (.pointer (some ⟨w.heap.size, 1, none⟩)) rfl ?_
    refine @Ends.val _ _ _ _ _ _ _ _ _ (.int .u32 c) rfl ?_
    refine @Ends.any _ _ _ _ _ _ _ _ _ (isO w.heap.size 12 H) (isO_later _ _ _) rfl ?_
    intro v5 p5
    refine @Ends.any _ _ _ _ _ _ _ _ _ (isPn H) (isPn_later H) rfl ?_
    intro v6 p6
    refine @Ends.val _ _ _ _ _ _ _ _ _ (.agg (u8s H).toArray) rfl ?_
    refine @Ends.one _ _ _ _ _ _ _ ?_
    simp only [Act.put, List.setIfInBounds_toArray, List.set_cons_zero, List.set_cons_succ]
    have B := V.out.2.2.1.later hb V.out.2.2.1.lt
    have q0 := V.out.2.2.2
    refine last_store 124 (.tmp 2) (.tmp 10) rfl rfl w1.heap.size rfl 124 _ (u8s H) rfl B (by rw [u8s_length, HH.out.2]; rfl) (by rw [u8s_length, HH.out.2]; exact sizeNonce) (u8s_one _) ?_
    intro y6 b6 s6 k6
    have q1 := V.out.1.size
    have q2 := hb.size
    have L : Below w.heap.size w y6 := below_kept (below_chain V.out.1 hb (by omega)) k6 (by omega) (fun j hj => by omega)
    clear p2 p5 p6
    go_wp2
    exact ret_blk rfl w1.heap.size (u8s H) _ rfl b6 Tryz.underlying124 rfl (by rw [u8s_length, HH.out.2]; exact sizeNonce) rfl ⟨rfl, L⟩

set_option maxRecDepth 20000 in
set_option maxHeartbeats 1000000 in
theorem vouch_any (r c p q : Int) (hp : U32 p) (hq : U32 q) (w : World) :
    Calls Tryz.prog 82 #[.agg (placeC r c p q).toArray] w fun e w' => ∃ v, e = .returned v ∧ isO w.heap.size 8 (moL p q) v w' ∧ Below w.heap.size w w' := by
  have HR : Hid (U32 p ∧ U32 q) := ⟨hp, hq⟩
  obtain ⟨H, hH⟩ : ∃ H, moL p q = H := ⟨_, rfl⟩
  have HH : Hid (leB 4 p ++ leB 4 q = H ∧ H.length = 8) := ⟨hH, by rw [← hH]; exact moL_length p q⟩
  rw [hH]
  clear hp hq hH
  go_enter Tryz.func82, Tryz.ntmps82
  go_wp2_with (first | (refine wpList_box_new rfl 150 _ rfl (placeC r c p q) rfl ?_; intro w1 b1 s1 l1))
  have V : Hid (Below w.heap.size w w1 ∧ Blk w1 w.heap.size 150 (placeC r c p q)) := ⟨l1, b1⟩
  clear b1 l1 s1
  refine region_inv [.val (.pointer (some ⟨w.heap.size, 2, none⟩)), .val (.int .u32 p), .any (isO w.heap.size 4 (leB 4 p)) (isO_later _ _ _), .val (.pointer (some ⟨w.heap.size, 3, none⟩)), .val (.int .u32 q), .any (isO w.heap.size 8 H) (isO_later _ _ _)] (by kernel_rfl) (by kernel_rfl) (by kernel_rfl) ?_ ?_
  · refine Steps'.cons ?_ (Steps'.cons ?_ (Steps'.cons ?_ (Steps'.cons ?_ (Steps'.cons ?_ (Steps'.cons ?_ (Steps'.one _ _ _ _ _ _ _))))))
    · intro ax wx hb hs hd
      have h1 : ax.tmps.getD 1 undef = (.pointer (some ⟨w.heap.size, 0, none⟩)) := hs 1 (by kernel_rfl)
      refine Does.value (.pointer (some ⟨w.heap.size, 2, none⟩)) ?_ rfl
      clear hs hd
      go_simp
    · intro ax wx hb hs hd
      have h3 : ax.tmps.getD 3 undef = (.pointer (some ⟨w.heap.size, 2, none⟩)) := hd 0 3 rfl (by kernel_rfl) (by decide)
      have cx : wx.cell? ⟨w.heap.size, 2, none⟩ = some (.int .u32 p) := (V.out.2.later hb V.out.2.lt).cell 2
      refine Does.value (.int .u32 p) ?_ rfl
      clear hs hd
      go_simp
    · intro ax wx hb hs hd
      have h4 : ax.tmps.getD 4 undef = (.int .u32 p) := hd 1 4 rfl (by kernel_rfl) (by decide)
      refine Does.call 86 #[.slice none 0 0, .int .u32 p] (by clear hs hd; go_simp) ?_
      refine (put32_own p HR.out.1 wx).mono ?_
      rintro e w' ⟨v, rfl, o, l⟩
      exact ⟨_, rfl, ownsRow_base o (by have := hb.size; have := V.out.1.size; omega), l⟩
    · intro ax wx hb hs hd
      have h1 : ax.tmps.getD 1 undef = (.pointer (some ⟨w.heap.size, 0, none⟩)) := hs 1 (by kernel_rfl)
      refine Does.value (.pointer (some ⟨w.heap.size, 3, none⟩)) ?_ rfl
      clear hs hd
      go_simp
    · intro ax wx hb hs hd
      have h6 : ax.tmps.getD 6 undef = (.pointer (some ⟨w.heap.size, 3, none⟩)) := hd 3 6 rfl (by kernel_rfl) (by decide)
      have cx : wx.cell? ⟨w.heap.size, 3, none⟩ = some (.int .u32 q) := (V.out.2.later hb V.out.2.lt).cell 3
      refine Does.value (.int .u32 q) ?_ rfl
      clear hs hd
      go_simp
    · intro ax wx hb hs hd
      have h7 : ax.tmps.getD 7 undef = (.int .u32 q) := hd 4 7 rfl (by kernel_rfl) (by decide)
      have p5 : isO w.heap.size 4 (leB 4 p) (ax.tmps.getD 5 undef) wx := hd 2 5 rfl (by kernel_rfl) (by decide)
      obtain ⟨v5, h5⟩ : ∃ v, ax.tmps.getD 5 undef = v := ⟨_, rfl⟩
      rw [h5] at p5
      refine Does.call 86 #[v5, .int .u32 q] (by clear hs hd; go_simp) ?_
      refine (put32_on v5 _ 4 (leB 4 p) (leB_length _ _) (leB_bytes _ _) (by decide) q HR.out.2 wx p5).mono ?_
      rintro e w' ⟨v, rfl, o, l⟩
      rw [HH.out.1] at o
      exact ⟨_, rfl, ownsRow_base o (by have := hb.size; have := V.out.1.size; omega), l⟩
  · intro wx hb
    refine @Ends.val _ _ _ _ _ _ _ _ _ (.pointer (some ⟨w.heap.size, 2, none⟩)) rfl ?_
    refine @Ends.val _ _ _ _ _ _ _ _ _ (.int .u32 p) rfl ?_
    refine @Ends.any _ _ _ _ _ _ _ _ _ (isO w.heap.size 4 (leB 4 p)) (isO_later _ _ _) rfl ?_
    intro v2 p2
    refine @Ends.val _ _ _ _ _ _ _ _ _ (.pointer (some ⟨w.heap.size, 3, none⟩)) rfl ?_
    refine @Ends.val _ _ _ _ _ _ _ _ _ (.int .u32 q) rfl ?_
    refine @Ends.any _ _ _ _ _ _ _ _ _ (isO w.heap.size 8 H) (isO_later _ _ _) rfl ?_
    intro v5 p5
    refine @Ends.one _ _ _ _ _ _ _ ?_
    simp only [Act.put, List.setIfInBounds_toArray, List.set_cons_zero, List.set_cons_succ]
    have HE : Hid (isO w.heap.size 8 H v5 wx ∧ Below w.heap.size w wx) := ⟨p5, below_chain V.out.1 hb V.out.1.size⟩
    clear p2 p5
    refine last_assign (.tmp 8) rfl (some 2) rfl v5 rfl ?_
    simp only [Act.put, List.setIfInBounds_toArray, List.set_cons_zero, List.set_cons_succ]
    go_wp2
    go_ret
    exact ⟨_, rfl, HE.out.1, HE.out.2⟩
end Go.Proofs.YtfhieacclifihaaGreat
