/- The walk of DeriveWrites. -/
import Derived.Test.YtiimjhahblmggaaDoorVWrA
import Derived.Test.YtiimjhahblmggaaDoorVWorks
import Derived.Test.YtiimjhahblmggaaDoorRVSum
import Derived.Test.YtiimjhahblmggaaDoorRInvP
import Derived.Test.YtiimjhahblmggaaDoorRInvGT
namespace Go.Proofs.YtiimjhahblmggaaDoor.deriveWrites
open Go.RowKit
set_option linter.unusedVariables false
set_option linter.unusedSimpArgs false

def pk {α : Type} (a b : α) (i : Nat) : α := if i = 1 then b else a
theorem zeroM : (Tryd.prog.info? 39).map (fun i => (i.zero, i.size)) = some (some (.agg #[.pointer none, .pointer none, .pointer none]), 3) := by kernel_rfl
theorem zeroT : (Tryd.prog.info? 37).map (fun i => (i.zero, i.size)) = some (some (.agg #[.slice none 0 0, .slice none 0 0, .slice none 0 0]), 3) := by kernel_rfl
theorem sizeT : (Tryd.prog.info? 37).map (·.size) = some 3 := by kernel_rfl
theorem zeroOp : (Tryd.prog.info? 42).map (fun i => (i.zero, i.size)) = some (some (.agg #[.int .i64 0, .int .i64 0, .slice none 0 0]), 3) := by kernel_rfl
theorem sizeOp : (Tryd.prog.info? 42).map (·.size) = some 3 := by kernel_rfl
theorem ks_one (o : Nat → Option Addr) (n c : Nat → Nat) : ∀ v ∈ ksC o n c, v.oneCell' = true := by
  intro v hv
  simp only [ksC, List.mem_cons, List.not_mem_nil, or_false] at hv
  rcases hv with rfl | rfl | rfl <;> rfl
theorem op_one (on k : Int) (bo : Option Addr) (n c : Nat) : ∀ v ∈ opV on k bo n c, v.oneCell' = true := by
  intro v hv
  simp only [opV, List.mem_cons, List.not_mem_nil, or_false] at hv
  rcases hv with rfl | rfl | rfl <;> rfl
/-- What is known of each of the three at a round's head. -/
def Alike (N : Nat) (f : Nat → Sl) : Prop := ∀ i, i < 3 → (f i).m = (f i).t ∧ Bytes (f i).t ∧ (f i).t.length ≤ N
theorem last_value {o : Oper} {a : Act} {w : World} {K : Act → World → Prop} {Q : Exit → Act → World → Prop} (d : Option Tmp) (hdst : o.dst = d) (v : Value) (hv : (execOp a.eval o).run Tryd.prog w = .ok (.value v) w) (h : K (a.put d v) w) : o.wp Tryd.prog a w K Q := by
  unfold Oper.wp
  rw [hv]
  subst hdst
  exact h
set_option maxRecDepth 20000 in
set_option maxHeartbeats 4000000 in
theorem walk (ao : Option Addr) (an ac : Nat) (ka : List Int) (bo : Option Addr) (bn bc : Nat) (kb : List Int) (so : Option Addr) (sn sc : Nat) (its : List PItem) (w : World) (hks : Ks w (pk ao bo) (pk an bn) (pk ac bc) (pk ka kb)) (hx : SeenQ w so sn its) (hK : KTab w) :
    Calls Tryd.prog 4 #[.slice ao an ac, .slice bo bn bc, .slice so sn sc] w fun e w' => e = .returned (.bool true) ∧ Below w.heap.size w w' := by
  have HX : Hid (SeenQ w so sn its ∧ KTab w ∧ Ks w (pk ao bo) (pk an bn) (pk ac bc) (pk ka kb)) := ⟨hx, hK, hks⟩
  have hn := hx.top
  have q0 := hK.lt
  clear hx hK hks
  go_enter Tryd.func4, Tryd.ntmps4
  go_wp2_with (first | (refine wpList_alloc_new rfl 37 rfl 3 [.slice none 0 0, .slice none 0 0, .slice none 0 0] zeroT ?_; intro w1 b1 s1 l1) | (refine wpList_store_blk rfl 37 37 _ _ rfl _ rfl _ (ksC (pk ao bo) (pk an bn) (pk ac bc)) rfl b1 rfl sizeT (ks_one _ _ _) ?_; intro w2 b2 s2 k2) | (refine wpList_alloc_new rfl 39 rfl 3 [.pointer none, .pointer none, .pointer none] zeroM ?_; intro w3 b3 s3 l3))
  rw [s2, s1] at b3
  obtain ⟨A, hA⟩ : ∃ A, w.heap.size + 1 = A := ⟨_, rfl⟩
  rw [hA] at b3 ⊢
  have W3 : Hid (Blk w3 A 39 [.pointer none, .pointer none, .pointer none] ∧ Blk w3 w.heap.size 37 (ksC (pk ao bo) (pk an bn) (pk ac bc)) ∧ Below w.heap.size w w3) := ⟨b3, b2.later l3 b2.lt, below_chain (below_kept l1 k2 (by omega) (fun j hj => by omega)) l3 (by omega)⟩
  have hA2 : w.heap.size < A := by omega
  clear b1 b2 b3 k2 l1 l3 s1 s2 s3 hA
  go_loopw [9] (fun i wr => ∃ (k : Nat) (f : Nat → Sl), k ≤ 3 ∧ i = .int .i64 k ∧ Part wr w.heap.size A k (pk ka kb) f ∧ Blk wr w.heap.size 37 (ksC (pk ao bo) (pk an bn) (pk ac bc)) ∧ Below w.heap.size w wr) (fun i _ => 3 - (intOf i).toNat)
  case atStart => exact ⟨0, fun _ => ⟨0, 0, 0, [], [], .slice none 0 0⟩, by omega, rfl, ⟨W3.out.1, fun i hi => by omega, fun i j hi => by omega, fun i hi => by omega, by omega⟩, W3.out.2.1, W3.out.2.2⟩
  case round =>
    clear W3
    obtain ⟨k, f, hk, rfl, hT, hbK, hbel⟩ := hrel
    by_cases hlt : k < 3
    · have i1 : (0 : Int) ≤ (k : Int) := by omega
      have i2 : (k : Int) < (3 : Int) := by omega
      have cK := (hbK.cell k).trans (ks_at _ _ _ k hlt)
      have sK := (HX.out.2.2.later hbel).seen k hlt
      have tK := HX.out.2.2.top k hlt
      obtain ⟨qo, hqo⟩ : ∃ q, pk ao bo k = q := ⟨_, rfl⟩
      obtain ⟨qn, hqn⟩ : ∃ q, pk an bn k = q := ⟨_, rfl⟩
      obtain ⟨qc, hqc⟩ : ∃ q, pk ac bc k = q := ⟨_, rfl⟩
      obtain ⟨qs, hqs⟩ : ∃ q, (pk ka kb) k = q := ⟨_, rfl⟩
      rw [hqo, hqn, hqc] at cK
      rw [hqo, hqn, hqs] at sK
      rw [hqn] at tK
      have HQ : Hid ((pk ka kb) k = qs) := hqs
      have SK : Hid (Seen wr qo qn qs) := sK
      have SKO : Hid (∀ b o, 0 < qn → qo = some ⟨b, o, none⟩ → b < w.heap.size) := by have h := (HX.out.2.2.seen k hlt).old (Nat.le_refl _); rw [hqo, hqn] at h; exact h
      have qr := hbel.size
      have qA := hT.arr.lt
      have Y0 : Hid (Part wr w.heap.size A k (pk ka kb) f ∧ Blk wr w.heap.size 37 (ksC (pk ao bo) (pk an bn) (pk ac bc)) ∧ Below w.heap.size w wr ∧ KTab wr) := ⟨hT, hbK, hbel, HX.out.2.1.below hbel HX.out.2.1.lt⟩
      obtain ⟨w4, rfl⟩ : ∃ w4, w4 = wr := ⟨_, rfl⟩
      have CK : Hid (∀ W, Kept (fun b => b = A) w4 W → W.cell? ⟨w.heap.size, k, none⟩ = some (.slice qo qn qc)) := fun W hW => by
        have := ((Y0.out.2.1.kept hW (by omega)).cell k).trans (ks_at _ _ _ k hlt)
        rwa [hqo, hqn, hqc] at this
      clear hT hbK hbel hqo hqn hqc hqs sK
      go_wp2_with (first | (go_at_call 7; refine (lent_any qo qn qc qs w4 SK.out (by omega)).mono ?_; rintro e w5 ⟨gk, ck, rfl, r5, hgk, hck, _, l5⟩; have cK5 := CK.out w5 (Kept.new _ l5); have hsl := (fun W => sl_lentW gk (qn + 64) ck qn (by omega) W)) | (go_at_call 19; refine (vnew_any _ qn ck qs w5 (Seen.lent r5 SK.out) (by omega) (Y0.out.2.2.2.below l5 Y0.out.2.2.2.lt)).mono ?_; rintro e w6 ⟨P, g, g', rfl, hP, hg, hg', m6, l6⟩; have A6 := (Y0.out.1.arr.later l5 Y0.out.1.arr.lt).later l6 (by have := l5.size; omega); have a6 : w6.cell? ⟨A, k, none⟩ = some (.pointer none) := (A6.cell k).trans (arrC_at k f hlt); have f6 := A6.frozen k; have l46 := below_chain l5 l6 l5.size; have K6 := (Kept.new (fun b => b = A) l46).setCell (p := ⟨A, k, none⟩) rfl (.pointer (some ⟨P, 0, none⟩)); have cK6 := CK.out _ K6) | (go_at_call 15; refine (rkept_yes gk (qn + 64) ck qo qn qc qs _ ((r5.later l6 (Nat.le_refl _)).other (by have := r5.lt; have := l5.size; show gk ≠ A; omega) _) ((SK.out.later l46 (Nat.le_refl _)).kept ((Kept.refl (fun b => b = A) w6).setCell (p := ⟨A, k, none⟩) rfl _) (fun b o h0 e h => by have := SKO.out b o h0 e; omega)) (by omega) rfl).mono ?_; rintro e w7 ⟨rfl, l7⟩))
      have W7 : Hid (Part w7 w.heap.size A (k + 1) (pk ka kb) (upd f k ⟨P, g, g', [], [], .slice none 0 0⟩) ∧ RowAt w7 gk (qs ++ marks) ∧ Kept (fun b => b = A) w4 w7 ∧ Blk w7 A 39 ((arrC k f).set k (.pointer (some ⟨P, 0, none⟩))) ∧ MacAt w7 P g g' ((pk ka kb) k) [] ∧ gk ≠ A ∧ gk ≠ P ∧ gk ≠ g ∧ gk ≠ g' ∧ w4.heap.size ≤ gk ∧ w4.heap.size ≤ P ∧ w4.heap.size ≤ g ∧ w4.heap.size ≤ g') := by
        have z5 := l5.size
        have z6 := l6.size
        have zr := r5.lt
        have hAs := A6.set k (.pointer (some ⟨P, 0, none⟩))
        have hA7 := hAs.later l7 hAs.lt
        have hm6 := m6.kept ((Kept.refl (fun b => b = A) w6).setCell (p := ⟨A, k, none⟩) rfl (.pointer (some ⟨P, 0, none⟩))) (by omega) (by omega) (by omega)
        have hm7 := hm6.now l7
        rw [← HQ.out] at hm7
        have K7 := K6.trans (Kept.new _ l7)
        exact ⟨Y0.out.1.add hlt qr P g g' hA7 hm7 K7 (by omega) (by omega) (by omega), ((r5.later l6 (Nat.le_refl _)).other (by show gk ≠ A; omega) _).later l7 (Nat.le_refl _), K7, hA7, hm7, by omega, by omega, by omega, by omega, by omega, by omega, by omega, by omega⟩
      have HL : Hid ((qs ++ marks).length = qn + 64) := by show _ = _; rw [List.length_append, marks_length, SK.out.len]
      clear r5 l5 l6 l7 l46 A6 a6 f6 K6 cK cK5 cK6 m6 hgk hP hg hg' hsl
      go_loopw [11] (fun i wr => ∃ (j : Nat) (us : List Int), j ≤ qn + 64 ∧ i = .int .i64 j ∧ RowAt wr gk us ∧ us.length = qn + 64 ∧ Kept (fun b => b = gk) w7 wr) (fun i _ => qn + 64 - (intOf i).toNat)
      case atStart => exact ⟨0, _, Nat.zero_le _, rfl, W7.out.2.1, HL.out, Kept.refl _ _⟩
      case round =>
        obtain ⟨j, us, hj, rfl, hr, hu, hkp⟩ := hrel
        by_cases hl2 : j < qn + 64
        · have cR := hr.cell j (by omega)
          have fR := hr.frozen j
          obtain ⟨y, hy⟩ : ∃ y, us.getD j 0 = y := ⟨_, rfl⟩
          rw [hy] at cR
          have HR : Hid (RowAt (wr.setCell ⟨gk, j, none⟩ (.int .u8 9)) gk (us.set j 9) ∧ Kept (fun b => b = gk) w7 (wr.setCell ⟨gk, j, none⟩ (.int .u8 9)) ∧ (us.set j 9).length = qn + 64) := ⟨hr.set j (by omega) 9, hkp.setCell rfl _, by rw [List.length_set]; exact hu⟩
          have j1 : (0 : Int) ≤ (j : Int) := by omega
          have j2 : (j : Int) < (qn : Int) + 64 := by omega
          clear hr hkp hy hu
          go_wp2
          exact ⟨⟨j + 1, _, by omega, by go_num, HR.out.1, HR.out.2.2, HR.out.2.1⟩, by simp [intOf]; omega⟩
        · obtain rfl : j = qn + 64 := by omega
          have W8 : Hid (Part wr w.heap.size A (k + 1) (pk ka kb) (upd f k ⟨P, g, g', [], [], .slice none 0 0⟩) ∧ Blk wr w.heap.size 37 (ksC (pk ao bo) (pk an bn) (pk ac bc)) ∧ Below w.heap.size w wr) := by
            have K8 := W7.out.2.2.1.fresh hkp W7.out.2.2.2.2.2.2.2.2.2.1
            have y7 := W7.out.2.2.2.2.2
            exact ⟨Y0.out.1.add hlt qr P g g' (W7.out.2.2.2.1.kept hkp (by omega)) (W7.out.2.2.2.2.1.kept hkp (by omega) (by omega) (by omega)) K8 (by omega) (by omega) (by omega), Y0.out.2.1.kept K8 (by omega), below_kept Y0.out.2.2.1 K8 (by omega) (fun j hj => by omega)⟩
          clear hr hkp hu
          rw [show ((qn + 64 : Nat) : Int) = (qn : Int) + 64 by omega]
          go_wp2
          exact ⟨⟨k + 1, _, by omega, by go_num, W8.out.1, W8.out.2.1, W8.out.2.2⟩, by simp [intOf]; omega⟩
    · obtain rfl : k = 3 := by omega
      have e3 : ((3 : Nat) : Int) = 3 := rfl
      rw [e3]
      clear e3
      have Y0 : Hid (Part wr w.heap.size A 3 (pk ka kb) f ∧ Blk wr w.heap.size 37 (ksC (pk ao bo) (pk an bn) (pk ac bc)) ∧ Below w.heap.size w wr) := ⟨hT, hbK, hbel⟩
      have qr := hbel.size
      clear hT hbK hbel
      obtain ⟨w9, rfl⟩ : ∃ w9, w9 = wr := ⟨_, rfl⟩
      go_wp2_with (refine wpList_alloc_new rfl 37 rfl 3 [.slice none 0 0, .slice none 0 0, .slice none 0 0] zeroT ?_; intro w10 b10 s10 l10)
      obtain ⟨X, hX⟩ : ∃ X, w9.heap.size = X := ⟨_, rfl⟩
      rw [hX] at b10 ⊢
      have hX2 : w.heap.size < X := by have := Y0.out.2.1.lt; omega
      have Y1 : Hid (Three w10 w.heap.size A X (pk ka kb) f ∧ Alike 0 f ∧ Blk w10 w.heap.size 37 (ksC (pk ao bo) (pk an bn) (pk ac bc)) ∧ Below w.heap.size w w10) := ⟨Y0.out.1.three X l10 b10 (by omega), fun i hi => by rw [(Y0.out.1.mac i hi).2.1, (Y0.out.1.mac i hi).2.2.1]; exact ⟨rfl, (fun z hz => by cases hz), Nat.le_refl _⟩, Y0.out.2.1.later l10 Y0.out.2.1.lt, below_chain Y0.out.2.2 l10 qr⟩
      clear b10 s10 l10 hX Y0 qr
      go_loopw [13] (fun i wr => ∃ (k : Nat) (f : Nat → Sl), k ≤ sn ∧ i = .int .i64 k ∧ Three wr w.heap.size A X (pk ka kb) f ∧ Alike (dats its k).length f ∧ Blk wr w.heap.size 37 (ksC (pk ao bo) (pk an bn) (pk ac bc)) ∧ Below w.heap.size w wr) (fun i _ => sn - (intOf i).toNat)
      case atStart => exact ⟨0, f, Nat.zero_le _, rfl, Y1.out.1, Y1.out.2.1, Y1.out.2.2.1, Y1.out.2.2.2⟩
      case round =>
        clear Y1 f
        obtain ⟨k, f, hk, rfl, hT, hal, hbK, hbel⟩ := hrel
        by_cases hlt : k < sn
        · obtain ⟨b, o, po, pc, rfl, hb, hR0, hs0, hc, hnil⟩ := HX.out.1.cells k hlt
          have hd := dats_succ its k (by rw [HX.out.1.len]; exact hlt)
          have hd2 : (dats its (k + 1)).length ≤ 1048576 := by have := dats_le its (k + 1); have := HX.out.1.all; rw [← HX.out.1.len] at this; omega
          obtain ⟨it, hit⟩ : ∃ it, pAt its k = it := ⟨_, rfl⟩
          rw [hit] at hR0 hs0 hc hd
          clear hit
          obtain ⟨on, ki, zs⟩ := it
          simp only at hR0 hs0 hc hd
          have i1 : (0 : Int) ≤ (k : Int) := by omega
          have i2 : (k : Int) < (sn : Int) := by omega
          have hR : wr.rangeAt b (o + k * 3) (opV on ki po zs.length pc) := fun j v hv => (World.cell?_of_block (w := w) (a := ⟨b, o + k * 3 + j, none⟩) (hbel.block b hb)).trans (hR0 j v hv)
          have qr := hbel.size
          obtain ⟨x, hr1, hx3, hf1⟩ := rem_nat on 3 (by decide) (by decide)
          rw [show ((3 : Nat) : Int) = 3 from rfl] at hr1
          have x1 : (0 : Int) ≤ (x : Int) := by clear hr1 hf1; omega
          have x2 : (x : Int) < (3 : Int) := by clear hr1 hf1; omega
          have Y1 : Hid (Three wr w.heap.size A X (pk ka kb) f ∧ Alike (dats its k).length f ∧ Blk wr w.heap.size 37 (ksC (pk ao bo) (pk an bn) (pk ac bc)) ∧ Below w.heap.size w wr ∧ Seen w po zs.length zs ∧ zs.length ≤ pc ∧ (po = none → pc = 0)) := ⟨hT, hal, hbK, hbel, hs0, hc, hnil⟩
          have hzl : zs.length ≤ 1048576 := by clear hr1 hf1; omega
          have HD : Hid ((dats its (k + 1)).length = (dats its k).length + zs.length ∧ (dats its (k + 1)).length ≤ 1048576) := ⟨hd, hd2⟩
          have HR : Hid (wr.rangeAt b (o + k * 3) (opV on ki po zs.length pc)) := hR
          have hAX : A < wr.heap.size ∧ X < wr.heap.size := ⟨hT.arr.lt, hT.txt.lt⟩
          obtain ⟨w11, rfl⟩ : ∃ w11, w11 = wr := ⟨_, rfl⟩
          clear hT hal hbK hbel hR0 hR hs0 hc hnil hd hd2 hb
          by_cases h0 : ki = 0
          · subst h0
            go_wp2_with (first | (refine wpList_load_mid rfl 42 _ rfl b (o + k * 3) rfl (opV on 0 po zs.length pc) _ HR.out Tryd.underlying42 rfl sizeOp ?_) | (refine wpList_alloc_new rfl 42 rfl 3 [.int .i64 0, .int .i64 0, .slice none 0 0] zeroOp ?_; intro w12 b12 s12 l12) | (refine wpList_store_blk rfl 42 42 _ _ rfl _ rfl _ (opV on 0 po zs.length pc) rfl b12 rfl sizeOp (op_one _ _ _ _ _) ?_; intro w13 b13 s13 k13; have L13 : Hid (Below w11.heap.size w11 w13) := below_kept l12 k13 (by clear hr1 hf1; omega) (fun j hj => by clear hr1 hf1; omega); have e0 : w13.cell? ⟨w11.heap.size, 0, none⟩ = some (.int .i64 on) := b13.cell 0; have e1 : w13.cell? ⟨w11.heap.size, 1, none⟩ = some (.int .i64 0) := b13.cell 1; have e2 : w13.cell? ⟨w11.heap.size, 2, none⟩ = some (.slice po zs.length pc) := b13.cell 2) | (go_at_call 7; refine (lent_any po zs.length pc zs w13 (Y1.out.2.2.2.2.1.later (below_chain Y1.out.2.2.2.1 L13.out qr) (Nat.le_refl _)) (by clear hr1 hf1; omega)).mono ?_; rintro e w14 ⟨gp, cp, rfl, r14, hgp, hcp, _, l14⟩))
            have W14 : Hid (Three w14 w.heap.size A X (pk ka kb) f ∧ Blk w14 w11.heap.size 42 (opV on 0 po zs.length pc) ∧ RowAt w14 gp (zs ++ marks) ∧ Below w11.heap.size w11 w14 ∧ w11.heap.size < gp) := by
              have z13 := L13.out.size
              exact ⟨Y1.out.1.later (below_chain L13.out l14 z13), b13.later l14 b13.lt, r14, below_chain L13.out l14 z13, by have := b13.lt; clear hr1 hf1; omega⟩
            clear b12 b13 s12 s13 l12 k13 L13 e0 e1 e2 r14 l14 hgp
            refine region_invP 8 ((.val (.int .i64 (x : Int))) :: (.val (.pointer (some ⟨A, x, none⟩))) :: (.val (ptrM (f x))) :: (.val (.slice (some ⟨gp, 0, none⟩) (zs.length + 64) cp)) :: (.val (.pointer (some ⟨w11.heap.size, 2, none⟩))) :: (.val (.slice po zs.length pc)) :: (.val (.int .i64 (zs.length : Int))) :: (.val (.slice (some ⟨gp, 0, none⟩) zs.length cp)) :: []) (by kernel_rfl) (by kernel_rfl) (by kernel_rfl) [] ⟨.inl rfl, .inl rfl, .inl rfl, .inl rfl, .inl rfl, .inl rfl, .inl rfl, .inl rfl, trivial⟩ (by kernel_rfl) ?_ ?_
            · refine Steps'.cons ?_ (Steps'.cons ?_ (Steps'.cons ?_ (Steps'.cons ?_ (Steps'.cons ?_ (Steps'.cons ?_ (Steps'.cons ?_ (Steps'.cons ?_ (Steps'.one _ _ _ _ _ _ _))))))))
              · intro ax wx hb hs hd
                have h15 : ax.tmps.getD 15 undef = (.int .i64 (x : Int)) := hs 15 (by kernel_rfl)
                refine Does.value (.int .i64 (x : Int)) ?_ rfl
                clear hs hd
                go_simp
              · intro ax wx hb hs hd
                have h8 : ax.tmps.getD 8 undef = (.pointer (some ⟨A, 0, none⟩)) := hs 8 (by kernel_rfl)
                have h85 : ax.tmps.getD 85 undef = (.int .i64 (x : Int)) := hd 0 85 rfl (by kernel_rfl) (by decide)
                refine Does.value (.pointer (some ⟨A, x, none⟩)) ?_ rfl
                clear hs hd
                go_simp
              · intro ax wx hb hs hd
                have h86 : ax.tmps.getD 86 undef = (.pointer (some ⟨A, x, none⟩)) := hd 1 86 rfl (by kernel_rfl) (by decide)
                have hc1 := (three_at (W14.out.1.later hb) x hx3).1
                obtain ⟨pp, hpp⟩ : ∃ pp, ptrM (f x) = pp := ⟨_, rfl⟩
                rw [hpp] at hc1 ⊢
                clear hpp
                refine Does.value pp ?_ rfl
                clear hs hd
                go_simp
              · intro ax wx hb hs hd
                have h16 : ax.tmps.getD 16 undef = (.slice (some ⟨gp, 0, none⟩) (zs.length + 64) cp) := hs 16 (by kernel_rfl)
                refine Does.value (.slice (some ⟨gp, 0, none⟩) (zs.length + 64) cp) ?_ rfl
                clear hs hd
                go_simp
              · intro ax wx hb hs hd
                have h14 : ax.tmps.getD 14 undef = (.pointer (some ⟨w11.heap.size, 0, none⟩)) := hs 14 (by kernel_rfl)
                refine Does.value (.pointer (some ⟨w11.heap.size, 2, none⟩)) ?_ rfl
                clear hs hd
                go_simp
              · intro ax wx hb hs hd
                have h89 : ax.tmps.getD 89 undef = (.pointer (some ⟨w11.heap.size, 2, none⟩)) := hd 4 89 rfl (by kernel_rfl) (by decide)
                have hc2 : wx.cell? ⟨w11.heap.size, 2, none⟩ = some (.slice po zs.length pc) := (W14.out.2.1.later hb W14.out.2.1.lt).cell 2
                refine Does.value (.slice po zs.length pc) ?_ rfl
                clear hs hd
                go_simp
              · intro ax wx hb hs hd
                have h90 : ax.tmps.getD 90 undef = (.slice po zs.length pc) := hd 5 90 rfl (by kernel_rfl) (by decide)
                refine Does.value (.int .i64 (zs.length : Int)) ?_ rfl
                clear hs hd
                go_simp
              · intro ax wx hb hs hd
                have h88 : ax.tmps.getD 88 undef = (.slice (some ⟨gp, 0, none⟩) (zs.length + 64) cp) := hd 3 88 rfl (by kernel_rfl) (by decide)
                have h91 : ax.tmps.getD 91 undef = (.int .i64 (zs.length : Int)) := hd 6 91 rfl (by kernel_rfl) (by decide)
                have hsl := sl_lentW gp (zs.length + 64) cp zs.length (by clear hr1 hf1; omega) wx
                refine Does.value (.slice (some ⟨gp, 0, none⟩) zs.length cp) ?_ rfl
                clear hs hd
                go_simp
            · intro wx hb
              refine @EndsP.val _ _ _ _ _ _ _ _ (.int .i64 (x : Int)) rfl ?_
              refine @EndsP.val _ _ _ _ _ _ _ _ (.pointer (some ⟨A, x, none⟩)) rfl ?_
              refine @EndsP.val _ _ _ _ _ _ _ _ (ptrM (f x)) rfl ?_
              refine @EndsP.val _ _ _ _ _ _ _ _ (.slice (some ⟨gp, 0, none⟩) (zs.length + 64) cp) rfl ?_
              refine @EndsP.val _ _ _ _ _ _ _ _ (.pointer (some ⟨w11.heap.size, 2, none⟩)) rfl ?_
              refine @EndsP.val _ _ _ _ _ _ _ _ (.slice po zs.length pc) rfl ?_
              refine @EndsP.val _ _ _ _ _ _ _ _ (.int .i64 (zs.length : Int)) rfl ?_
              refine @EndsP.val _ _ _ _ _ _ _ _ (.slice (some ⟨gp, 0, none⟩) zs.length cp) rfl ?_
              intro hD nf hn
              obtain ⟨mf, rfl⟩ : ∃ mf, nf = mf + 6 := ⟨nf - 6, by have h3 : 6 ≤ nf := hn; omega⟩
              clear hD hn
              simp only [Act.put, List.setIfInBounds_toArray, List.set_cons_zero, List.set_cons_succ]
              have W15 : Hid (Three wx w.heap.size A X (pk ka kb) f ∧ Blk wx w11.heap.size 42 (opV on 0 po zs.length pc) ∧ RowAt wx gp (zs ++ marks) ∧ Below w11.heap.size w11 wx ∧ KTab wx) := by
                have l := below_chain W14.out.2.2.2.1 hb W14.out.2.2.2.1.size
                have lw := below_chain Y1.out.2.2.2.1 l qr
                exact ⟨W14.out.1.later hb, W14.out.2.1.later hb W14.out.2.1.lt, W14.out.2.2.1.later hb (Nat.le_refl _), l, HX.out.2.1.below lw HX.out.2.1.lt⟩
              clear hb
              refine wpAny_ready (rs := [8]) (by kernel_rfl) (by simp) (AllReady.cons rfl (fun K hK => ?_) AllReady.nil)
              go_simp
              go_wp2_with (go_at_call 20; refine (mwrite_any (f x).P (f x).g (f x).g' ((pk ka kb) x) (f x).m _ zs.length cp zs wx (W15.out.1.mac x hx3) (Seen.lent W15.out.2.2.1 Y1.out.2.2.2.2.1) (by clear hr1 hf1; omega) (fun bb oo hb0 e => by cases e; have := ((Y1.out.1.mac x hx3).kd.lts).1; have := W14.out.2.2.2.2; clear hr1 hf1; omega) W15.out.2.2.2.2 (by have := (W15.out.1.lo x hx3).2.1; clear hr1 hf1; omega) (by have := (Y1.out.2.1 x hx3); rw [this.1]; have := this.2.2; have := HD.out; clear hr1 hf1; omega)).mono ?_; rintro e w16 ⟨rfl, m16, k16⟩)
              refine take_op 9 (some 84) (.tuple #[.int .i64 (zs.length : Int), .nilIface]) rfl rfl (by kernel_rfl) (by kernel_rfl) (by kernel_rfl) (fun _ _ _ h => h) (by rfl) (fun _ => by rfl) ?_
              refine take_op 10 (some 94) (.int .i64 (zs.length : Int)) rfl rfl (by kernel_rfl) (by kernel_rfl) (by kernel_rfl) (fun _ _ _ h => h) (by rfl) (fun _ => by rfl) ?_
              refine take_op 11 (some 95) .nilIface rfl rfl (by kernel_rfl) (by kernel_rfl) (by kernel_rfl) (fun _ _ _ h => h) (by rfl) (fun _ => by rfl) ?_
              simp only [Act.put, List.setIfInBounds_toArray, List.set_cons_zero, List.set_cons_succ]
              refine wpAny_ready (rs := [12]) (by kernel_rfl) (by simp) (AllReady.cons rfl (fun K hK => ?_) AllReady.nil)
              rw [if_pos (by rfl)]
              refine last_assign (.tmp 94) rfl (some 17) rfl (.int .i64 (zs.length : Int)) rfl ?_
              refine hK _ _ ?_
              clear hK K
              simp only [Act.put, List.setIfInBounds_toArray, List.set_cons_zero, List.set_cons_succ]
              refine wpAny_ready (rs := [13]) (by kernel_rfl) (by simp) (AllReady.cons rfl (fun K hK => ?_) AllReady.nil)
              rw [if_pos (by rfl)]
              refine last_assign (.tmp 95) rfl (some 18) rfl .nilIface rfl ?_
              refine hK _ _ ?_
              clear hK K
              simp only [Act.put, List.setIfInBounds_toArray, List.set_cons_zero, List.set_cons_succ]
              refine wpAny_done (by kernel_rfl) (NoPanic.normal ?_) _
              have W16 : Hid (Three w16 w.heap.size A X (pk ka kb) (upd f x { f x with m := (f x).m ++ zs }) ∧ Blk w16 w11.heap.size 42 (opV on 0 po zs.length pc) ∧ RowAt w16 gp (zs ++ marks) ∧ Below w.heap.size w w16 ∧ Blk w16 w.heap.size 37 (ksC (pk ao bo) (pk an bn) (pk ac bc)) ∧ w11.heap.size ≤ w16.heap.size ∧ Seen w16 po zs.length zs) := by
                have T15 := W15.out.1
                have lg := (T15.lo x hx3).2.1
                have lt1 := ((Y1.out.1.mac x hx3).kd.lts).1
                have y14 := W14.out.2.2.2.2
                have bw : Below w.heap.size w w16 := below_kept (below_chain Y1.out.2.2.2.1 W15.out.2.2.2.1 qr) k16 (by have := W15.out.2.2.2.1.size; clear hr1 hf1; omega) (fun j hj e => by clear hr1 hf1; omega)
                exact ⟨T15.wrote x hx3 _ m16 k16, W15.out.2.1.kept k16 (by clear hr1 hf1; omega), W15.out.2.2.1.kept k16 (by clear hr1 hf1; omega), bw, ((Y1.out.2.2.1.later W15.out.2.2.2.1 Y1.out.2.2.1.lt)).kept k16 (fun e => blk_ne Y1.out.2.2.1 (Y1.out.1.mac x hx3).kd.inn.hash.blk (by decide) e), by have := W15.out.2.2.2.1.size; have := k16.size; clear hr1 hf1; omega, Y1.out.2.2.2.2.1.later bw (Nat.le_refl _)⟩
              have e2 : w16.cell? ⟨w11.heap.size, 2, none⟩ = some (.slice po zs.length pc) := W16.out.2.1.cell 2
              clear m16 k16
              go_wp2_with (go_at_call 15; refine (rkept_yes gp (zs.length + 64) cp po zs.length pc zs w16 W16.out.2.2.1 W16.out.2.2.2.2.2.2 (by clear hr1 hf1; omega) rfl).mono ?_; rintro e w17 ⟨rfl, l17⟩)
              have W17 : Hid (Three w17 w.heap.size A X (pk ka kb) (upd f x { f x with m := (f x).m ++ zs }) ∧ Blk w17 w11.heap.size 42 (opV on 0 po zs.length pc) ∧ RowAt w17 gp (zs ++ marks) ∧ Below w.heap.size w w17 ∧ Blk w17 w.heap.size 37 (ksC (pk ao bo) (pk an bn) (pk ac bc)) ∧ w11.heap.size ≤ w17.heap.size) := ⟨W16.out.1.later l17, W16.out.2.1.later l17 W16.out.2.1.lt, W16.out.2.2.1.later l17 (Nat.le_refl _), below_chain W16.out.2.2.2.1 l17 W16.out.2.2.2.1.size, W16.out.2.2.2.2.1.later l17 W16.out.2.2.2.2.1.lt, by have := l17.size; have := W16.out.2.2.2.2.2.1; clear hr1 hf1; omega⟩
              have HL : Hid ((zs ++ marks).length = zs.length + 64) := by show _ = _; rw [List.length_append, marks_length]
              clear l17 e2
              go_loopw [19] (fun i wr => ∃ (j : Nat) (us : List Int), j ≤ zs.length + 64 ∧ i = .int .i64 j ∧ RowAt wr gp us ∧ us.length = zs.length + 64 ∧ Kept (fun b => b = gp) w17 wr) (fun i _ => zs.length + 64 - (intOf i).toNat)
              case atStart => exact ⟨0, _, Nat.zero_le _, rfl, W17.out.2.2.1, HL.out, Kept.refl _ _⟩
              case round =>
                obtain ⟨j, us, hj, rfl, hr, hu, hkp⟩ := hrel
                by_cases hl2 : j < zs.length + 64
                · have cR := hr.cell j (by clear hr1 hf1; omega)
                  have fR := hr.frozen j
                  obtain ⟨y, hy⟩ : ∃ y, us.getD j 0 = y := ⟨_, rfl⟩
                  rw [hy] at cR
                  have HR7 : Hid (RowAt (wr.setCell ⟨gp, j, none⟩ (.int .u8 7)) gp (us.set j 7) ∧ Kept (fun b => b = gp) w17 (wr.setCell ⟨gp, j, none⟩ (.int .u8 7)) ∧ (us.set j 7).length = zs.length + 64) := ⟨hr.set j (by clear hr1 hf1; omega) 7, hkp.setCell rfl _, by rw [List.length_set]; exact hu⟩
                  have j1 : (0 : Int) ≤ (j : Int) := by clear hr1 hf1; omega
                  have j2 : (j : Int) < (zs.length : Int) + 64 := by clear hr1 hf1; omega
                  clear hr hkp hy hu
                  go_wp2
                  exact ⟨⟨j + 1, _, by clear hr1 hf1; omega, by go_num, HR7.out.1, HR7.out.2.2, HR7.out.2.1⟩, by simp [intOf]; clear hr1 hf1; omega⟩
                · obtain rfl : j = zs.length + 64 := by clear hr1 hf1; omega
                  obtain ⟨f', hf'⟩ : ∃ f', upd f x { f x with m := (f x).m ++ zs } = f' := ⟨_, rfl⟩
                  have HF : Hid (upd f x { f x with m := (f x).m ++ zs } = f') := hf'
                  rw [hf'] at W17
                  have W18 : Hid (Three wr w.heap.size A X (pk ka kb) f' ∧ Blk wr w11.heap.size 42 (opV on 0 po zs.length pc) ∧ Below w.heap.size w wr ∧ Blk wr w.heap.size 37 (ksC (pk ao bo) (pk an bn) (pk ac bc)) ∧ Seen wr po zs.length zs ∧ w11.heap.size ≤ wr.heap.size) := by
                    have T0 := W17.out.1
                    have y14 := W14.out.2.2.2.2
                    have lt : ∀ i, i < 3 → (f' i).P < w11.heap.size ∧ (f' i).g < w11.heap.size ∧ (f' i).g' < w11.heap.size ∧ ∀ b, (f' i).v.ownBlock = some b → b < w11.heap.size := fun i hi => by
                      have q1 := Y1.out.1.mac i hi
                      have q2 := Y1.out.1.own i hi
                      rw [← hf']
                      by_cases e : i = x
                      · subst e; rw [upd_at]; exact ⟨q1.blk.lt, q1.kd.lts.1, q1.kd.lts.2, fun b hb => (q2.lt b hb).2⟩
                      · rw [upd_ne _ _ _ _ e]; exact ⟨q1.blk.lt, q1.kd.lts.1, q1.kd.lts.2, fun b hb => (q2.lt b hb).2⟩
                    have bw : Below w.heap.size w wr := below_kept W17.out.2.2.2.1 hkp (by have := W17.out.2.2.2.1.size; clear hr1 hf1; omega) (fun j hj e => by clear hr1 hf1; omega)
                    exact ⟨⟨T0.arr.kept hkp (by clear hr1 hf1; omega), T0.txt.kept hkp (by clear hr1 hf1; omega), fun i hi => (T0.mac i hi).kept hkp (by have := lt i hi; clear hr1 hf1; omega) (by have := lt i hi; clear hr1 hf1; omega) (by have := lt i hi; clear hr1 hf1; omega), fun i hi => own_kept1 (T0.own i hi) hkp (fun b hb e => by have := (lt i hi).2.2.2 b hb; clear hr1 hf1; omega), T0.gap, T0.vap, T0.lo, T0.loA⟩, W17.out.2.1.kept hkp (by clear hr1 hf1; omega), bw, W17.out.2.2.2.2.1.kept hkp (by clear hr1 hf1; omega), Y1.out.2.2.2.2.1.later bw (Nat.le_refl _), by have := hkp.size; have := W17.out.2.2.2.2.2; clear hr1 hf1; omega⟩
                  rw [show ((zs.length + 64 : Nat) : Int) = (zs.length : Int) + 64 by clear hr1 hf1; omega]
                  clear hr hkp hu hf'
                  obtain ⟨w18, rfl⟩ : ∃ w18, w18 = wr := ⟨_, rfl⟩
                  go_wp2
                  have d1 := (three_at W18.out.1 x hx3).2
                  have d3 : w18.cell? ⟨w11.heap.size, 2, none⟩ = some (.slice po zs.length pc) := W18.out.2.1.cell 2
                  obtain ⟨pp, hpp⟩ : ∃ pp, (f' x).v = pp := ⟨_, rfl⟩
                  rw [hpp] at d1
                  refine wp_region_noPanic (wp_region_any (by kernel_rfl) ?_)
                  refine take_op 0 (some 121) (.int .i64 (x : Int)) rfl rfl (by kernel_rfl) (by kernel_rfl) (by kernel_rfl) (fun _ _ _ h => h) (by rfl) (fun _ => by rfl) ?_
                  refine take_op 1 (some 122) (.int .i64 (x : Int)) rfl rfl (by kernel_rfl) (by kernel_rfl) (by kernel_rfl) (fun _ _ _ h => h) (by rfl) (fun _ => by rfl) ?_
                  refine take_op 2 (some 123) (.pointer (some ⟨X, x, none⟩)) rfl rfl (by kernel_rfl) (by kernel_rfl) (by kernel_rfl) (fun _ _ _ h => h) (by rfl) (fun _ => by go_simp) ?_
                  refine take_op 4 (some 125) (.pointer (some ⟨w11.heap.size, 2, none⟩)) rfl rfl (by kernel_rfl) (by kernel_rfl) (by kernel_rfl) (fun _ _ _ h => h) (by rfl) (fun _ => by rfl) ?_
                  simp only [Act.put, List.setIfInBounds_toArray, List.set_cons_zero, List.set_cons_succ]
                  refine two_puts 3 5 (some 124) (some 126) pp (.slice po zs.length pc) rfl rfl (by decide) (by kernel_rfl) (by kernel_rfl) (by kernel_rfl) (fun K h => ?s1) (fun K h => ?s2) (fun K h => ?s3) (fun K h => ?s4) rfl ?_
                  case s1 => go_simp; exact h
                  case s2 => go_simp; exact h
                  case s3 => go_simp; exact h
                  case s4 => go_simp; exact h
                  simp only [Act.put, List.setIfInBounds_toArray, List.set_cons_zero, List.set_cons_succ]
                  rw [← hpp]
                  clear hpp d1 d3
                  have hb : Below w18.heap.size w18 w18.drew := below_dn (Below.refl _ _) 1
                  obtain ⟨wx, hwx⟩ : ∃ wx, w18.drew = wx := ⟨_, rfl⟩
                  rw [hwx] at hb
                  rw [show ({ heap := w18.heap, tape := w18.tape, drawn := w18.drawn + 1, os := w18.os, output := w18.output } : World) = wx from hwx]
                  clear hwx
                  have W19 : Hid (Three wx w.heap.size A X (pk ka kb) f' ∧ Blk wx w.heap.size 37 (ksC (pk ao bo) (pk an bn) (pk ac bc)) ∧ Below w.heap.size w wx ∧ Seen wx po zs.length zs) := ⟨W18.out.1.later hb, W18.out.2.2.2.1.later hb W18.out.2.2.2.1.lt, below_chain W18.out.2.2.1 hb W18.out.2.2.1.size, W18.out.2.2.2.2.1.later hb (Nat.le_refl _)⟩
                  clear hb
                  have ef : (f' x).t = (f x).t ∧ (f' x).v = (f x).v ∧ (f' x).m = (f x).m ++ zs := by rw [← HF.out, upd_at]; exact ⟨rfl, rfl, rfl⟩
                  have al := Y1.out.2.1 x hx3
                  obtain ⟨v', w20, hrun, ho20, hg20, ha20⟩ := run_app (w := wx) w.heap.size (f' x).v (f' x).t.length _ (W19.out.1.own x hx3) po zs.length pc zs W19.out.2.2.2 Y1.out.2.2.2.2.2.2 (by rw [ef.1]; have := al.2.2; have := HD.out; clear hr1 hf1; omega) W19.out.2.2.1.size
                  obtain ⟨va, vn, vcc, rfl⟩ : ∃ a n c, v' = .slice a n c := by rcases ho20.2 with ⟨h, _⟩ | ⟨g, cap, cur, h, _⟩ <;> exact ⟨_, _, _, h⟩
                  refine wpAny_ready (rs := [6]) (by kernel_rfl) (by simp) (AllReady.cons rfl (fun K hK => ?_) AllReady.nil)
                  rw [if_pos (by rfl)]
                  refine wp_app (.tmp 124) (.tmp 126) 22 22 rfl rfl _ _ rfl rfl (.slice va vn vcc) w20 hrun ?_
                  refine hK _ _ ?_
                  clear hK K hrun
                  simp only [Act.put, List.setIfInBounds_toArray, List.set_cons_zero, List.set_cons_succ]
                  refine take_op 7 (some 128) (.pointer (some ⟨X, x, none⟩)) rfl rfl (by kernel_rfl) (by kernel_rfl) (by kernel_rfl) (fun _ _ _ h => h) (by rfl) (fun _ => by go_simp) ?_
                  simp only [Act.put, List.setIfInBounds_toArray, List.set_cons_zero, List.set_cons_succ]
                  have hT21 := W19.out.1.grew x hx3 ((f' x).t ++ zs) (.slice va vn vcc) (by rw [List.length_append, List.map_append]; exact ho20) hg20 ha20
                  have X20 := W19.out.1.txt.kept (Kept.ofGrown hg20) (own_ne (W19.out.1.own x hx3) W19.out.1.txt (by decide))
                  have fX := X20.frozen x
                  have cX : ∃ u, w20.cell? ⟨X, x, none⟩ = some u := by
                    rw [X20.cell]
                    obtain rfl | rfl | rfl : x = 0 ∨ x = 1 ∨ x = 2 := by clear hr1 hf1; omega
                    · exact ⟨_, rfl⟩
                    · exact ⟨_, rfl⟩
                    · exact ⟨_, rfl⟩
                  obtain ⟨u, cX⟩ := cX
                  have W21 : Hid (Three (w20.setCell ⟨X, x, none⟩ (.slice va vn vcc)) w.heap.size A X (pk ka kb) (upd f' x { f' x with t := (f' x).t ++ zs, v := (.slice va vn vcc) }) ∧ Alike (dats its (k + 1)).length (upd f' x { f' x with t := (f' x).t ++ zs, v := (.slice va vn vcc) }) ∧ Blk (w20.setCell ⟨X, x, none⟩ (.slice va vn vcc)) w.heap.size 37 (ksC (pk ao bo) (pk an bn) (pk ac bc)) ∧ Below w.heap.size w (w20.setCell ⟨X, x, none⟩ (.slice va vn vcc))) := by
                    have kg := Kept.ofGrown hg20
                    have hown := W19.out.1.own x hx3
                    have K21 := (Kept.refl (fun b => b = X) w20).setCell (p := ⟨X, x, none⟩) rfl (.slice va vn vcc)
                    refine ⟨hT21, fun i hi => ?_, (W19.out.2.1.kept kg (own_ne hown W19.out.2.1 (by decide))).kept K21 (by clear hr1 hf1; omega), below_kept (below_kept W19.out.2.2.1 kg (by have := W19.out.2.2.1.size; clear hr1 hf1; omega) (fun j hj e => by have := (hown.lt j e).1; clear hr1 hf1; omega)) K21 (by have := kg.size; have := W19.out.2.2.1.size; clear hr1 hf1; omega) (fun j hj e => by clear hr1 hf1; omega)⟩
                    by_cases e : i = x
                    · subst e
                      rw [upd_at]
                      show (f' i).m = (f' i).t ++ zs ∧ Bytes ((f' i).t ++ zs) ∧ ((f' i).t ++ zs).length ≤ _
                      rw [ef.2.2, ef.1, al.1]
                      refine ⟨rfl, fun z hz => ?_, by rw [List.length_append]; have := al.2.2; have := HD.out; clear hr1 hf1; omega⟩
                      rcases List.mem_append.1 hz with h1 | h1
                      · exact al.2.1 z h1
                      · exact Y1.out.2.2.2.2.1.bytes z h1
                    · rw [upd_ne _ _ _ _ e, ← HF.out, upd_ne _ _ _ _ e]
                      have := Y1.out.2.1 i hi
                      exact ⟨this.1, this.2.1, by have := this.2.2; have := HD.out; clear hr1 hf1; omega⟩
                  clear hT21 ho20 hg20 ha20 X20 ef al
                  refine wpAny_ready (rs := [8]) (by kernel_rfl) (by simp) (AllReady.cons rfl (fun K hK => ?_) AllReady.nil)
                  go_simp
                  refine hK _ _ ?_
                  clear hK K
                  refine wpAny_done (by kernel_rfl) (NoPanic.normal ?_) _
                  go_wp2
                  exact ⟨⟨k + 1, _, by clear hr1 hf1; omega, by go_num, W21.out.1, W21.out.2.1, W21.out.2.2.1, W21.out.2.2.2⟩, by simp [intOf]; clear hr1 hf1; omega⟩
          · have h0' : (ki == 0) = false := by simpa using h0
            go_wp2_with (first | (refine wpList_load_mid rfl 42 _ rfl b (o + k * 3) rfl (opV on ki po zs.length pc) _ HR.out Tryd.underlying42 rfl sizeOp ?_) | (refine wpList_alloc_new rfl 42 rfl 3 [.int .i64 0, .int .i64 0, .slice none 0 0] zeroOp ?_; intro w12 b12 s12 l12) | (refine wpList_store_blk rfl 42 42 _ _ rfl _ rfl _ (opV on ki po zs.length pc) rfl b12 rfl sizeOp (op_one _ _ _ _ _) ?_; intro w13 b13 s13 k13; have L13 : Hid (Below w11.heap.size w11 w13) := below_kept l12 k13 (by clear hr1 hf1; omega) (fun j hj => by clear hr1 hf1; omega); have e0 : w13.cell? ⟨w11.heap.size, 0, none⟩ = some (.int .i64 on) := b13.cell 0; have e1 : w13.cell? ⟨w11.heap.size, 1, none⟩ = some (.int .i64 ki) := b13.cell 1; have e2 : w13.cell? ⟨w11.heap.size, 2, none⟩ = some (.slice po zs.length pc) := b13.cell 2))
            have W14 : Hid (Three w13 w.heap.size A X (pk ka kb) f ∧ Blk w13 w.heap.size 37 (ksC (pk ao bo) (pk an bn) (pk ac bc)) ∧ Below w.heap.size w w13) := ⟨Y1.out.1.later L13.out, Y1.out.2.2.1.later L13.out Y1.out.2.2.1.lt, below_chain Y1.out.2.2.2.1 L13.out qr⟩
            clear b12 b13 s12 s13 l12 k13 e0 e1 e2
            have cK : ∃ qo qn qc, (ksC (pk ao bo) (pk an bn) (pk ac bc))[x]? = some (.slice qo qn qc) ∧ Seen w qo qn ((pk ka kb) x) ∧ (qo = none → qc = 0) ∧ qn ≤ 1048576 := ⟨_, _, _, ks_at _ _ _ x hx3, HX.out.2.2.seen x hx3, HX.out.2.2.nil x hx3, HX.out.2.2.top x hx3⟩
            obtain ⟨qo, qn, qc, cK, sK, nK, tK⟩ := cK
            have AL : Alike 1048576 f := fun i hi => ⟨(Y1.out.2.1 i hi).1, (Y1.out.2.1 i hi).2.1, by have := (Y1.out.2.1 i hi).2.2; have := HD.out; clear hr1 hf1; omega⟩
            have al := AL x hx3
            have mw := W14.out.1.mac x hx3
            have ow := W14.out.1.own x hx3
            rw [al.1] at mw
            obtain ⟨vo, vc, ev, sv, hvc, hv0, _, _⟩ := own_data al.2.1 (by have := al.2.2; clear hr1 hf1; omega) ow
            have hvl : (f x).t.length ≤ 17592186044416 := by have := al.2.2; clear hr1 hf1; omega
            obtain ⟨M, hM⟩ : ∃ M, mac ((pk ka kb) x) (f x).t = M := ⟨_, rfl⟩
            have HM : Hid (mac ((pk ka kb) x) (f x).t = M ∧ M.length = 32) := ⟨hM, by rw [← hM]; exact mac_length _ _⟩
            have HV : Hid ((f x).v = .slice vo (f x).t.length vc) := ev
            have heq : ∀ wx, (Op.equalIn 10000 28 (.agg (u8s M).toArray) (.agg (u8s M).toArray)).run Tryd.prog wx = .ok true wx := equal_self 9998 M HM.out.2
            obtain ⟨tn, htn⟩ : ∃ tn, (f x).t.length = tn := ⟨_, rfl⟩
            have HS : Hid (∀ W, Below w13.heap.size w13 W → W.cell? ⟨A, x, none⟩ = some (ptrM (f x)) ∧ W.cell? ⟨w.heap.size, x, none⟩ = some (.slice qo qn qc) ∧ W.cell? ⟨X, x, none⟩ = some (.slice vo tn vc) ∧ MacAt W (f x).P (f x).g (f x).g' ((pk ka kb) x) (f x).t ∧ KTab W ∧ Seen W qo qn ((pk ka kb) x) ∧ Seen W vo tn (f x).t) := fun W hW => by
              have lw := below_chain W14.out.2.2 hW W14.out.2.2.size
              have T := W14.out.1.later hW
              rw [htn] at sv ev
              exact ⟨(three_at T x hx3).1, ((W14.out.2.1.later hW W14.out.2.1.lt).cell x).trans cK, by rw [← ev]; exact (three_at T x hx3).2, mw.now hW, HX.out.2.1.below lw HX.out.2.1.lt, sK.later lw (Nat.le_refl _), sv.later hW (Nat.le_refl _)⟩
            have HVL : Hid (tn ≤ 17592186044416 ∧ qn ≤ 1048576 ∧ (qo = none → qc = 0) ∧ (vo = none → vc = 0)) := ⟨by rw [← htn]; exact hvl, tK, nK, hv0⟩
            clear cK sK nK tK al mw ow ev sv hvc hv0 hvl hM htn
            refine region_invT [.val (.int .i64 (x : Int)), .val (.pointer (some ⟨A, x, none⟩)), .val (ptrM (f x)), .val (.agg (u8s M).toArray), .val (.int .i64 (x : Int)), .val (.pointer (some ⟨w.heap.size, x, none⟩)), .val (.slice qo qn qc), .val (.int .i64 (x : Int)), .val (.pointer (some ⟨X, x, none⟩)), .val (.slice vo tn vc), .val (.agg (u8s M).toArray)] (by kernel_rfl) (by kernel_rfl) (by kernel_rfl) ?_ ?_
            · refine Steps'.cons ?_ (Steps'.cons ?_ (Steps'.cons ?_ (Steps'.cons ?_ (Steps'.cons ?_ (Steps'.cons ?_ (Steps'.cons ?_ (Steps'.cons ?_ (Steps'.cons ?_ (Steps'.cons ?_ (Steps'.cons ?_ (Steps'.one _ _ _ _ _ _ _)))))))))))
              · intro ax wx hb hs hd
                have h15 : ax.tmps.getD 15 undef = (.int .i64 (x : Int)) := hs 15 (by kernel_rfl)
                refine Does.value (.int .i64 (x : Int)) ?_ rfl
                clear hs hd
                go_simp
              · intro ax wx hb hs hd
                have h8 : ax.tmps.getD 8 undef = (.pointer (some ⟨A, 0, none⟩)) := hs 8 (by kernel_rfl)
                have h129 : ax.tmps.getD 129 undef = (.int .i64 (x : Int)) := hd 0 129 rfl (by kernel_rfl) (by decide)
                refine Does.value (.pointer (some ⟨A, x, none⟩)) ?_ rfl
                clear hs hd
                go_simp
              · intro ax wx hb hs hd
                have h130 : ax.tmps.getD 130 undef = (.pointer (some ⟨A, x, none⟩)) := hd 1 130 rfl (by kernel_rfl) (by decide)
                have hc1 := (HS.out wx hb).1
                obtain ⟨pp, hpp⟩ : ∃ pp, ptrM (f x) = pp := ⟨_, rfl⟩
                rw [hpp] at hc1 ⊢
                clear hpp
                refine Does.value pp ?_ rfl
                clear hs hd
                go_simp
              · intro ax wx hb hs hd
                have h131 : ax.tmps.getD 131 undef = (ptrM (f x)) := hd 2 131 rfl (by kernel_rfl) (by decide)
                refine Does.call 21 #[ptrM (f x)] (by clear hs hd; go_simp) ?_
                refine (msum_any (f x).P (f x).g (f x).g' ((pk ka kb) x) (f x).t wx (HS.out wx hb).2.2.2.1 (HS.out wx hb).2.2.2.2.1).mono ?_
                rintro e w9 ⟨rfl, l9⟩
                rw [HM.out.1]
                exact ⟨_, rfl, rfl, l9⟩
              · intro ax wx hb hs hd
                have h15 : ax.tmps.getD 15 undef = (.int .i64 (x : Int)) := hs 15 (by kernel_rfl)
                refine Does.value (.int .i64 (x : Int)) ?_ rfl
                clear hs hd
                go_simp
              · intro ax wx hb hs hd
                have h7 : ax.tmps.getD 7 undef = (.pointer (some ⟨w.heap.size, 0, none⟩)) := hs 7 (by kernel_rfl)
                have h133 : ax.tmps.getD 133 undef = (.int .i64 (x : Int)) := hd 4 133 rfl (by kernel_rfl) (by decide)
                refine Does.value (.pointer (some ⟨w.heap.size, x, none⟩)) ?_ rfl
                clear hs hd
                go_simp
              · intro ax wx hb hs hd
                have h134 : ax.tmps.getD 134 undef = (.pointer (some ⟨w.heap.size, x, none⟩)) := hd 5 134 rfl (by kernel_rfl) (by decide)
                have hc2 := (HS.out wx hb).2.1
                refine Does.value (.slice qo qn qc) ?_ rfl
                clear hs hd
                go_simp
              · intro ax wx hb hs hd
                have h15 : ax.tmps.getD 15 undef = (.int .i64 (x : Int)) := hs 15 (by kernel_rfl)
                refine Does.value (.int .i64 (x : Int)) ?_ rfl
                clear hs hd
                go_simp
              · intro ax wx hb hs hd
                have h12 : ax.tmps.getD 12 undef = (.pointer (some ⟨X, 0, none⟩)) := hs 12 (by kernel_rfl)
                have h136 : ax.tmps.getD 136 undef = (.int .i64 (x : Int)) := hd 7 136 rfl (by kernel_rfl) (by decide)
                refine Does.value (.pointer (some ⟨X, x, none⟩)) ?_ rfl
                clear hs hd
                go_simp
              · intro ax wx hb hs hd
                have h137 : ax.tmps.getD 137 undef = (.pointer (some ⟨X, x, none⟩)) := hd 8 137 rfl (by kernel_rfl) (by decide)
                have hc2 := (HS.out wx hb).2.2.1
                refine Does.value (.slice vo tn vc) ?_ rfl
                clear hs hd
                go_simp
              · intro ax wx hb hs hd
                have h135 : ax.tmps.getD 135 undef = (.slice qo qn qc) := hd 6 135 rfl (by kernel_rfl) (by decide)
                have h138 : ax.tmps.getD 138 undef = (.slice vo tn vc) := hd 9 138 rfl (by kernel_rfl) (by decide)
                refine Does.call 11 #[(.slice qo qn qc), (.slice vo tn vc)] (by clear hs hd; go_simp) ?_
                refine (rvsum_any qo qn qc ((pk ka kb) x) vo tn vc (f x).t wx (HS.out wx hb).2.2.2.2.2.1 HVL.out.2.2.1 (by have := HVL.out.2.1; clear hr1 hf1; omega) (HS.out wx hb).2.2.2.2.2.2 HVL.out.2.2.2 HVL.out.1).mono ?_
                rintro e w9 ⟨rfl, l9⟩
                rw [HM.out.1]
                exact ⟨_, rfl, rfl, l9⟩
            · intro wx hb
              refine @Ends.val _ _ _ _ _ _ _ _ _ (.int .i64 (x : Int)) rfl ?_
              refine @Ends.val _ _ _ _ _ _ _ _ _ (.pointer (some ⟨A, x, none⟩)) rfl ?_
              refine @Ends.val _ _ _ _ _ _ _ _ _ (ptrM (f x)) rfl ?_
              refine @Ends.val _ _ _ _ _ _ _ _ _ (.agg (u8s M).toArray) rfl ?_
              refine @Ends.val _ _ _ _ _ _ _ _ _ (.int .i64 (x : Int)) rfl ?_
              refine @Ends.val _ _ _ _ _ _ _ _ _ (.pointer (some ⟨w.heap.size, x, none⟩)) rfl ?_
              refine @Ends.val _ _ _ _ _ _ _ _ _ (.slice qo qn qc) rfl ?_
              refine @Ends.val _ _ _ _ _ _ _ _ _ (.int .i64 (x : Int)) rfl ?_
              refine @Ends.val _ _ _ _ _ _ _ _ _ (.pointer (some ⟨X, x, none⟩)) rfl ?_
              refine @Ends.val _ _ _ _ _ _ _ _ _ (.slice vo tn vc) rfl ?_
              refine @Ends.val _ _ _ _ _ _ _ _ _ (.agg (u8s M).toArray) rfl ?_
              refine @Ends.one _ _ _ _ _ _ _ ?_
              simp only [Act.put, List.setIfInBounds_toArray, List.set_cons_zero, List.set_cons_succ]
              have W15 : Hid (Three wx w.heap.size A X (pk ka kb) f ∧ Blk wx w.heap.size 37 (ksC (pk ao bo) (pk an bn) (pk ac bc)) ∧ Below w.heap.size w wx) := ⟨W14.out.1.later hb, W14.out.2.1.later hb W14.out.2.1.lt, below_chain W14.out.2.2 hb W14.out.2.2.size⟩
              clear hb
              refine last_value (some 140) rfl (.bool false) (by go_simp) ?_
              simp only [Act.put, List.setIfInBounds_toArray, List.set_cons_zero, List.set_cons_succ]
              go_wp2
              exact ⟨⟨k + 1, f, by clear hr1 hf1; omega, by go_num, W15.out.1, fun i hi => ⟨(Y1.out.2.1 i hi).1, (Y1.out.2.1 i hi).2.1, by have := (Y1.out.2.1 i hi).2.2; have := HD.out; clear hr1 hf1; omega⟩, W15.out.2.1, W15.out.2.2⟩, by simp [intOf]; clear hr1 hf1; omega⟩
        · obtain rfl : k = sn := by omega
          have Y2 : Hid (Three wr w.heap.size A X (pk ka kb) f ∧ Alike (dats its k).length f ∧ Blk wr w.heap.size 37 (ksC (pk ao bo) (pk an bn) (pk ac bc)) ∧ Below w.heap.size w wr) := ⟨hT, hal, hbK, hbel⟩
          have HN : Hid ((dats its k).length ≤ 1048576) := HX.out.1.all
          have qr := hbel.size
          clear hT hal hbK hbel
          go_wp2
          go_loopw [20] (fun i wr => ∃ x : Nat, x ≤ 3 ∧ i = .int .i64 x ∧ Three wr w.heap.size A X (pk ka kb) f ∧ Blk wr w.heap.size 37 (ksC (pk ao bo) (pk an bn) (pk ac bc)) ∧ Below w.heap.size w wr) (fun i _ => 3 - (intOf i).toNat)
          case atStart => exact ⟨0, by omega, rfl, Y2.out.1, Y2.out.2.2.1, Y2.out.2.2.2⟩
          case round =>
            obtain ⟨x, hx4, rfl, hT, hbK, hbel⟩ := hrel
            by_cases hx3 : x < 3
            · have x1 : (0 : Int) ≤ (x : Int) := by omega
              have x2 : (x : Int) < (3 : Int) := by omega
              have W14 : Hid (Three wr w.heap.size A X (pk ka kb) f ∧ Blk wr w.heap.size 37 (ksC (pk ao bo) (pk an bn) (pk ac bc)) ∧ Below w.heap.size w wr) := ⟨hT, hbK, hbel⟩
              have AL : Hid (Alike 1048576 f) := fun i hi => ⟨(Y2.out.2.1 i hi).1, (Y2.out.2.1 i hi).2.1, by have := (Y2.out.2.1 i hi).2.2; have := HN.out; omega⟩
              clear hT hbK hbel
              obtain ⟨w13, rfl⟩ : ∃ w13, w13 = wr := ⟨_, rfl⟩
              have cK : ∃ qo qn qc, (ksC (pk ao bo) (pk an bn) (pk ac bc))[x]? = some (.slice qo qn qc) ∧ Seen w qo qn ((pk ka kb) x) ∧ (qo = none → qc = 0) ∧ qn ≤ 1048576 := ⟨_, _, _, ks_at _ _ _ x hx3, HX.out.2.2.seen x hx3, HX.out.2.2.nil x hx3, HX.out.2.2.top x hx3⟩
              obtain ⟨qo, qn, qc, cK, sK, nK, tK⟩ := cK
              have al := AL.out x hx3
              have mw := W14.out.1.mac x hx3
              have ow := W14.out.1.own x hx3
              rw [al.1] at mw
              obtain ⟨vo, vc, ev, sv, hvc, hv0, _, _⟩ := own_data al.2.1 (by have := al.2.2; omega) ow
              have hvl : (f x).t.length ≤ 17592186044416 := by have := al.2.2; omega
              obtain ⟨M, hM⟩ : ∃ M, mac ((pk ka kb) x) (f x).t = M := ⟨_, rfl⟩
              have HM : Hid (mac ((pk ka kb) x) (f x).t = M ∧ M.length = 32) := ⟨hM, by rw [← hM]; exact mac_length _ _⟩
              have HV : Hid ((f x).v = .slice vo (f x).t.length vc) := ev
              have heq : ∀ wx, (Op.equalIn 10000 28 (.agg (u8s M).toArray) (.agg (u8s M).toArray)).run Tryd.prog wx = .ok true wx := equal_self 9998 M HM.out.2
              obtain ⟨tn, htn⟩ : ∃ tn, (f x).t.length = tn := ⟨_, rfl⟩
              have HS : Hid (∀ W, Below w13.heap.size w13 W → W.cell? ⟨A, x, none⟩ = some (ptrM (f x)) ∧ W.cell? ⟨w.heap.size, x, none⟩ = some (.slice qo qn qc) ∧ W.cell? ⟨X, x, none⟩ = some (.slice vo tn vc) ∧ MacAt W (f x).P (f x).g (f x).g' ((pk ka kb) x) (f x).t ∧ KTab W ∧ Seen W qo qn ((pk ka kb) x) ∧ Seen W vo tn (f x).t) := fun W hW => by
                have lw := below_chain W14.out.2.2 hW W14.out.2.2.size
                have T := W14.out.1.later hW
                rw [htn] at sv ev
                exact ⟨(three_at T x hx3).1, ((W14.out.2.1.later hW W14.out.2.1.lt).cell x).trans cK, by rw [← ev]; exact (three_at T x hx3).2, mw.now hW, HX.out.2.1.below lw HX.out.2.1.lt, sK.later lw (Nat.le_refl _), sv.later hW (Nat.le_refl _)⟩
              have HVL : Hid (tn ≤ 17592186044416 ∧ qn ≤ 1048576 ∧ (qo = none → qc = 0) ∧ (vo = none → vc = 0)) := ⟨by rw [← htn]; exact hvl, tK, nK, hv0⟩
              clear cK sK nK tK al mw ow ev sv hvc hv0 hvl hM htn
              go_wp2
              refine region_invGT [.val (.int .i64 (x : Int)), .val (.pointer (some ⟨A, x, none⟩)), .val (ptrM (f x)), .val (.agg (u8s M).toArray), .val (.int .i64 (x : Int)), .val (.pointer (some ⟨w.heap.size, x, none⟩)), .val (.slice qo qn qc), .val (.int .i64 (x : Int)), .val (.pointer (some ⟨X, x, none⟩)), .val (.slice vo tn vc), .val (.agg (u8s M).toArray), .val (.bool false), .val (.bool false), .val (.int .i64 (x : Int)), .val (.pointer (some ⟨A, x, none⟩)), .val (ptrM (f x)), .val (.agg (u8s M).toArray), .val (.int .i64 (x : Int)), .val (.pointer (some ⟨w.heap.size, x, none⟩)), .val (.slice qo qn qc), .val (.int .i64 (x : Int)), .val (.pointer (some ⟨X, x, none⟩)), .val (.slice vo tn vc), .val (.agg (u8s M).toArray), .val (.bool false)] (by kernel_rfl) (by kernel_rfl) (by repeat (first | exact trivial | (refine ⟨by first | trivial | rfl, ?_⟩))) (by kernel_rfl) ?_ ?_
              · refine Steps'.cons ?_ (Steps'.cons ?_ (Steps'.cons ?_ (Steps'.cons ?_ (Steps'.cons ?_ (Steps'.cons ?_ (Steps'.cons ?_ (Steps'.cons ?_ (Steps'.cons ?_ (Steps'.cons ?_ (Steps'.cons ?_ (Steps'.cons ?_ (Steps'.cons ?_ (Steps'.cons ?_ (Steps'.cons ?_ (Steps'.cons ?_ (Steps'.cons ?_ (Steps'.cons ?_ (Steps'.cons ?_ (Steps'.cons ?_ (Steps'.cons ?_ (Steps'.cons ?_ (Steps'.cons ?_ (Steps'.cons ?_ (Steps'.cons ?_ (Steps'.one _ _ _ _ _ _ _)))))))))))))))))))))))))
                · intro ax wx hb hs hd
                  have h20 : ax.tmps.getD 20 undef = (.int .i64 (x : Int)) := hs 20 (by kernel_rfl)
                  refine Does.value (.int .i64 (x : Int)) ?_ rfl
                  clear hs hd
                  go_simp
                · intro ax wx hb hs hd
                  have h8 : ax.tmps.getD 8 undef = (.pointer (some ⟨A, 0, none⟩)) := hs 8 (by kernel_rfl)
                  have h145 : ax.tmps.getD 145 undef = (.int .i64 (x : Int)) := hd 0 145 rfl (by kernel_rfl) (by decide)
                  refine Does.value (.pointer (some ⟨A, x, none⟩)) ?_ rfl
                  clear hs hd
                  go_simp
                · intro ax wx hb hs hd
                  have h146 : ax.tmps.getD 146 undef = (.pointer (some ⟨A, x, none⟩)) := hd 1 146 rfl (by kernel_rfl) (by decide)
                  have hc1 := (HS.out wx hb).1
                  obtain ⟨pp, hpp⟩ : ∃ pp, ptrM (f x) = pp := ⟨_, rfl⟩
                  rw [hpp] at hc1 ⊢
                  clear hpp
                  refine Does.value pp ?_ rfl
                  clear hs hd
                  go_simp
                · intro ax wx hb hs hd
                  have h147 : ax.tmps.getD 147 undef = (ptrM (f x)) := hd 2 147 rfl (by kernel_rfl) (by decide)
                  refine Does.call 21 #[ptrM (f x)] (by clear hs hd; go_simp) ?_
                  refine (msum_any (f x).P (f x).g (f x).g' ((pk ka kb) x) (f x).t wx (HS.out wx hb).2.2.2.1 (HS.out wx hb).2.2.2.2.1).mono ?_
                  rintro e w9 ⟨rfl, l9⟩
                  rw [HM.out.1]
                  exact ⟨_, rfl, rfl, l9⟩
                · intro ax wx hb hs hd
                  have h20 : ax.tmps.getD 20 undef = (.int .i64 (x : Int)) := hs 20 (by kernel_rfl)
                  refine Does.value (.int .i64 (x : Int)) ?_ rfl
                  clear hs hd
                  go_simp
                · intro ax wx hb hs hd
                  have h7 : ax.tmps.getD 7 undef = (.pointer (some ⟨w.heap.size, 0, none⟩)) := hs 7 (by kernel_rfl)
                  have h149 : ax.tmps.getD 149 undef = (.int .i64 (x : Int)) := hd 4 149 rfl (by kernel_rfl) (by decide)
                  refine Does.value (.pointer (some ⟨w.heap.size, x, none⟩)) ?_ rfl
                  clear hs hd
                  go_simp
                · intro ax wx hb hs hd
                  have h150 : ax.tmps.getD 150 undef = (.pointer (some ⟨w.heap.size, x, none⟩)) := hd 5 150 rfl (by kernel_rfl) (by decide)
                  have hc2 := (HS.out wx hb).2.1
                  refine Does.value (.slice qo qn qc) ?_ rfl
                  clear hs hd
                  go_simp
                · intro ax wx hb hs hd
                  have h20 : ax.tmps.getD 20 undef = (.int .i64 (x : Int)) := hs 20 (by kernel_rfl)
                  refine Does.value (.int .i64 (x : Int)) ?_ rfl
                  clear hs hd
                  go_simp
                · intro ax wx hb hs hd
                  have h12 : ax.tmps.getD 12 undef = (.pointer (some ⟨X, 0, none⟩)) := hs 12 (by kernel_rfl)
                  have h152 : ax.tmps.getD 152 undef = (.int .i64 (x : Int)) := hd 7 152 rfl (by kernel_rfl) (by decide)
                  refine Does.value (.pointer (some ⟨X, x, none⟩)) ?_ rfl
                  clear hs hd
                  go_simp
                · intro ax wx hb hs hd
                  have h153 : ax.tmps.getD 153 undef = (.pointer (some ⟨X, x, none⟩)) := hd 8 153 rfl (by kernel_rfl) (by decide)
                  have hc2 := (HS.out wx hb).2.2.1
                  refine Does.value (.slice vo tn vc) ?_ rfl
                  clear hs hd
                  go_simp
                · intro ax wx hb hs hd
                  have h151 : ax.tmps.getD 151 undef = (.slice qo qn qc) := hd 6 151 rfl (by kernel_rfl) (by decide)
                  have h154 : ax.tmps.getD 154 undef = (.slice vo tn vc) := hd 9 154 rfl (by kernel_rfl) (by decide)
                  refine Does.call 11 #[(.slice qo qn qc), (.slice vo tn vc)] (by clear hs hd; go_simp) ?_
                  refine (rvsum_any qo qn qc ((pk ka kb) x) vo tn vc (f x).t wx (HS.out wx hb).2.2.2.2.2.1 HVL.out.2.2.1 (by have := HVL.out.2.1; omega) (HS.out wx hb).2.2.2.2.2.2 HVL.out.2.2.2 HVL.out.1).mono ?_
                  rintro e w9 ⟨rfl, l9⟩
                  rw [HM.out.1]
                  exact ⟨_, rfl, rfl, l9⟩
                · intro ax wx hb hs hd
                  have h148 : ax.tmps.getD 148 undef = (.agg (u8s M).toArray) := hd 3 148 rfl (by kernel_rfl) (by decide)
                  have h155 : ax.tmps.getD 155 undef = (.agg (u8s M).toArray) := hd 10 155 rfl (by kernel_rfl) (by decide)
                  refine Does.value (.bool false) ?_ rfl
                  clear hs hd
                  go_simp
                · intro ax wx hb hs hd
                  have h156 : ax.tmps.getD 156 undef = (.bool false) := hd 11 156 rfl (by kernel_rfl) (by decide)
                  refine Does.value (.bool false) ?_ rfl
                  clear hs hd
                  go_simp
                · intro ax wx hb hs hd
                  have h20 : ax.tmps.getD 20 undef = (.int .i64 (x : Int)) := hs 20 (by kernel_rfl)
                  refine Does.value (.int .i64 (x : Int)) ?_ rfl
                  clear hs hd
                  go_simp
                · intro ax wx hb hs hd
                  have h8 : ax.tmps.getD 8 undef = (.pointer (some ⟨A, 0, none⟩)) := hs 8 (by kernel_rfl)
                  have h158 : ax.tmps.getD 158 undef = (.int .i64 (x : Int)) := hd 13 158 rfl (by kernel_rfl) (by decide)
                  refine Does.value (.pointer (some ⟨A, x, none⟩)) ?_ rfl
                  clear hs hd
                  go_simp
                · intro ax wx hb hs hd
                  have h159 : ax.tmps.getD 159 undef = (.pointer (some ⟨A, x, none⟩)) := hd 14 159 rfl (by kernel_rfl) (by decide)
                  have hc1 := (HS.out wx hb).1
                  obtain ⟨pp, hpp⟩ : ∃ pp, ptrM (f x) = pp := ⟨_, rfl⟩
                  rw [hpp] at hc1 ⊢
                  clear hpp
                  refine Does.value pp ?_ rfl
                  clear hs hd
                  go_simp
                · intro ax wx hb hs hd
                  have h160 : ax.tmps.getD 160 undef = (ptrM (f x)) := hd 15 160 rfl (by kernel_rfl) (by decide)
                  refine Does.call 21 #[ptrM (f x)] (by clear hs hd; go_simp) ?_
                  refine (msum_any (f x).P (f x).g (f x).g' ((pk ka kb) x) (f x).t wx (HS.out wx hb).2.2.2.1 (HS.out wx hb).2.2.2.2.1).mono ?_
                  rintro e w9 ⟨rfl, l9⟩
                  rw [HM.out.1]
                  exact ⟨_, rfl, rfl, l9⟩
                · intro ax wx hb hs hd
                  have h20 : ax.tmps.getD 20 undef = (.int .i64 (x : Int)) := hs 20 (by kernel_rfl)
                  refine Does.value (.int .i64 (x : Int)) ?_ rfl
                  clear hs hd
                  go_simp
                · intro ax wx hb hs hd
                  have h7 : ax.tmps.getD 7 undef = (.pointer (some ⟨w.heap.size, 0, none⟩)) := hs 7 (by kernel_rfl)
                  have h162 : ax.tmps.getD 162 undef = (.int .i64 (x : Int)) := hd 17 162 rfl (by kernel_rfl) (by decide)
                  refine Does.value (.pointer (some ⟨w.heap.size, x, none⟩)) ?_ rfl
                  clear hs hd
                  go_simp
                · intro ax wx hb hs hd
                  have h163 : ax.tmps.getD 163 undef = (.pointer (some ⟨w.heap.size, x, none⟩)) := hd 18 163 rfl (by kernel_rfl) (by decide)
                  have hc2 := (HS.out wx hb).2.1
                  refine Does.value (.slice qo qn qc) ?_ rfl
                  clear hs hd
                  go_simp
                · intro ax wx hb hs hd
                  have h20 : ax.tmps.getD 20 undef = (.int .i64 (x : Int)) := hs 20 (by kernel_rfl)
                  refine Does.value (.int .i64 (x : Int)) ?_ rfl
                  clear hs hd
                  go_simp
                · intro ax wx hb hs hd
                  have h12 : ax.tmps.getD 12 undef = (.pointer (some ⟨X, 0, none⟩)) := hs 12 (by kernel_rfl)
                  have h165 : ax.tmps.getD 165 undef = (.int .i64 (x : Int)) := hd 20 165 rfl (by kernel_rfl) (by decide)
                  refine Does.value (.pointer (some ⟨X, x, none⟩)) ?_ rfl
                  clear hs hd
                  go_simp
                · intro ax wx hb hs hd
                  have h166 : ax.tmps.getD 166 undef = (.pointer (some ⟨X, x, none⟩)) := hd 21 166 rfl (by kernel_rfl) (by decide)
                  have hc2 := (HS.out wx hb).2.2.1
                  refine Does.value (.slice vo tn vc) ?_ rfl
                  clear hs hd
                  go_simp
                · intro ax wx hb hs hd
                  have h164 : ax.tmps.getD 164 undef = (.slice qo qn qc) := hd 19 164 rfl (by kernel_rfl) (by decide)
                  have h167 : ax.tmps.getD 167 undef = (.slice vo tn vc) := hd 22 167 rfl (by kernel_rfl) (by decide)
                  refine Does.call 11 #[(.slice qo qn qc), (.slice vo tn vc)] (by clear hs hd; go_simp) ?_
                  refine (rvsum_any qo qn qc ((pk ka kb) x) vo tn vc (f x).t wx (HS.out wx hb).2.2.2.2.2.1 HVL.out.2.2.1 (by have := HVL.out.2.1; omega) (HS.out wx hb).2.2.2.2.2.2 HVL.out.2.2.2 HVL.out.1).mono ?_
                  rintro e w9 ⟨rfl, l9⟩
                  rw [HM.out.1]
                  exact ⟨_, rfl, rfl, l9⟩
                · intro ax wx hb hs hd
                  have h161 : ax.tmps.getD 161 undef = (.agg (u8s M).toArray) := hd 16 161 rfl (by kernel_rfl) (by decide)
                  have h168 : ax.tmps.getD 168 undef = (.agg (u8s M).toArray) := hd 23 168 rfl (by kernel_rfl) (by decide)
                  refine Does.value (.bool false) ?_ rfl
                  clear hs hd
                  go_simp
              · intro wx hb
                refine @Ends.val _ _ _ _ _ _ _ _ _ (.int .i64 (x : Int)) rfl ?_
                refine @Ends.val _ _ _ _ _ _ _ _ _ (.pointer (some ⟨A, x, none⟩)) rfl ?_
                refine @Ends.val _ _ _ _ _ _ _ _ _ (ptrM (f x)) rfl ?_
                refine @Ends.val _ _ _ _ _ _ _ _ _ (.agg (u8s M).toArray) rfl ?_
                refine @Ends.val _ _ _ _ _ _ _ _ _ (.int .i64 (x : Int)) rfl ?_
                refine @Ends.val _ _ _ _ _ _ _ _ _ (.pointer (some ⟨w.heap.size, x, none⟩)) rfl ?_
                refine @Ends.val _ _ _ _ _ _ _ _ _ (.slice qo qn qc) rfl ?_
                refine @Ends.val _ _ _ _ _ _ _ _ _ (.int .i64 (x : Int)) rfl ?_
                refine @Ends.val _ _ _ _ _ _ _ _ _ (.pointer (some ⟨X, x, none⟩)) rfl ?_
                refine @Ends.val _ _ _ _ _ _ _ _ _ (.slice vo tn vc) rfl ?_
                refine @Ends.val _ _ _ _ _ _ _ _ _ (.agg (u8s M).toArray) rfl ?_
                refine @Ends.val _ _ _ _ _ _ _ _ _ (.bool false) rfl ?_
                refine @Ends.val _ _ _ _ _ _ _ _ _ (.bool false) rfl ?_
                refine @Ends.val _ _ _ _ _ _ _ _ _ (.int .i64 (x : Int)) rfl ?_
                refine @Ends.val _ _ _ _ _ _ _ _ _ (.pointer (some ⟨A, x, none⟩)) rfl ?_
                refine @Ends.val _ _ _ _ _ _ _ _ _ (ptrM (f x)) rfl ?_
                refine @Ends.val _ _ _ _ _ _ _ _ _ (.agg (u8s M).toArray) rfl ?_
                refine @Ends.val _ _ _ _ _ _ _ _ _ (.int .i64 (x : Int)) rfl ?_
                refine @Ends.val _ _ _ _ _ _ _ _ _ (.pointer (some ⟨w.heap.size, x, none⟩)) rfl ?_
                refine @Ends.val _ _ _ _ _ _ _ _ _ (.slice qo qn qc) rfl ?_
                refine @Ends.val _ _ _ _ _ _ _ _ _ (.int .i64 (x : Int)) rfl ?_
                refine @Ends.val _ _ _ _ _ _ _ _ _ (.pointer (some ⟨X, x, none⟩)) rfl ?_
                refine @Ends.val _ _ _ _ _ _ _ _ _ (.slice vo tn vc) rfl ?_
                refine @Ends.val _ _ _ _ _ _ _ _ _ (.agg (u8s M).toArray) rfl ?_
                refine @Ends.val _ _ _ _ _ _ _ _ _ (.bool false) rfl ?_
                refine @Ends.one _ _ _ _ _ _ _ ?_
                simp only [Act.put, List.setIfInBounds_toArray, List.set_cons_zero, List.set_cons_succ]
                have W15 : Hid (Three wx w.heap.size A X (pk ka kb) f ∧ Blk wx w.heap.size 37 (ksC (pk ao bo) (pk an bn) (pk ac bc)) ∧ Below w.heap.size w wx) := ⟨W14.out.1.later hb, W14.out.2.1.later hb W14.out.2.1.lt, below_chain W14.out.2.2 hb W14.out.2.2.size⟩
                clear hb
                refine last_value (some 170) rfl (.bool false) (by go_simp) ?_
                simp only [Act.put, List.setIfInBounds_toArray, List.set_cons_zero, List.set_cons_succ]
                go_wp2
                exact ⟨⟨x + 1, by omega, by go_num, W15.out.1, W15.out.2.1, W15.out.2.2⟩, by simp [intOf]; omega⟩
            · obtain rfl : x = 3 := by omega
              have Y3 : Hid (Below w.heap.size w wr) := hbel
              clear hT hbK hbel
              go_wp2_with (go_at_call 18; refine (works_any _ (HX.out.2.1.below Y3.out HX.out.2.1.lt)).mono ?_; rintro e w7 ⟨rfl, l7⟩)
              go_ret
              exact ⟨rfl, below_chain Y3.out l7 Y3.out.size⟩
end Go.Proofs.YtiimjhahblmggaaDoor.deriveWrites
