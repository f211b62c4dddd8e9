/- Layer field: the statements' prime and awake; the laws of numbers modulo the prime. -/
import Derived.Test.YtnifolefhelmcaaFEq
import Derived.Test.YtnifolefhelmcaaFOf
import Derived.Test.YtnifolefhelmcaaFMul
namespace Go.Proofs.Ytnifolefhelmcaa
open Go.RowKit
set_option linter.unusedVariables false
set_option linter.unusedSimpArgs false

/-- The value is an Elem whose number is x. -/
def isF (x : Int) (v : Value) (w : World) : Prop := ∃ l, v = .agg (u64s l).toArray ∧ Fe l x
theorem isF_later (x : Int) : ∀ v w w', Below w.heap.size w w' → isF x v w → isF x v w' := fun _ _ _ _ h => h
theorem wpList_load_g {ops : Array Oper} {rest : List Oper} {o : Oper} {a : Act} {Q : Exit → Act → World → Prop} {w : World} (hw : Region.wanted o (yielded ops a.tmps) = true) (t : TypeId) (x : Operand) (ho : o.op = .load t x) (g : Nat) (hx : a.eval x = .pointer (some ⟨g, 0, none⟩))
    (vs : List Value) (d : TypeDesc) (hb : Blk w g t vs) (hu : Try.prog.underlying t = some d) (hd : d.isRow = true) (hi : (Try.prog.info? t).map (·.size) = some vs.length)
    (h : wpList Try.prog ops Q rest (a.put o.dst (.agg vs.toArray)) w) : wpList Try.prog ops Q (o :: rest) a w :=
  wpList_step fun K hK => by
    simp only [hw, if_true]
    exact wp_load_mid t x ho g 0 hx vs d (fun j v hv => by rw [Nat.zero_add, hb.cell]; exact hv) hu hd hi (hK _ _ h)
theorem fzero_yes (l : List Int) (x : Int) (hl : Fe l x) (hx : x = 0) (w : World) :
    Calls Try.prog 19 #[.agg (u64s l).toArray] w fun e w' => e = .returned (.int .u64 18446744073709551615) ∧ Below w.heap.size w w' := by
  have h := fzero_any l x hl w
  subst hx
  exact h
theorem fzero_no (l : List Int) (x : Int) (hl : Fe l x) (hx : x ≠ 0) (w : World) :
    Calls Try.prog 19 #[.agg (u64s l).toArray] w fun e w' => e = .returned (.int .u64 0) ∧ Below w.heap.size w w' := by
  have h := fzero_any l x hl w
  rw [show (x == 0) = false by simpa using hx] at h
  exact h
/-- The prime's bytes, less c. -/
def primeL (c : Int) : List Int := ((List.replicate 32 255).set 0 (237 - c)).set 31 127
theorem primeL_length (c : Int) : (primeL c).length = 32 := rfl
theorem primeL_bytes (c : Int) (h : 0 ≤ c ∧ c ≤ 237) : Bytes (primeL c) := by
  intro z hz
  have : z = 237 - c ∨ z = 255 ∨ z = 127 := by
    simp [primeL, List.replicate] at hz
    omega
  omega
set_option maxRecDepth 20000 in
set_option maxHeartbeats 1000000 in
theorem prime_any (c : Int) (hc : 0 ≤ c ∧ c ≤ 237) (w : World) :
    Calls Try.prog 64 #[.int .u8 c] w fun e w' => e = .returned (.agg (u8s (primeL c)).toArray) ∧ Below w.heap.size w w' := by
  have HL : Hid ((List.replicate 32 (255 : Int)).length = 32) := rfl
  have e0 : IntKind.u8.wrap (237 - c) = 237 - c := by rw [IntKind.wrap_u8']; omega
  clear hc
  go_enter Try.func64, Try.ntmps64
  go_wp2_with (first | ((with_reducible show wpList _ _ _ _ _ w); refine wpList_alloc_new rfl 29 rfl 32 _ zero32 ?_; intro x1 z1 s1 l1) | (refine wpList_alloc_new rfl 29 rfl 32 _ zero32 ?_; intro x2 z2 s2 l2; rw [s1] at z2))
  have WW : Hid (Below w.heap.size w x2 ∧ Blk x2 w.heap.size 29 (u8s (List.replicate 32 0)) ∧ Blk x2 (w.heap.size + 1) 29 (u8s (List.replicate 32 0))) := ⟨below_chain l1 l2 (by omega), z1.later l2 (by omega), z2⟩
  clear z1 s1 l1 z2 s2 l2
  go_loopw [4] (fun i wr => ∃ (k : Nat), k ≤ 32 ∧ i = .int .i64 k ∧ Blk wr (w.heap.size + 1) 29 (u8s (byK (List.replicate 32 255) k)) ∧ Kept (fun x => x = w.heap.size + 1) x2 wr) (fun i _ => 32 - (intOf i).toNat)
  case atStart => exact ⟨0, by omega, rfl, by simpa [byK] using WW.out.2.2, Kept.refl _ _⟩
  case round =>
    obtain ⟨k, hk, rfl, hblk, hkp⟩ := hrel
    by_cases hlt : k < 32
    · have i1 : (k : Int) < 32 := by omega
      have i3 : (0 : Int) ≤ (k : Int) := by omega
      have c2 : wr.cell? ⟨w.heap.size + 1, k, none⟩ = some (.int .u8 ((byK (List.replicate 32 255) k).getD k 0)) := u8s_cell hblk k (by rw [byK_length _ HL.out k hk]; exact hlt)
      have fg := hblk.frozen k
      obtain ⟨Z, hZ⟩ : ∃ z, (byK (List.replicate 32 255) k).getD k 0 = z := ⟨_, rfl⟩
      rw [hZ] at c2
      have HQ : Hid (Blk wr (w.heap.size + 1) 29 (u8s (byK (List.replicate 32 255) k)) ∧ Kept (fun x => x = w.heap.size + 1) x2 wr) := ⟨hblk, hkp⟩
      clear hblk hkp hZ
      go_wp2_with fail
      go_roundw
      case rel =>
        have e : (List.replicate 32 (255 : Int)).getD k 0 = 255 := by rw [List.getD_eq_getElem?_getD, List.getElem?_replicate, if_pos hlt]; rfl
        have R := HQ.out.1.set k (.int .u8 255)
        have e2 := byK_set (List.replicate 32 255) HL.out k hlt
        rw [e] at e2
        rw [u8s_set, e2] at R
        exact ⟨k + 1, by omega, by go_num, R, HQ.out.2.setCell rfl _⟩
      case measure => simp [intOf]; omega
    · have hk5 : k = 32 := by omega
      have i1 : ¬ ((k : Int) < 32) := by omega
      rw [hk5, byK_all _ HL.out] at hblk
      have c0 : wr.cell? ⟨w.heap.size + 1, 0, none⟩ = some (.int .u8 255) := hblk.cell 0
      have c31 : wr.cell? ⟨w.heap.size + 1, 31, none⟩ = some (.int .u8 255) := hblk.cell 31
      have f0 := hblk.frozen 0
      have f31 := hblk.frozen 31
      have X1 : Hid (Blk ((wr.setCell ⟨w.heap.size + 1, 0, none⟩ (.int .u8 (237 - c))).setCell ⟨w.heap.size + 1, 31, none⟩ (.int .u8 127)) (w.heap.size + 1) 29 (u8s (primeL c)) ∧ Blk ((wr.setCell ⟨w.heap.size + 1, 0, none⟩ (.int .u8 (237 - c))).setCell ⟨w.heap.size + 1, 31, none⟩ (.int .u8 127)) w.heap.size 29 (u8s (List.replicate 32 0)) ∧ Below w.heap.size w ((wr.setCell ⟨w.heap.size + 1, 0, none⟩ (.int .u8 (237 - c))).setCell ⟨w.heap.size + 1, 31, none⟩ (.int .u8 127)) ∧ (u8s (primeL c)).length = 32) := by
        have R := (hblk.set 0 (.int .u8 (237 - c))).set 31 (.int .u8 127)
        rw [u8s_set, u8s_set] at R
        have K := (hkp.setCell (p := ⟨w.heap.size + 1, 0, none⟩) rfl (.int .u8 (237 - c))).setCell (p := ⟨w.heap.size + 1, 31, none⟩) rfl (.int .u8 127)
        exact ⟨R, WW.out.2.1.kept K (by omega), below_kept WW.out.1 K WW.out.1.size (fun j hj => by omega), rfl⟩
      clear hblk hkp hk5 hlt hk
      go_wp2_with (first | (refine wpList_load_blk rfl 29 _ rfl (w.heap.size + 1) rfl (u8s (primeL c)) _ X1.out.1 Try.underlying29 rfl (by rw [X1.out.2.2.2]; exact size32) ?_) | (refine wpList_store_blk rfl 29 29 _ _ rfl _ rfl _ (u8s (primeL c)) rfl X1.out.2.1 (by rw [X1.out.2.2.2]; rfl) (by rw [X1.out.2.2.2]; exact size32) (u8s_one _) ?_; intro w6 b6 s6 k6))
      exact ret_blk rfl w.heap.size (u8s (primeL c)) _ rfl b6 Try.underlying29 rfl (by rw [X1.out.2.2.2]; exact size32) rfl ⟨rfl, below_kept X1.out.2.2.1 k6 X1.out.2.2.1.size (fun j hj => by omega)⟩
theorem aw35 : (5 * 7 : Int) % PR = 35 := by decide
theorem aw1 : leB 32 ((0 - 1) % PR) = primeL 1 := by decide +kernel
theorem aw0 : le (primeL 0) % 57896044618658097711785492504343953926634992332820282019728792003956564819968 % PR = 0 := by decide +kernel
set_option maxRecDepth 20000 in
set_option maxHeartbeats 1000000 in
theorem awake_any (w : World) : Calls Try.prog 22 #[] w fun e w' => e = .returned (.bool true) ∧ Below w.heap.size w w' := by
  have heq : ∀ wx, (Op.equalIn 10000 29 (.agg (u8s (leB 32 35)).toArray) (.agg (u8s (leB 32 35)).toArray)).run Try.prog wx = .ok true wx := equal32A 29 32 Try.underlying29 9998 _ (leB_length _ _)
  have heq2 : ∀ wx, (Op.equalIn 10000 29 (.agg (u8s (primeL 1)).toArray) (.agg (u8s (primeL 1)).toArray)).run Try.prog wx = .ok true wx := equal32A 29 32 Try.underlying29 9998 _ (primeL_length _)
  have HB : Hid (∀ w, (Instr.build 29 #[(0, .int .u8 35)]).run Try.prog w = .ok (.agg (u8s (leB 32 35)).toArray) w) := fun w => by kernel_rfl
  obtain ⟨B35, h35⟩ : ∃ z, leB 32 35 = z := ⟨_, rfl⟩
  obtain ⟨P1, hP1⟩ : ∃ z, primeL 1 = z := ⟨_, rfl⟩
  have HA : Hid (leB 32 35 = B35 ∧ leB 32 ((0 - 1) % PR) = P1 ∧ primeL 1 = P1) := ⟨h35, by rw [aw1, hP1], hP1⟩
  rw [h35] at heq HB
  rw [hP1] at heq2
  clear h35 hP1
  go_enter Try.func22, Try.ntmps22
  go_wp2_with (first
    | ((with_reducible show Calls _ _ #[.int .u64 5] _ _); refine (small_any 5 (by decide) (by decide) _).mono ?_; rintro e x1 ⟨r5, rfl, f5, l1⟩)
    | ((with_reducible show Calls _ _ #[.int .u64 7] _ _); refine (small_any 7 (by decide) (by decide) _).mono ?_; rintro e x2 ⟨r7, rfl, f7, l2⟩)
    | (go_at_call 31; refine (mul_any _ _ _ _ f5 f7 _).mono ?_; rintro e x3 ⟨r35, rfl, f35, l3⟩; rw [aw35] at f35; have n35 : Hid (r35.length = 5) := f35.len)
    | ((with_reducible show wpList _ _ _ _ _ x3); refine wpList_alloc_new rfl 27 rfl 5 _ zeroElem ?_; intro x4 z4 s4 l4)
    | ((with_reducible show wpList _ _ _ _ _ x4); refine wpList_store_blk rfl 27 27 _ _ rfl _ rfl _ (u64s r35) rfl z4 (by rw [u64s_length, n35.out]; rfl) (by rw [u64s_length, n35.out]; exact sizeElem) (u64s_one _) ?_; intro x5 b5 s5 k5)
    | ((with_reducible show Calls _ _ #[.int .u64 0] _ _); refine (small_any 0 (by decide) (by decide) _).mono ?_; rintro e x6 ⟨r0, rfl, f0, l6⟩)
    | ((with_reducible show Calls _ _ #[.int .u64 1] _ _); refine (small_any 1 (by decide) (by decide) _).mono ?_; rintro e x7 ⟨r1, rfl, f1, l7⟩)
    | (go_at_call 52; refine (sub_any _ _ _ _ f0 f1 _).mono ?_; rintro e x8 ⟨rm, rfl, fm, l8⟩; have nm1 : Hid (rm.length = 5) := fm.len)
    | ((with_reducible show wpList _ _ _ _ _ x8); refine wpList_alloc_new rfl 27 rfl 5 _ zeroElem ?_; intro x9 z9 s9 l9)
    | ((with_reducible show wpList _ _ _ _ _ x9); refine wpList_store_blk rfl 27 27 _ _ rfl _ rfl _ (u64s rm) rfl z9 (by rw [u64s_length, nm1.out]; rfl) (by rw [u64s_length, nm1.out]; exact sizeElem) (u64s_one _) ?_; intro x10 b10 s10 k10)
    | ((with_reducible show wpList _ _ _ (({ dst := some 9, op := _, type := _, pos := _, after := _, guard := _ } : Oper) :: _) _ _); obtain ⟨GA, hGA⟩ : ∃ z, x3.heap.size = z := ⟨_, rfl⟩; obtain ⟨GM, hGM⟩ : ∃ z, x8.heap.size = z := ⟨_, rfl⟩; rw [hGA, hGM]; rw [hGA] at b5 k5; rw [hGM] at b10 k10; have WW : Hid (Blk x10 GA 27 (u64s r35) ∧ Blk x10 GM 27 (u64s rm) ∧ Below w.heap.size w x10) := (by have q1 := l1.size; have q2 := l2.size; have q3 := l3.size; have q6 := l6.size; have q7 := l7.size; have q8 := l8.size; have A6 := (((b5.later l6 (by omega)).later l7 (by omega)).later l8 (by omega)).later l9 (by omega); exact ⟨A6.kept k10 (by omega), b10, below_kept (below_chain (below_chain (below_chain (below_chain (below_kept (below_chain (below_chain (below_chain l1 l2 (by omega)) l3 (by omega)) l4 (by omega)) k5 (by omega) (fun j hj => by omega)) l6 (by omega)) l7 (by omega)) l8 (by omega)) l9 (by omega)) k10 (by omega) (fun j hj => by omega)⟩); clear l1 l2 l3 z4 s4 l4 b5 s5 k5 l6 l7 l8 z9 s9 l9 b10 s10 k10 hGA hGM; refine wpList_load_blk rfl 27 (.tmp 1) rfl GA rfl (u64s r35) _ WW.out.1 Try.underlying27 rfl (by rw [u64s_length, n35.out]; exact sizeElem) ?_)
    | ((with_reducible show Calls _ 18 #[.agg (u64s r35).toArray] _ _); refine (fbytes_any _ _ f35 _).mono ?_; rintro e x11 ⟨rfl, l11⟩; rw [HA.out.1])
    | ((with_reducible show wpList _ _ _ (({ dst := some 11, op := _, type := _, pos := _, after := _, guard := _ } : Oper) :: _) _ _); refine wpList_build rfl 29 _ rfl #[(0, .int .u8 35)] (by simp [Act.eval]) _ (HB.out _) ?_)
    | ((with_reducible show wpList _ _ _ (({ dst := some 14, op := _, type := _, pos := _, after := _, guard := _ } : Oper) :: _) _ _); refine wpList_load_g (by rfl) 27 (.tmp 2) rfl GM rfl (u64s rm) _ (WW.out.2.1.later l11 WW.out.2.1.lt) Try.underlying27 rfl (by rw [u64s_length, nm1.out]; exact sizeElem) ?_)
    | ((with_reducible show Calls _ 18 #[.agg (u64s rm).toArray] _ _); refine (fbytes_any _ _ fm _).mono ?_; rintro e x12 ⟨rfl, l12⟩; rw [HA.out.2.1])
    | ((with_reducible show Calls _ 64 #[.int .u8 1] _ _); refine (prime_any 1 (by decide) _).mono ?_; rintro e x13 ⟨rfl, l13⟩; rw [HA.out.2.2])
    | ((with_reducible show Calls _ 64 #[.int .u8 0] _ _); refine (prime_any 0 (by decide) _).mono ?_; rintro e x14 ⟨rfl, l14⟩)
    | (go_at_call 13; refine (fof_any _ (primeL_length 0) (primeL_bytes 0 (by decide)) _).mono ?_; rintro e x15 ⟨rp, rfl, fp, l15⟩; rw [aw0] at fp)
    | ((with_reducible show Calls _ 19 #[.agg (u64s rp).toArray] _ _); refine (fzero_yes _ _ fp rfl _).mono ?_; rintro e x16 ⟨rfl, l16⟩)
    | ((with_reducible show wpList _ _ _ (({ dst := some 26, op := _, type := _, pos := _, after := _, guard := _ } : Oper) :: _) _ _); refine wpList_load_g (by rfl) 27 (.tmp 1) rfl GA rfl (u64s r35) _ ((((((WW.out.1.later l11 WW.out.1.lt).later l12 (by have q := WW.out.1.lt; have := l11.size; omega)).later l13 (by have q := WW.out.1.lt; have := l11.size; have := l12.size; omega)).later l14 (by have q := WW.out.1.lt; have := l11.size; have := l12.size; have := l13.size; omega)).later l15 (by have q := WW.out.1.lt; have := l11.size; have := l12.size; have := l13.size; have := l14.size; omega)).later l16 (by have q := WW.out.1.lt; have := l11.size; have := l12.size; have := l13.size; have := l14.size; have := l15.size; omega)) Try.underlying27 rfl (by rw [u64s_length, n35.out]; exact sizeElem) ?_)
    | ((with_reducible show Calls _ 19 #[.agg (u64s r35).toArray] _ _); refine (fzero_no _ _ f35 (by decide) _).mono ?_; rintro e x17 ⟨rfl, l17⟩))
  go_ret
  refine ⟨rfl, ?_⟩
  have q0 := WW.out.2.2.size; have q1 := l11.size; have q2 := l12.size; have q3 := l13.size; have q4 := l14.size; have q5 := l15.size; have q6 := l16.size
  exact below_chain (below_chain (below_chain (below_chain (below_chain (below_chain (below_chain WW.out.2.2 l11 (by omega)) l12 (by omega)) l13 (by omega)) l14 (by omega)) l15 (by omega)) l16 (by omega)) l17 (by omega)
end Go.Proofs.Ytnifolefhelmcaa
