/- The document's numbers: Mul. -/
import Derived.Test.YtfeeikkfjbdkiaaRFLeast
import Derived.Test.YtfeeikkfjbdkiaaFRows
namespace Go.Proofs.Ytfeeikkfjbdkiaa
open Go.RowKit
set_option linter.unusedVariables false
set_option linter.unusedSimpArgs false

theorem vd_set : ∀ (l : List Int) (j : Nat) (d : Int), j < l.length → vd (l.set j (l.getD j 0 + d)) = vd l + 65536 ^ j * d
  | z :: l, 0, d, _ => by simp [vd]; omega
  | z :: l, j + 1, d, h => by
    have ih := vd_set l j d (by simpa using h)
    simp only [List.set_cons_succ, List.getD_cons_succ, vd, ih, Int.pow_succ]
    rw [Int.mul_add, ← Int.add_assoc, Int.mul_comm (65536 ^ j) 65536, Int.mul_assoc]
theorem vd_take (l : List Int) (k : Nat) (hk : k < l.length) : vd (l.take (k + 1)) = vd (l.take k) + 65536 ^ k * l.getD k 0 := by
  have h : ∀ (x y : List Int), vd (x ++ y) = vd x + 65536 ^ x.length * vd y := vd_app
  rw [take_succ_getD l k hk, h, List.length_take, Nat.min_eq_left (by omega)]
  simp [vd]
/-- What is summed so far. -/
def muK (x y : List Int) (i k : Nat) : Int := vd (x.take i) * vd y + 65536 ^ i * x.getD i 0 * vd (y.take k)
theorem muK_zero (x y : List Int) : muK x y 0 0 = 0 := by simp [muK, vd]
theorem muK_succ (x y : List Int) (i k : Nat) (hk : k < y.length) : muK x y i (k + 1) = muK x y i k + 65536 ^ (i + k) * (x.getD i 0 * y.getD k 0) := by
  rw [muK, muK, vd_take y k hk, Int.mul_add, ← Int.add_assoc, Int.pow_add]
  congr 1
  rw [Int.mul_assoc, Int.mul_assoc, Int.mul_left_comm (x.getD i 0)]
theorem muK_row (x y : List Int) (i : Nat) (hi : i < x.length) (hy : y.length = 16) : muK x y i 16 = muK x y (i + 1) 0 := by
  have e : y.take 16 = y := List.take_of_length_le (by omega)
  rw [muK, muK, e, vd_take x i hi, Int.add_mul, List.take_zero]
  simp [vd]
theorem muK_all (x y : List Int) (hx : x.length = 16) : muK x y 16 0 = vd x * vd y := by
  rw [muK, List.take_of_length_le (by omega)]
  simp [vd]
theorem wrap16 (j : Nat) (d : Int) : (65536 ^ j * (38 * d)) % PR = (65536 ^ (j + 16) * d) % PR := by
  have e : (65536 : Int) ^ (j + 16) * d = 65536 ^ j * (38 * d) + PR * (2 * (65536 ^ j * d)) := by
    rw [Int.pow_add, show (65536 : Int) ^ 16 = 38 + 2 * PR by decide, Int.mul_add, Int.add_mul]
    have e1 : (65536 : Int) ^ j * 38 * d = 65536 ^ j * (38 * d) := Int.mul_assoc ..
    have e2 : (65536 : Int) ^ j * (2 * PR) * d = PR * (2 * (65536 ^ j * d)) := by
      generalize (65536 : Int) ^ j = M
      generalize PR = P
      ac_rfl
    rw [e1, e2]
  rw [e, Int.add_mul_emod_self_left]
/-- How far the sums have come. -/
structure MuAt (x y : List Int) (i k : Nat) (l : List Int) : Prop where
  len : l.length = 16
  bd : ∀ z ∈ l, 0 ≤ z ∧ z ≤ 163208757248 * (16 * i + k : Nat)
  num : vd l % PR = muK x y i k % PR
theorem mu_bd (l : List Int) (j : Nat) (d B : Int) (c : Nat) (h : ∀ z ∈ l, 0 ≤ z ∧ z ≤ B * (c : Int)) (hj : j < l.length) (hd : 0 ≤ d ∧ d ≤ B) : ∀ z ∈ l.set j (l.getD j 0 + d), 0 ≤ z ∧ z ≤ B * ((c + 1 : Nat) : Int) := by
  have e : B * ((c + 1 : Nat) : Int) = B * (c : Int) + B := by rw [Int.natCast_add, Int.mul_add]; simp
  intro z hz
  rw [e]
  rcases List.mem_or_eq_of_mem_set hz with h1 | h1
  · have := h z h1; omega
  · have := h (l.getD j 0) (by simp [List.getD, hj])
    rw [h1]; omega
theorem mu_one (x y l : List Int) (i k : Nat) (h : MuAt x y i k l) (hk : k < y.length) (hs : i + k < 16) (hb : 0 ≤ x.getD i 0 * y.getD k 0 ∧ x.getD i 0 * y.getD k 0 ≤ 4294836225) : MuAt x y i (k + 1) (l.set (i + k) (l.getD (i + k) 0 + x.getD i 0 * y.getD k 0)) := by
  refine ⟨by rw [List.length_set, h.len], ?_, ?_⟩
  · have := mu_bd l (i + k) (x.getD i 0 * y.getD k 0) 163208757248 (16 * i + k) h.bd (by rw [h.len]; exact hs) (by omega)
    exact this
  · rw [vd_set l _ _ (by rw [h.len]; exact hs), muK_succ x y i k hk, Int.add_emod, h.num, ← Int.add_emod]
theorem mu_two (x y l : List Int) (i k t : Nat) (h : MuAt x y i k l) (hk : k < y.length) (ht : t + 16 = i + k) (ht2 : t < 16) (hb : 0 ≤ x.getD i 0 * y.getD k 0 ∧ x.getD i 0 * y.getD k 0 ≤ 4294836225) : MuAt x y i (k + 1) (l.set t (l.getD t 0 + 38 * x.getD i 0 * y.getD k 0)) := by
  rw [Int.mul_assoc]
  refine ⟨by rw [List.length_set, h.len], ?_, ?_⟩
  · have := mu_bd l t (38 * (x.getD i 0 * y.getD k 0)) 163208757248 (16 * i + k) h.bd (by rw [h.len]; exact ht2) (by omega)
    exact this
  · rw [vd_set l _ _ (by rw [h.len]; exact ht2), muK_succ x y i k hk, Int.add_emod, h.num, wrap16, ht, ← Int.add_emod]
set_option maxRecDepth 20000 in
set_option maxHeartbeats 4000000 in
theorem rmul_any (ap bp : List Int) (hla : ap.length = 32) (hba : Bytes ap) (hlb : bp.length = 32) (hbb : Bytes bp) (w : World) :
    Calls Try.prog 46 #[.agg (u8s ap).toArray, .agg (u8s bp).toArray] w fun e w' => e = .returned (.agg (u8s (leB 32 ((le ap * le bp) % PR))).toArray) ∧ Below w.heap.size w w' := by
  have hda := digits_any ap hla hba
  have hdb := digits_any bp hlb hbb
  have hbx := dgs_bd ap hba
  have hby := dgs_bd bp hbb
  have hlx := dgs_length 16 ap hla
  have hly := dgs_length 16 bp hlb
  have hvx := dgs_vd 16 ap hla
  have hvy := dgs_vd 16 bp hlb
  obtain ⟨x, hx⟩ : ∃ z, dgs ap = z := ⟨_, rfl⟩
  obtain ⟨y, hy⟩ : ∃ z, dgs bp = z := ⟨_, rfl⟩
  rw [hx] at hda hbx hlx hvx
  rw [hy] at hdb hby hly hvy
  rw [← hvx, ← hvy]
  have HA : Hid ((u8s ap).length = 32 ∧ (u8s bp).length = 32 ∧ (i64s x).length = 16 ∧ (i64s y).length = 16 ∧ x.length = 16 ∧ y.length = 16) := ⟨by rw [u8s_length, hla], by rw [u8s_length, hlb], by rw [i64s_length, hlx], by rw [i64s_length, hly], hlx, hly⟩
  have HC : Hid ((∀ w, Calls Try.prog 42 #[.agg (u8s ap).toArray] w fun e w' => e = .returned (.agg (i64s x).toArray) ∧ Below w.heap.size w w') ∧ (∀ w, Calls Try.prog 42 #[.agg (u8s bp).toArray] w fun e w' => e = .returned (.agg (i64s y).toArray) ∧ Below w.heap.size w w')) := ⟨hda, hdb⟩
  have HB : Hid ((∀ z ∈ x, 0 ≤ z ∧ z < 65536) ∧ (∀ z ∈ y, 0 ≤ z ∧ z < 65536)) := ⟨hbx, hby⟩
  clear hla hba hlb hbb hda hdb hbx hby hlx hly hvx hvy hx hy
  go_enter Try.func46, Try.ntmps46
  go_wp2_with (first | (refine wpList_box_new rfl 29 (.tmp 0) rfl (u8s ap) rfl ?_; intro x1 z1 s1 l1) | (refine wpList_box_new rfl 29 (.tmp 1) rfl (u8s bp) rfl ?_; intro x2 z2 s2 l2; rw [s1] at z2) | ((with_reducible show wpList _ _ _ _ _ x2); refine wpList_alloc_new rfl 29 rfl 32 _ zeroNum ?_; intro x3 z3 s3 l3; rw [s2, s1] at z3; rw [s2, s1]; have W3 : Hid (Below w.heap.size w x3 ∧ Blk x3 w.heap.size 29 (u8s ap) ∧ Blk x3 (w.heap.size + 1) 29 (u8s bp) ∧ Blk x3 (w.heap.size + 1 + 1) 29 (u8s (List.replicate 32 0)) ∧ w.heap.size + 3 ≤ x3.heap.size) := ⟨below_chain (below_chain l1 l2 (by omega)) l3 (by omega), (z1.later l2 (by omega)).later l3 (by omega), z2.later l3 (by omega), z3, by omega⟩; clear z1 s1 l1 z2 s2 l2 z3 s3 l3) | ((with_reducible show wpList _ _ _ (({ dst := some 10, op := _, type := _, pos := _, after := _, guard := _ } : Oper) :: _) _ _); refine wpList_load_blk rfl 29 (.tmp 2) rfl w.heap.size rfl (u8s ap) _ W3.out.2.1 Try.underlying29 rfl (by rw [HA.out.1]; exact sizeNum) ?_) | ((with_reducible show Calls _ 42 #[.agg (u8s ap).toArray] x3 _); refine (HC.out.1 _).mono ?_; rintro e x4 ⟨rfl, l4⟩) | ((with_reducible show wpList _ _ _ _ _ x4); refine wpList_alloc_new rfl 69 rfl 16 _ zeroA16 ?_; intro x5 z5 s5 l5) | ((with_reducible show wpList _ _ _ _ _ x5); refine wpList_store_blk rfl 69 69 _ _ rfl _ rfl _ (i64s x) rfl z5 (by rw [HA.out.2.2.1]; rfl) (by rw [HA.out.2.2.1]; exact sizeA16) (i64s_one _) ?_; intro x6 b6 s6 k6; obtain ⟨gx, hgx⟩ : ∃ z, x4.heap.size = z := ⟨_, rfl⟩; rw [hgx] at b6 k6; rw [hgx]; have W6 : Hid (Below w.heap.size w x6 ∧ Blk x6 (w.heap.size + 1) 29 (u8s bp) ∧ Blk x6 (w.heap.size + 1 + 1) 29 (u8s (List.replicate 32 0)) ∧ Blk x6 gx 69 (i64s x) ∧ w.heap.size + 3 ≤ gx) := (by have q := W3.out.2.2.2.2; have q4 := l4.size; exact ⟨below_kept (below_chain (below_chain W3.out.1 l4 W3.out.1.size) l5 (by omega)) k6 (by omega) (fun j hj => by omega), ((W3.out.2.2.1.later l4 (by omega)).later l5 (by omega)).kept k6 (by omega), ((W3.out.2.2.2.1.later l4 (by omega)).later l5 (by omega)).kept k6 (by omega), b6, by omega⟩); clear W3 l4 z5 s5 l5 b6 s6 k6 hgx) | ((with_reducible show wpList _ _ _ (({ dst := some 12, op := _, type := _, pos := _, after := _, guard := _ } : Oper) :: _) _ _); refine wpList_load_blk rfl 29 (.tmp 3) rfl (w.heap.size + 1) rfl (u8s bp) _ W6.out.2.1 Try.underlying29 rfl (by rw [HA.out.2.1]; exact sizeNum) ?_) | ((with_reducible show Calls _ 42 #[.agg (u8s bp).toArray] x6 _); refine (HC.out.2 _).mono ?_; rintro e x7 ⟨rfl, l7⟩) | ((with_reducible show wpList _ _ _ _ _ x7); refine wpList_alloc_new rfl 69 rfl 16 _ zeroA16 ?_; intro x8 z8 s8 l8) | ((with_reducible show wpList _ _ _ _ _ x8); refine wpList_store_blk rfl 69 69 _ _ rfl _ rfl _ (i64s y) rfl z8 (by rw [HA.out.2.2.2.1]; rfl) (by rw [HA.out.2.2.2.1]; exact sizeA16) (i64s_one _) ?_; intro x9 b9 s9 k9; obtain ⟨gy, hgy⟩ : ∃ z, x7.heap.size = z := ⟨_, rfl⟩; rw [hgy] at b9 k9 s8; rw [hgy]) | ((with_reducible show wpList _ _ _ _ _ x9); refine wpList_alloc_new rfl 69 rfl 16 _ zeroA16 ?_; intro xa za sa la))
  have hsz : x9.heap.size = gy + 1 := by omega
  rw [hsz] at za
  have WA : Hid (Below w.heap.size w xa ∧ Blk xa (w.heap.size + 1 + 1) 29 (u8s (List.replicate 32 0)) ∧ Blk xa gx 69 (i64s x) ∧ Blk xa gy 69 (i64s y) ∧ Blk xa (gy + 1) 69 (i64s (List.replicate 16 0)) ∧ w.heap.size + 3 ≤ gx ∧ gx < gy) := by
    have q := W6.out.2.2.2.2
    have q2 := W6.out.2.2.2.1.lt
    have q3 := W6.out.1.size
    have q7 := l7.size
    exact ⟨below_chain (below_kept (below_chain (below_chain W6.out.1 l7 W6.out.1.size) l8 (by omega)) k9 (by omega) (fun j hj => by omega)) la (by omega), (((W6.out.2.2.1.later l7 (by omega)).later l8 (by omega)).kept k9 (by omega)).later la (by omega), (((W6.out.2.2.2.1.later l7 (by omega)).later l8 (by omega)).kept k9 (by omega)).later la (by omega), b9.later la (by omega), za, q, by omega⟩
  try rw [hsz]
  clear W6 l7 z8 s8 l8 b9 s9 k9 hgy za sa la hsz
  go_loopw [8] (fun i wr => ∃ (i' : Nat) (l : List Int), i' ≤ 16 ∧ i = .int .i64 i' ∧ Blk wr (gy + 1) 69 (i64s l) ∧ MuAt x y i' 0 l ∧ Kept (fun b => b = gy + 1) xa wr) (fun i _ => 16 - (intOf i).toNat)
  case atStart =>
    refine ⟨0, List.replicate 16 0, by omega, rfl, WA.out.2.2.2.2.1, ⟨rfl, fun z hz => ?_, ?_⟩, Kept.refl _ _⟩
    · rw [List.eq_of_mem_replicate hz]; decide
    · rw [muK_zero]; rfl
  case round =>
    obtain ⟨i, l0, hi, rfl, hblk0, hmu0, hkp0⟩ := hrel
    by_cases hlti : i < 16
    · obtain ⟨w3, rfl⟩ : ∃ w3, w3 = wr := ⟨_, rfl⟩
      have i1 : (i : Int) < 16 := by omega
      have i3 : (0 : Int) ≤ (i : Int) := by omega
      have W3 : Hid (Blk w3 gx 69 (i64s x) ∧ Blk w3 gy 69 (i64s y) ∧ Blk w3 (gy + 1) 69 (i64s l0) ∧ MuAt x y i 0 l0 ∧ Kept (fun b => b = gy + 1) xa w3 ∧ gx < gy) := ⟨WA.out.2.2.1.kept hkp0 (by have := WA.out.2.2.2.2.2.2; omega), WA.out.2.2.2.1.kept hkp0 (by omega), hblk0, hmu0, hkp0, WA.out.2.2.2.2.2.2⟩
      clear hblk0 hmu0 hkp0
      go_wp2_with fail
      go_loopw [9] (fun j wr => ∃ (k : Nat) (l : List Int), k ≤ 16 ∧ j = .int .i64 k ∧ Blk wr (gy + 1) 69 (i64s l) ∧ MuAt x y i k l ∧ Kept (fun b => b = gy + 1) w3 wr) (fun j _ => 16 - (intOf j).toNat)
      case atStart => exact ⟨0, l0, by omega, rfl, W3.out.2.2.1, W3.out.2.2.2.1, Kept.refl _ _⟩
      case round =>
        obtain ⟨k, l, hk, rfl, hblk, hmu, hkp⟩ := hrel
        by_cases hkl : k < 16
        · have k1 : (k : Int) < 16 := by omega
          have k3 : (0 : Int) ≤ (k : Int) := by omega
          have hg1 := W3.out.2.2.2.2.2
          have n1 : gx ≠ gy + 1 := by omega
          have n2 : gy ≠ gy + 1 := by omega
          have cX := i64s_cell (W3.out.1.kept hkp (by omega)) i (by rw [HA.out.2.2.2.2.1]; exact hlti)
          have cY := i64s_cell (W3.out.2.1.kept hkp (by omega)) k (by rw [HA.out.2.2.2.2.2]; exact hkl)
          have bX : 0 ≤ x.getD i 0 ∧ x.getD i 0 < 65536 := HB.out.1 _ (by simp [List.getD, HA.out.2.2.2.2.1, hlti])
          have bY : 0 ≤ y.getD k 0 ∧ y.getD k 0 < 65536 := HB.out.2 _ (by simp [List.getD, HA.out.2.2.2.2.2, hkl])
          have hXY : 0 ≤ x.getD i 0 * y.getD k 0 ∧ x.getD i 0 * y.getD k 0 ≤ 4294836225 := by
            refine ⟨Int.mul_nonneg bX.1 bY.1, ?_⟩
            have h := Int.mul_le_mul (show x.getD i 0 ≤ 65535 by omega) (show y.getD k 0 ≤ 65535 by omega) bY.1 (by decide)
            exact h
          obtain ⟨s, hs⟩ : ∃ s : Nat, i + k = s := ⟨_, rfl⟩
          have j1 : (i : Int) + (k : Int) = (s : Int) := by omega
          have jw : IntKind.i64.wrap (s : Int) = (s : Int) := wi64 _ (by omega)
          have j0 : (0 : Int) ≤ (s : Int) := by omega
          obtain ⟨X, hX⟩ : ∃ z, x.getD i 0 = z := ⟨_, rfl⟩
          obtain ⟨Y, hY⟩ : ∃ z, y.getD k 0 = z := ⟨_, rfl⟩
          rw [hX] at cX bX
          rw [hY] at cY bY
          clear hg1
          by_cases hs16 : i + k < 16
          · have M := mu_one x y l i k hmu (by rw [HA.out.2.2.2.2.2]; exact hkl) hs16 hXY
            have j2 : (s : Int) < 16 := by omega
            have cS := i64s_cell hblk s (by rw [hmu.len]; omega)
            have fS := hblk.frozen s
            rw [hs] at M
            have bA := hmu.bd (l.getD s 0) (by simp [List.getD, hmu.len, show s < 16 by omega])
            obtain ⟨A, hA⟩ : ∃ z, l.getD s 0 = z := ⟨_, rfl⟩
            rw [hA] at M cS bA
            rw [hX, hY] at M hXY
            have v1 : IntKind.i64.wrap (X * Y) = X * Y := wi64 _ (by omega)
            have v2 : IntKind.i64.wrap (A + X * Y) = A + X * Y := wi64 _ (by omega)
            have HQ : Hid (Blk wr (gy + 1) 69 (i64s l) ∧ Kept (fun b => b = gy + 1) w3 wr ∧ MuAt x y i (k + 1) (l.set s (A + X * Y))) := ⟨hblk, hkp, M⟩
            clear hblk hkp hmu M hA bA hX hY hs hXY hs16
            go_wp2_with fail
            go_region_with fail
            go_wp2_with fail
            all_goals (
            go_roundw
            case rel =>
              have R := (HQ.out.1.set s (.int .i64 (A + X * Y))).drew
              rw [i64s_set] at R
              exact ⟨k + 1, _, by omega, by go_num, R, HQ.out.2.2, (HQ.out.2.1.setCell rfl _).drewN 1⟩
            case measure => simp [intOf]; omega)
          · obtain ⟨t, ht⟩ : ∃ t : Nat, s - 16 = t := ⟨_, rfl⟩
            have M := mu_two x y l i k t hmu (by rw [HA.out.2.2.2.2.2]; exact hkl) (by omega) (by omega) hXY
            have j2 : ¬ (s : Int) < 16 := by omega
            have j3 : (s : Int) - 16 = (t : Int) := by omega
            have j4 : IntKind.i64.wrap (t : Int) = (t : Int) := wi64 _ (by omega)
            have j5 : (0 : Int) ≤ (t : Int) := by omega
            have j6 : (t : Int) < 16 := by omega
            have cS := i64s_cell hblk t (by rw [hmu.len]; omega)
            have fS := hblk.frozen t
            have bA := hmu.bd (l.getD t 0) (by simp [List.getD, hmu.len, show t < 16 by omega])
            obtain ⟨A, hA⟩ : ∃ z, l.getD t 0 = z := ⟨_, rfl⟩
            rw [hA] at M cS bA
            rw [hX, hY] at M hXY
            have h38 : 38 * X * Y = 38 * (X * Y) := Int.mul_assoc ..
            have v1 : IntKind.i64.wrap (38 * X) = 38 * X := wi64 _ (by omega)
            have v3 : IntKind.i64.wrap (38 * X * Y) = 38 * X * Y := wi64 _ (by rw [h38]; omega)
            have v2 : IntKind.i64.wrap (A + 38 * X * Y) = A + 38 * X * Y := wi64 _ (by rw [h38]; omega)
            have HQ : Hid (Blk wr (gy + 1) 69 (i64s l) ∧ Kept (fun b => b = gy + 1) w3 wr ∧ MuAt x y i (k + 1) (l.set t (A + 38 * X * Y))) := ⟨hblk, hkp, M⟩
            clear hblk hkp hmu M hA bA hX hY hs hXY hs16 h38 ht
            go_wp2_with fail
            go_region_with fail
            go_wp2_with fail
            all_goals (
            go_roundw
            case rel =>
              have R := (HQ.out.1.set t (.int .i64 (A + 38 * X * Y))).drew
              rw [i64s_set] at R
              exact ⟨k + 1, _, by omega, by go_num, R, HQ.out.2.2, (HQ.out.2.1.setCell rfl _).drewN 1⟩
            case measure => simp [intOf]; omega)
        · have hk5 : k = 16 := by omega
          have k1 : ¬ ((k : Int) < 16) := by omega
          have HQ : Hid (Blk wr (gy + 1) 69 (i64s l) ∧ MuAt x y (i + 1) 0 l ∧ Kept (fun b => b = gy + 1) xa wr) := by
            rw [hk5] at hmu
            refine ⟨hblk, ⟨hmu.len, fun z hz => ?_, ?_⟩, W3.out.2.2.2.2.1.trans hkp⟩
            · have := hmu.bd z hz
              rw [show 16 * (i + 1) + 0 = 16 * i + 16 by omega]; exact this
            · rw [hmu.num, muK_row x y i (by rw [HA.out.2.2.2.2.1]; exact hlti) HA.out.2.2.2.2.2]
          clear hblk hmu hkp hk5
          go_wp2_with fail
          go_roundw
          case rel => exact ⟨i + 1, l, by omega, by go_num, HQ.out.1, HQ.out.2.1, HQ.out.2.2⟩
          case measure => simp [intOf]; omega
    · have hk5 : i = 16 := by omega
      have i1 : ¬ ((i : Int) < 16) := by omega
      rw [hk5] at hmu0
      have hle := least_any l0 hmu0.len (fun z hz => by have := hmu0.bd z hz; omega)
      rw [hmu0.num, muK_all x y HA.out.2.2.2.2.1] at hle
      obtain ⟨R, hR⟩ : ∃ z, leB 32 ((vd x * vd y) % PR) = z := ⟨_, rfl⟩
      have HR : Hid ((u8s R).length = 32 ∧ leB 32 ((vd x * vd y) % PR) = R) := ⟨by rw [← hR, u8s_length, leB_length], hR⟩
      rw [hR] at hle
      have HLE : Hid (∀ w, Calls Try.prog 41 #[.agg (i64s l0).toArray] w fun e w' => e = .returned (.agg (u8s R).toArray) ∧ Below w.heap.size w w') := hle
      have X1 : Hid (Blk wr (gy + 1) 69 (i64s l0) ∧ Blk wr (w.heap.size + 1 + 1) 29 (u8s (List.replicate 32 0)) ∧ Below w.heap.size w wr ∧ (i64s l0).length = 16) := by
        obtain ⟨a1, a2, a3, a4, a5, a6, a7⟩ := WA.out
        exact ⟨hblk0, a2.kept hkp0 (by omega), below_kept a1 hkp0 a1.size (fun j hj => by omega), by rw [i64s_length, hmu0.len]⟩
      clear hblk0 hmu0 hkp0 hk5 hlti hi hle hR
      go_wp2_with (first | (refine wpList_load_blk rfl 69 _ rfl (gy + 1) rfl (i64s l0) _ X1.out.1 Try.underlying69 rfl (by rw [X1.out.2.2.2]; exact sizeA16) ?_) | (go_at_call 41; refine (HLE.out _).mono ?_; rintro e y1 ⟨rfl, l1⟩) | (refine wpList_store_blk rfl 29 29 _ _ rfl _ rfl _ (u8s R) rfl (X1.out.2.1.later l1 X1.out.2.1.lt) (by rw [HR.out.1]; rfl) (by rw [HR.out.1]; exact sizeNum) (u8s_one _) ?_; intro w6 b6 s6 k6))
      exact ret_blk rfl (w.heap.size + 1 + 1) (u8s R) _ rfl b6 Try.underlying29 rfl (by rw [HR.out.1]; exact sizeNum) rfl ⟨by rw [HR.out.2], below_kept (below_chain X1.out.2.2.1 l1 X1.out.2.2.1.size) k6 (Nat.le_trans X1.out.2.2.1.size l1.size) (fun j hj => by omega)⟩
end Go.Proofs.Ytfeeikkfjbdkiaa
