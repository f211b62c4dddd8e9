/- Joined texts: POpen REqb PSheet PSheetIn. -/
import Derived.Test.YtcimiajkbgabiaaZF
import Derived.Test.YtcimiajkbgabiaaZA
import Derived.Test.YtcimiajkbgabiaaZE
import Derived.ProofKit
import Derived.OpenShut
import Derived.ShutString
import Derived.ChangeOld
import Derived.SizedLaws
namespace Go.Proofs.Ytcimiajkbgabiaa
open Go.RowKit
set_option linter.unusedVariables false
set_option linter.unusedSimpArgs false

theorem neq_place (r c p q r' c' : Int) (w : World) : (binOp .neq 31 (.agg (placeC r c p q).toArray) (.agg (placeC r' c' p q).toArray)).run Try.prog w = .ok (.bool (!(r == r' && c == c'))) w := by
  have hf : Try.prog.underlying 31 = some (.struct (Try.prog.fieldsOf 31)) := by kernel_rfl
  have hp : Try.prog.stoodInHeld 31 = false := by kernel_rfl
  have hl : (Try.prog.fieldsOf 31).toList = [{ name := "Round", type := 28, offset := 0, embedded := false, tag := "", pkgPath := "", byteOffset := 0 }, { name := "Counter", type := 29, offset := 1, embedded := false, tag := "", pkgPath := "", byteOffset := 8 }, { name := "Page", type := 29, offset := 2, embedded := false, tag := "", pkgPath := "", byteOffset := 12 }, { name := "Version", type := 29, offset := 3, embedded := false, tag := "", pkgPath := "", byteOffset := 16 }] := by kernel_rfl
  rw [run_neq_struct, run_equalIn_struct w 9999 31 _ _ hf hp, hl]
  have p0 : ∀ r c : Int, (Go.part 28 (placeC r c p q).toArray 0).run Try.prog w = .ok (.int .u64 r) w := fun r c => by simp [Go.part, isAgg, run_underlying Try.underlying28, placeC]
  have p1 : ∀ r c : Int, (Go.part 29 (placeC r c p q).toArray 1).run Try.prog w = .ok (.int .u32 c) w := fun r c => by simp [Go.part, isAgg, run_underlying Try.underlying29, placeC]
  have p2 : ∀ r c : Int, (Go.part 29 (placeC r c p q).toArray 2).run Try.prog w = .ok (.int .u32 p) w := fun r c => by simp [Go.part, isAgg, run_underlying Try.underlying29, placeC]
  have p3 : ∀ r c : Int, (Go.part 29 (placeC r c p q).toArray 3).run Try.prog w = .ok (.int .u32 q) w := fun r c => by simp [Go.part, isAgg, run_underlying Try.underlying29, placeC]
  have q0 : ∀ x y : Int, (Op.equalIn 9999 28 (.int .u64 x) (.int .u64 y)).run Try.prog w = .ok (x == y) w := fun x y => by rw [run_equalIn_int w 9998 28 .u64 .u64 _ _ Try.underlying28]
  have q1 : ∀ x y : Int, (Op.equalIn 9999 29 (.int .u32 x) (.int .u32 y)).run Try.prog w = .ok (x == y) w := fun x y => by rw [run_equalIn_int w 9998 29 .u32 .u32 _ _ Try.underlying29]
  cases h0 : (r == r') <;> cases h1 : (c == c') <;> simp [Op.eqFields, p0, p1, p2, p3, q0, q1, h0, h1]
theorem pbuild (r c p q : Int) (w : World) : (Instr.build 31 #[(0, .int .u64 r), (1, .int .u32 c), (2, .int .u32 p), (3, .int .u32 q)]).run Try.prog w = .ok (.agg (placeC r c p q).toArray) w := by kernel_rfl
theorem pzPlace : (Try.prog.info? 31).map (fun i => (i.zero, i.size)) = some (some (.agg (placeC 0 0 0 0).toArray), 4) := by kernel_rfl
/-- What a page's first bytes tell is its head. -/
theorem tell_head {zs : List Int} {r c : Int} (hb : Bytes zs) (hl : 12 ≤ zs.length) (hr : Word r) (hc : U32 c) : (tellR zs = r ∧ tellC zs = c) ↔ zs.take 12 = hdL r c := by
  have e8 : (zs.take 8).length = 8 := by simp; omega
  have e4 : ((zs.drop 8).take 4).length = 4 := by simp; omega
  have ex : zs.take 12 = zs.take 8 ++ (zs.drop 8).take 4 := by rw [show 12 = 8 + 4 from rfl, List.take_add]
  constructor
  · rintro ⟨rfl, rfl⟩
    have h8 := leB_le (zs.take 8) (fun z hz => hb z (List.mem_of_mem_take hz))
    have h4 := leB_le ((zs.drop 8).take 4) (fun z hz => hb z (List.mem_of_mem_drop (List.mem_of_mem_take hz)))
    rw [e8] at h8
    rw [e4] at h4
    rw [ex, hdL, tellR, tellC, h8, h4]
  · intro h
    rw [ex, hdL] at h
    have hh := List.append_inj h (by rw [e8, leB_length])
    rw [tellR, tellC, hh.1, hh.2, le_leB, le_leB]
    have h1 := hr.1
    have h2 := hr.2
    have h3 := hc.1
    have h4 := hc.2
    exact ⟨Int.emod_eq_of_lt h1 (by omega), Int.emod_eq_of_lt h3 (by omega)⟩

set_option maxRecDepth 20000 in
set_option maxHeartbeats 1000000 in
theorem popen_long (key : List Int) (r c p q : Int) (bo : Option Addr) (m d : Nat) (t1 : m ≤ 140737488355328) (hm : 4124 < m) (w : World) :
    Calls Try.prog 8 #[.agg (u8s key).toArray, .agg (placeC r c p q).toArray, .slice bo m d] w fun e w' => e = .returned (.tuple #[.slice none 0 0, .int .i64 120]) ∧ Below w.heap.size w w' := by
  have i1 : (4124 : Int) < (m : Int) := by omega
  go_enter Try.func8, Try.ntmps8
  go_wp2_with (first | (refine wpList_box_new rfl 27 _ rfl (u8s key) rfl ?_; intro w1 b1 s1 l1) | (refine wpList_box_new rfl 31 _ rfl (placeC r c p q) rfl ?_; intro w2 b2 s2 l2))
  go_ret2
  exact ⟨rfl, below_chain l1 l2 (by omega)⟩
set_option maxRecDepth 20000 in
set_option maxHeartbeats 1000000 in
theorem popen_short (key : List Int) (r c p q : Int) (bo : Option Addr) (m d : Nat) (hm : m < 28) (w : World) :
    Calls Try.prog 8 #[.agg (u8s key).toArray, .agg (placeC r c p q).toArray, .slice bo m d] w fun e w' => e = .returned (.tuple #[.slice none 0 0, .int .i64 120]) ∧ Below w.heap.size w w' := by
  have i1 : ¬ (4124 : Int) < (m : Int) := by omega
  go_enter Try.func8, Try.ntmps8
  go_wp2_with (first | (refine wpList_box_new rfl 27 _ rfl (u8s key) rfl ?_; intro w1 b1 s1 l1) | (refine wpList_box_new rfl 31 _ rfl (placeC r c p q) rfl ?_; intro w2 b2 s2 l2) | (go_at_call 10; refine (phead_bad bo m d hm _).mono ?_; rintro e w' ⟨rfl, rfl⟩))
  go_ret2
  exact ⟨rfl, below_chain l1 l2 (by omega)⟩
set_option maxRecDepth 20000 in
set_option maxHeartbeats 1000000 in
theorem popen_else (key : List Int) (r c p q : Int) (bo : Option Addr) (m d : Nat) (zs : List Int) (h28 : 28 ≤ m) (hm : m ≤ 4124) (w : World) (hy : Seen w bo m zs) (hd : m ≤ d) (hne : (tellR zs == r && tellC zs == c) = false) :
    Calls Try.prog 8 #[.agg (u8s key).toArray, .agg (placeC r c p q).toArray, .slice bo m d] w fun e w' => e = .returned (.tuple #[.slice none 0 0, .int .i64 120]) ∧ Below w.heap.size w w' := by
  have i1 : ¬ (4124 : Int) < (m : Int) := by omega
  have HY : Hid (Seen w bo m zs) := hy
  have HD : Hid (m ≤ d) := hd
  obtain ⟨R, hR⟩ : ∃ R, tellR zs = R := ⟨_, rfl⟩
  obtain ⟨C, hC⟩ : ∃ C, tellC zs = C := ⟨_, rfl⟩
  have HT : Hid (tellR zs = R ∧ tellC zs = C) := ⟨hR, hC⟩
  have HE : Hid ((!(R == r && C == c)) = true) := by show (!(R == r && C == c)) = true; rw [← hR, ← hC, hne]; rfl
  clear hy hd hR hC hne
  go_enter Try.func8, Try.ntmps8
  go_wp2_with (first | (refine wpList_box_new rfl 27 _ rfl (u8s key) rfl ?_; intro w1 b1 s1 l1) | (refine wpList_box_new rfl 31 _ rfl (placeC r c p q) rfl ?_; intro w2 b2 s2 l2))
  refine (phead_any bo m d zs w2 (HY.out.later (below_chain l1 l2 (by omega)) (Nat.le_refl _)) h28 HD.out).mono ?_
  rintro e w3 ⟨rfl, l3⟩
  rw [HT.out.1, HT.out.2]
  have q3 := l3.size
  rw [s1] at b2
  have V3 : Hid (Blk w3 w.heap.size 27 (u8s key) ∧ Blk w3 (w.heap.size + 1) 31 (placeC r c p q) ∧ Below w.heap.size w w3) := ⟨(b1.later l2 (by omega)).later l3 (by omega), b2.later l3 (by omega), below_chain (below_chain l1 l2 (by omega)) l3 (by omega)⟩
  have cp : w3.cell? ⟨w.heap.size + 1, 2, none⟩ = some (.int .u32 p) := V3.out.2.1.cell 2
  have cq : w3.cell? ⟨w.heap.size + 1, 3, none⟩ = some (.int .u32 q) := V3.out.2.1.cell 3
  clear b1 b2 l1 l2 l3 s2 s1 q3
  have NP := neq_place R C p q r c
  rw [HE.out] at NP
  go_wp2_with (first | (refine wpList_build rfl 31 _ rfl #[(0, .int .u64 R), (1, .int .u32 C), (2, .int .u32 p), (3, .int .u32 q)] (by simp only [List.map_toArray, List.map_cons, List.map_nil]; rfl) _ (pbuild R C p q _) ?_) | (refine wpList_alloc_new rfl 31 rfl 4 _ pzPlace ?_; intro w4 b4 s4 l4) | (refine wpList_store_blk rfl 31 31 _ _ rfl _ rfl _ (placeC R C p q) rfl b4 rfl pzKey (placeC_one _ _ _ _) ?_; intro w5 b5 s5 k5; have V5 : Hid (Blk w5 w.heap.size 27 (u8s key) ∧ Blk w5 (w.heap.size + 1) 31 (placeC r c p q) ∧ Below w.heap.size w w5 ∧ Blk w5 w3.heap.size 31 (placeC R C p q)) := (by have L5 : Below w3.heap.size w3 w5 := below_kept l4 k5 (by omega) (fun j hj => by omega); exact ⟨V3.out.1.later L5 V3.out.1.lt, V3.out.2.1.later L5 V3.out.2.1.lt, below_chain V3.out.2.2 L5 V3.out.2.2.size, b5⟩)) | ((with_reducible show wpList _ _ _ (({ dst := some 31, op := _, type := _, pos := _, after := _, guard := _ } : Oper) :: _) _ _); refine wpList_load_blk rfl 31 _ rfl _ rfl (placeC R C p q) _ V5.out.2.2.2 Try.underlying31 rfl pzKey ?_) | ((with_reducible show wpList _ _ _ (({ dst := some 32, op := _, type := _, pos := _, after := _, guard := _ } : Oper) :: _) _ _); refine wpList_load_blk rfl 31 _ rfl _ rfl (placeC r c p q) _ V5.out.2.1 Try.underlying31 rfl pzKey ?_))
  go_ret2
  exact ⟨rfl, V5.out.2.2.1⟩
set_option maxRecDepth 20000 in
set_option maxHeartbeats 2000000 in
theorem popen_no (key : List Int) (r c p q : Int) (bo : Option Addr) (m d : Nat) (zs : List Int) (hk : key.length = 32) (hkb : Bytes key) (hr : Word r) (hc : U32 c) (hp : U32 p) (hq : U32 q) (h28 : 28 ≤ m) (hm : m ≤ 4124) (w : World) (hy : Seen w bo m zs) (hd : m ≤ d) (heq : (tellR zs == r && tellC zs == c) = true) (hO : opensL key (hdL r c) (moL p q) (zs.drop 12) = false) :
    Calls Try.prog 8 #[.agg (u8s key).toArray, .agg (placeC r c p q).toArray, .slice bo m d] w fun e w' => e = .returned (.tuple #[.slice none 0 0, .int .i64 120]) ∧ Below w.heap.size w w' := by
  have i1 : ¬ (4124 : Int) < (m : Int) := by omega
  have HY : Hid (Seen w bo m zs) := hy
  have HD : Hid (m ≤ d) := hd
  obtain ⟨R, hR⟩ : ∃ R, tellR zs = R := ⟨_, rfl⟩
  obtain ⟨C, hC⟩ : ∃ C, tellC zs = C := ⟨_, rfl⟩
  have HT : Hid (tellR zs = R ∧ tellC zs = C) := ⟨hR, hC⟩
  have HE : Hid ((!(R == r && C == c)) = false) := by show (!(R == r && C == c)) = false; rw [← hR, ← hC, heq]; rfl
  obtain ⟨H, hH⟩ : ∃ H, hdL r c = H := ⟨_, rfl⟩
  obtain ⟨M, hM⟩ : ∃ H, moL p q = H := ⟨_, rfl⟩
  obtain ⟨B, hB⟩ : ∃ B, zs.drop 12 = B := ⟨_, rfl⟩
  have HH : Hid (hdL r c = H ∧ H.length = 12 ∧ Bytes H) := ⟨hH, by rw [← hH]; exact hdL_length r c, by rw [← hH]; exact hdL_bytes r c⟩
  have HM : Hid (moL p q = M ∧ M.length = 8 ∧ Bytes M) := ⟨hM, by rw [← hM]; exact moL_length p q, by rw [← hM]; exact moL_bytes p q⟩
  have HB : Hid ((∀ W, (Instr.sliceAt 22 (.slice bo m d) (some (.int .i64 12)) none none).run Try.prog W = .ok (.slice (subA bo 12 d) (m - 12) (d - 12)) W) ∧ Seen w (subA bo 12 d) (m - 12) B ∧ opensL key H M B = false) := by
    refine ⟨fun W => sl_l bo m d 12 (by omega) W, ?_, by rw [← hH, ← hM, ← hB]; exact hO⟩
    have h := hy.sub 12 m d (by omega) (Nat.le_refl _) hd
    rwa [hB, List.take_of_length_le (by rw [← hB, List.length_drop, hy.len]; omega)] at h
  have HK : Hid (key.length = 32 ∧ Bytes key ∧ Word r ∧ U32 c ∧ U32 p ∧ U32 q) := ⟨hk, hkb, hr, hc, hp, hq⟩
  clear hy hd hR hC heq hH hM hB hk hkb hr hc hp hq hO
  go_enter Try.func8, Try.ntmps8
  go_wp2_with (first | (refine wpList_box_new rfl 27 _ rfl (u8s key) rfl ?_; intro w1 b1 s1 l1) | (refine wpList_box_new rfl 31 _ rfl (placeC r c p q) rfl ?_; intro w2 b2 s2 l2))
  refine (phead_any bo m d zs w2 (HY.out.later (below_chain l1 l2 (by omega)) (Nat.le_refl _)) h28 HD.out).mono ?_
  rintro e w3 ⟨rfl, l3⟩
  rw [HT.out.1, HT.out.2]
  have q3 := l3.size
  rw [s1] at b2
  have V3 : Hid (Blk w3 w.heap.size 27 (u8s key) ∧ Blk w3 (w.heap.size + 1) 31 (placeC r c p q) ∧ Below w.heap.size w w3) := ⟨(b1.later l2 (by omega)).later l3 (by omega), b2.later l3 (by omega), below_chain (below_chain l1 l2 (by omega)) l3 (by omega)⟩
  have cp : w3.cell? ⟨w.heap.size + 1, 2, none⟩ = some (.int .u32 p) := V3.out.2.1.cell 2
  have cq : w3.cell? ⟨w.heap.size + 1, 3, none⟩ = some (.int .u32 q) := V3.out.2.1.cell 3
  clear b1 b2 l1 l2 l3 s2 s1 q3
  have NP := neq_place R C p q r c
  rw [HE.out] at NP
  go_wp2_with (first | (refine wpList_build rfl 31 _ rfl #[(0, .int .u64 R), (1, .int .u32 C), (2, .int .u32 p), (3, .int .u32 q)] (by simp only [List.map_toArray, List.map_cons, List.map_nil]; rfl) _ (pbuild R C p q _) ?_) | (refine wpList_alloc_new rfl 31 rfl 4 _ pzPlace ?_; intro w4 b4 s4 l4) | (refine wpList_store_blk rfl 31 31 _ _ rfl _ rfl _ (placeC R C p q) rfl b4 rfl pzKey (placeC_one _ _ _ _) ?_; intro w5 b5 s5 k5; have V5 : Hid (Blk w5 w.heap.size 27 (u8s key) ∧ Blk w5 (w.heap.size + 1) 31 (placeC r c p q) ∧ Below w.heap.size w w5 ∧ Blk w5 w3.heap.size 31 (placeC R C p q)) := (by have L5 : Below w3.heap.size w3 w5 := below_kept l4 k5 (by omega) (fun j hj => by omega); exact ⟨V3.out.1.later L5 V3.out.1.lt, V3.out.2.1.later L5 V3.out.2.1.lt, below_chain V3.out.2.2 L5 V3.out.2.2.size, b5⟩)) | ((with_reducible show wpList _ _ _ (({ dst := some 31, op := _, type := _, pos := _, after := _, guard := _ } : Oper) :: _) _ _); refine wpList_load_blk rfl 31 _ rfl _ rfl (placeC R C p q) _ V5.out.2.2.2 Try.underlying31 rfl pzKey ?_) | ((with_reducible show wpList _ _ _ (({ dst := some 32, op := _, type := _, pos := _, after := _, guard := _ } : Oper) :: _) _ _); refine wpList_load_blk rfl 31 _ rfl _ rfl (placeC r c p q) _ V5.out.2.1 Try.underlying31 rfl pzKey ?_))
  clear NP cp cq b4 s4 l4 b5 s5 k5
  refine region_inv [.val (.agg (u8s key).toArray), .val (.agg (placeC r c p q).toArray), .val (.agg (u8s H).toArray), .val (.agg (placeC r c p q).toArray), .any (isO w.heap.size 8 M) (isO_later _ _ _), .val (.slice bo m d), .val (.slice (subA bo 12 d) (m - 12) (d - 12)), .val (.tuple #[.slice none 0 0, .int .i64 70]), .val (.tuple #[.slice none 0 0, .int .i64 70]), .val (.slice none 0 0), .val (.int .i64 70), .val (.slice none 0 0)] (by kernel_rfl) (by kernel_rfl) (by kernel_rfl) ?_ ?_
  · refine Steps'.cons ?_ (Steps'.cons ?_ (Steps'.cons ?_ (Steps'.cons ?_ (Steps'.cons ?_ (Steps'.cons ?_ (Steps'.cons ?_ (Steps'.cons ?_ (Steps'.cons ?_ (Steps'.cons ?_ (Steps'.cons ?_ (Steps'.cons ?_ (Steps'.one _ _ _ _ _ _ _))))))))))))
    · intro ax wx hb hs hd
      have h3 : ax.tmps.getD 3 undef = (.pointer (some ⟨w.heap.size, 0, none⟩)) := hs 3 (by kernel_rfl)
      exact Does.load 27 (.tmp 3) rfl w.heap.size 0 h3 (u8s key) _ ((V5.out.1).later hb (V5.out.1).lt).all Try.underlying27 rfl (by rw [u8s_length, HK.out.1]; exact sizeKey)
    · intro ax wx hb hs hd
      have h4 : ax.tmps.getD 4 undef = (.pointer (some ⟨w.heap.size + 1, 0, none⟩)) := hs 4 (by kernel_rfl)
      exact Does.load 31 (.tmp 4) rfl (w.heap.size + 1) 0 h4 (placeC r c p q) _ ((V5.out.2.1).later hb (V5.out.2.1).lt).all Try.underlying31 rfl pzKey
    · intro ax wx hb hs hd
      have h36 : ax.tmps.getD 36 undef = (.agg (placeC r c p q).toArray) := hd 1 36 rfl (by kernel_rfl) (by decide)
      refine Does.call 21 #[.agg (placeC r c p q).toArray] (by clear hs hd; go_simp) ?_
      refine (headOf_any r c p q HK.out.2.2.1 HK.out.2.2.2.1 wx).mono ?_
      rintro e w' ⟨rfl, l⟩
      rw [HH.out.1]
      exact ⟨_, rfl, rfl, l⟩
    · intro ax wx hb hs hd
      have h4 : ax.tmps.getD 4 undef = (.pointer (some ⟨w.heap.size + 1, 0, none⟩)) := hs 4 (by kernel_rfl)
      exact Does.load 31 (.tmp 4) rfl (w.heap.size + 1) 0 h4 (placeC r c p q) _ ((V5.out.2.1).later hb (V5.out.2.1).lt).all Try.underlying31 rfl pzKey
    · intro ax wx hb hs hd
      have h38 : ax.tmps.getD 38 undef = (.agg (placeC r c p q).toArray) := hd 3 38 rfl (by kernel_rfl) (by decide)
      refine Does.call 22 #[.agg (placeC r c p q).toArray] (by clear hs hd; go_simp) ?_
      refine (vouch_any r c p q HK.out.2.2.2.2.1 HK.out.2.2.2.2.2 wx).mono ?_
      rintro e w' ⟨v, rfl, o, l⟩
      rw [HM.out.1] at o
      exact ⟨_, rfl, ownsRow_base o (by have := hb.size; have := V5.out.2.2.1.size; omega), l⟩
    · intro ax wx hb hs hd
      have h2 : ax.tmps.getD 2 undef = (.slice bo m d) := hs 2 (by kernel_rfl)
      refine Does.value (.slice bo m d) ?_ rfl
      clear hs hd
      go_simp
    · intro ax wx hb hs hd
      have h40 : ax.tmps.getD 40 undef = (.slice bo m d) := hd 5 40 rfl (by kernel_rfl) (by decide)
      have S12 := HB.out.1
      refine Does.value (.slice (subA bo 12 d) (m - 12) (d - 12)) ?_ rfl
      clear hs hd
      go_simp
    · intro ax wx hb hs hd
      have h35 : ax.tmps.getD 35 undef = (.agg (u8s key).toArray) := hd 0 35 rfl (by kernel_rfl) (by decide)
      have h37 : ax.tmps.getD 37 undef = (.agg (u8s H).toArray) := hd 2 37 rfl (by kernel_rfl) (by decide)
      have p39 : (isO w.heap.size 8 M) (ax.tmps.getD 39 undef) wx := hd 4 39 rfl (by kernel_rfl) (by decide)
      have h41 : ax.tmps.getD 41 undef = (.slice (subA bo 12 d) (m - 12) (d - 12)) := hd 6 41 rfl (by kernel_rfl) (by decide)
      obtain ⟨mo, mc, h39, s39, c39, _⟩ := pown_sl HM.out.2.1 HM.out.2.2 (by decide) p39
      clear p39
      refine Does.call 17 #[.agg (u8s key).toArray, .agg (u8s H).toArray, .slice mo 8 mc, .slice (subA bo 12 d) (m - 12) (d - 12)] (by clear hs hd; go_simp) ?_
      refine (open_no key H 8 mc (m - 12) (d - 12) mo (subA bo 12 d) M B HK.out.1 HH.out.2.1 HK.out.2.1 HH.out.2.2 (by omega) (by omega) (by decide) wx s39 (HB.out.2.1.later (below_chain V5.out.2.2.1 hb V5.out.2.2.1.size) (Nat.le_refl _)) c39 (by have := HD.out; omega) HB.out.2.2).mono ?_
      rintro e w' ⟨rfl, l⟩
      exact ⟨_, rfl, rfl, l⟩
    · intro ax wx hb hs hd
      have h42 : ax.tmps.getD 42 undef = (.tuple #[.slice none 0 0, .int .i64 70]) := hd 7 42 rfl (by kernel_rfl) (by decide)
      refine Does.value (.tuple #[.slice none 0 0, .int .i64 70]) ?_ rfl
      clear hs hd
      go_simp
    · intro ax wx hb hs hd
      have h34 : ax.tmps.getD 34 undef = (.tuple #[.slice none 0 0, .int .i64 70]) := hd 8 34 rfl (by kernel_rfl) (by decide)
      refine Does.value (.slice none 0 0) ?_ rfl
      clear hs hd
      go_simp
    · intro ax wx hb hs hd
      have h34 : ax.tmps.getD 34 undef = (.tuple #[.slice none 0 0, .int .i64 70]) := hd 8 34 rfl (by kernel_rfl) (by decide)
      refine Does.value (.int .i64 70) ?_ rfl
      clear hs hd
      go_simp
    · intro ax wx hb hs hd
      have h43 : ax.tmps.getD 43 undef = (.slice none 0 0) := hd 9 43 rfl (by kernel_rfl) (by decide)
      refine Does.value (.slice none 0 0) ?_ rfl
      clear hs hd
      go_simp
  · intro wx hb
    refine @Ends.val _ _ _ _ _ _ _ _ _ (.agg (u8s key).toArray) rfl ?_
    refine @Ends.val _ _ _ _ _ _ _ _ _ (.agg (placeC r c p q).toArray) rfl ?_
    refine @Ends.val _ _ _ _ _ _ _ _ _ (.agg (u8s H).toArray) rfl ?_
    refine @Ends.val _ _ _ _ _ _ _ _ _ (.agg (placeC r c p q).toArray) rfl ?_
    refine @Ends.any _ _ _ _ _ _ _ _ _ (isO w.heap.size 8 M) (isO_later _ _ _) rfl ?_
    intro v39 p39
    refine @Ends.val _ _ _ _ _ _ _ _ _ (.slice bo m d) rfl ?_
    refine @Ends.val _ _ _ _ _ _ _ _ _ (.slice (subA bo 12 d) (m - 12) (d - 12)) rfl ?_
    refine @Ends.val _ _ _ _ _ _ _ _ _ (.tuple #[.slice none 0 0, .int .i64 70]) rfl ?_
    refine @Ends.val _ _ _ _ _ _ _ _ _ (.tuple #[.slice none 0 0, .int .i64 70]) rfl ?_
    refine @Ends.val _ _ _ _ _ _ _ _ _ (.slice none 0 0) rfl ?_
    refine @Ends.val _ _ _ _ _ _ _ _ _ (.int .i64 70) rfl ?_
    refine @Ends.val _ _ _ _ _ _ _ _ _ (.slice none 0 0) rfl ?_
    refine @Ends.one _ _ _ _ _ _ _ ?_
    simp only [Act.put, List.setIfInBounds_toArray, List.set_cons_zero, List.set_cons_succ]
    have W1 : Hid (Below w.heap.size w wx) := below_chain V5.out.2.2.1 hb V5.out.2.2.1.size
    clear p39
    refine last_assign (.tmp 44) rfl (some 10) rfl (.int .i64 70) rfl ?_
    simp only [Act.put, List.setIfInBounds_toArray, List.set_cons_zero, List.set_cons_succ]
    go_wp2_with (go_at_call 23; refine (is_any 70 _).mono ?_; rintro e w' ⟨rfl, rfl⟩; rw [show ((70 : Int) == 0) = false from rfl])
    go_ret2
    exact ⟨rfl, W1.out⟩
set_option maxRecDepth 20000 in
set_option maxHeartbeats 2000000 in
theorem popen_yes (key : List Int) (r c p q : Int) (bo : Option Addr) (m d : Nat) (zs : List Int) (hk : key.length = 32) (hkb : Bytes key) (hr : Word r) (hc : U32 c) (hp : U32 p) (hq : U32 q) (h28 : 28 ≤ m) (hm : m ≤ 4124) (w : World) (hy : Seen w bo m zs) (hd : m ≤ d) (heq : (tellR zs == r && tellC zs == c) = true) (hO : opensL key (hdL r c) (moL p q) (zs.drop 12) = true) :
    Calls Try.prog 8 #[.agg (u8s key).toArray, .agg (placeC r c p q).toArray, .slice bo m d] w fun e w' => ∃ v, e = .returned (.tuple #[v, .int .i64 0]) ∧ isO w.heap.size (m - 28) (textL key (hdL r c) (zs.drop 12)) v w' ∧ Below w.heap.size w w' := by
  have i1 : ¬ (4124 : Int) < (m : Int) := by omega
  have HY : Hid (Seen w bo m zs) := hy
  have HD : Hid (m ≤ d) := hd
  obtain ⟨R, hR⟩ : ∃ R, tellR zs = R := ⟨_, rfl⟩
  obtain ⟨C, hC⟩ : ∃ C, tellC zs = C := ⟨_, rfl⟩
  have HT : Hid (tellR zs = R ∧ tellC zs = C) := ⟨hR, hC⟩
  have HE : Hid ((!(R == r && C == c)) = false) := by show (!(R == r && C == c)) = false; rw [← hR, ← hC, heq]; rfl
  obtain ⟨H, hH⟩ : ∃ H, hdL r c = H := ⟨_, rfl⟩
  obtain ⟨M, hM⟩ : ∃ H, moL p q = H := ⟨_, rfl⟩
  obtain ⟨B, hB⟩ : ∃ B, zs.drop 12 = B := ⟨_, rfl⟩
  have HH : Hid (hdL r c = H ∧ H.length = 12 ∧ Bytes H) := ⟨hH, by rw [← hH]; exact hdL_length r c, by rw [← hH]; exact hdL_bytes r c⟩
  have HM : Hid (moL p q = M ∧ M.length = 8 ∧ Bytes M) := ⟨hM, by rw [← hM]; exact moL_length p q, by rw [← hM]; exact moL_bytes p q⟩
  have HB : Hid ((∀ W, (Instr.sliceAt 22 (.slice bo m d) (some (.int .i64 12)) none none).run Try.prog W = .ok (.slice (subA bo 12 d) (m - 12) (d - 12)) W) ∧ Seen w (subA bo 12 d) (m - 12) B ∧ opensL key H M B = true) := by
    refine ⟨fun W => sl_l bo m d 12 (by omega) W, ?_, by rw [← hH, ← hM, ← hB]; exact hO⟩
    have h := hy.sub 12 m d (by omega) (Nat.le_refl _) hd
    rwa [hB, List.take_of_length_le (by rw [← hB, List.length_drop, hy.len]; omega)] at h
  have HK : Hid (key.length = 32 ∧ Bytes key ∧ Word r ∧ U32 c ∧ U32 p ∧ U32 q) := ⟨hk, hkb, hr, hc, hp, hq⟩
  obtain ⟨X, hX⟩ : ∃ X, textL key H B = X := ⟨_, rfl⟩
  have HX : Hid (textL key H B = X) := hX
  rw [hH, hB, hX]
  clear hX
  clear hy hd hR hC heq hH hM hB hk hkb hr hc hp hq hO
  go_enter Try.func8, Try.ntmps8
  go_wp2_with (first | (refine wpList_box_new rfl 27 _ rfl (u8s key) rfl ?_; intro w1 b1 s1 l1) | (refine wpList_box_new rfl 31 _ rfl (placeC r c p q) rfl ?_; intro w2 b2 s2 l2))
  refine (phead_any bo m d zs w2 (HY.out.later (below_chain l1 l2 (by omega)) (Nat.le_refl _)) h28 HD.out).mono ?_
  rintro e w3 ⟨rfl, l3⟩
  rw [HT.out.1, HT.out.2]
  have q3 := l3.size
  rw [s1] at b2
  have V3 : Hid (Blk w3 w.heap.size 27 (u8s key) ∧ Blk w3 (w.heap.size + 1) 31 (placeC r c p q) ∧ Below w.heap.size w w3) := ⟨(b1.later l2 (by omega)).later l3 (by omega), b2.later l3 (by omega), below_chain (below_chain l1 l2 (by omega)) l3 (by omega)⟩
  have cp : w3.cell? ⟨w.heap.size + 1, 2, none⟩ = some (.int .u32 p) := V3.out.2.1.cell 2
  have cq : w3.cell? ⟨w.heap.size + 1, 3, none⟩ = some (.int .u32 q) := V3.out.2.1.cell 3
  clear b1 b2 l1 l2 l3 s2 s1 q3
  have NP := neq_place R C p q r c
  rw [HE.out] at NP
  go_wp2_with (first | (refine wpList_build rfl 31 _ rfl #[(0, .int .u64 R), (1, .int .u32 C), (2, .int .u32 p), (3, .int .u32 q)] (by simp only [List.map_toArray, List.map_cons, List.map_nil]; rfl) _ (pbuild R C p q _) ?_) | (refine wpList_alloc_new rfl 31 rfl 4 _ pzPlace ?_; intro w4 b4 s4 l4) | (refine wpList_store_blk rfl 31 31 _ _ rfl _ rfl _ (placeC R C p q) rfl b4 rfl pzKey (placeC_one _ _ _ _) ?_; intro w5 b5 s5 k5; have V5 : Hid (Blk w5 w.heap.size 27 (u8s key) ∧ Blk w5 (w.heap.size + 1) 31 (placeC r c p q) ∧ Below w.heap.size w w5 ∧ Blk w5 w3.heap.size 31 (placeC R C p q)) := (by have L5 : Below w3.heap.size w3 w5 := below_kept l4 k5 (by omega) (fun j hj => by omega); exact ⟨V3.out.1.later L5 V3.out.1.lt, V3.out.2.1.later L5 V3.out.2.1.lt, below_chain V3.out.2.2 L5 V3.out.2.2.size, b5⟩)) | ((with_reducible show wpList _ _ _ (({ dst := some 31, op := _, type := _, pos := _, after := _, guard := _ } : Oper) :: _) _ _); refine wpList_load_blk rfl 31 _ rfl _ rfl (placeC R C p q) _ V5.out.2.2.2 Try.underlying31 rfl pzKey ?_) | ((with_reducible show wpList _ _ _ (({ dst := some 32, op := _, type := _, pos := _, after := _, guard := _ } : Oper) :: _) _ _); refine wpList_load_blk rfl 31 _ rfl _ rfl (placeC r c p q) _ V5.out.2.1 Try.underlying31 rfl pzKey ?_))
  clear NP cp cq b4 s4 l4 b5 s5 k5
  refine region_inv [.val (.agg (u8s key).toArray), .val (.agg (placeC r c p q).toArray), .val (.agg (u8s H).toArray), .val (.agg (placeC r c p q).toArray), .any (isO w.heap.size 8 M) (isO_later _ _ _), .val (.slice bo m d), .val (.slice (subA bo 12 d) (m - 12) (d - 12)), .any (isT w.heap.size (m - 28) X 0) (isT_later _ _ _ _), .any (isT w.heap.size (m - 28) X 0) (isT_later _ _ _ _), .any (isO w.heap.size (m - 28) X) (isO_later _ _ _), .val (.int .i64 0), .any (isO w.heap.size (m - 28) X) (isO_later _ _ _)] (by kernel_rfl) (by kernel_rfl) (by kernel_rfl) ?_ ?_
  · refine Steps'.cons ?_ (Steps'.cons ?_ (Steps'.cons ?_ (Steps'.cons ?_ (Steps'.cons ?_ (Steps'.cons ?_ (Steps'.cons ?_ (Steps'.cons ?_ (Steps'.cons ?_ (Steps'.cons ?_ (Steps'.cons ?_ (Steps'.cons ?_ (Steps'.one _ _ _ _ _ _ _))))))))))))
    · intro ax wx hb hs hd
      have h3 : ax.tmps.getD 3 undef = (.pointer (some ⟨w.heap.size, 0, none⟩)) := hs 3 (by kernel_rfl)
      exact Does.load 27 (.tmp 3) rfl w.heap.size 0 h3 (u8s key) _ ((V5.out.1).later hb (V5.out.1).lt).all Try.underlying27 rfl (by rw [u8s_length, HK.out.1]; exact sizeKey)
    · intro ax wx hb hs hd
      have h4 : ax.tmps.getD 4 undef = (.pointer (some ⟨w.heap.size + 1, 0, none⟩)) := hs 4 (by kernel_rfl)
      exact Does.load 31 (.tmp 4) rfl (w.heap.size + 1) 0 h4 (placeC r c p q) _ ((V5.out.2.1).later hb (V5.out.2.1).lt).all Try.underlying31 rfl pzKey
    · intro ax wx hb hs hd
      have h36 : ax.tmps.getD 36 undef = (.agg (placeC r c p q).toArray) := hd 1 36 rfl (by kernel_rfl) (by decide)
      refine Does.call 21 #[.agg (placeC r c p q).toArray] (by clear hs hd; go_simp) ?_
      refine (headOf_any r c p q HK.out.2.2.1 HK.out.2.2.2.1 wx).mono ?_
      rintro e w' ⟨rfl, l⟩
      rw [HH.out.1]
      exact ⟨_, rfl, rfl, l⟩
    · intro ax wx hb hs hd
      have h4 : ax.tmps.getD 4 undef = (.pointer (some ⟨w.heap.size + 1, 0, none⟩)) := hs 4 (by kernel_rfl)
      exact Does.load 31 (.tmp 4) rfl (w.heap.size + 1) 0 h4 (placeC r c p q) _ ((V5.out.2.1).later hb (V5.out.2.1).lt).all Try.underlying31 rfl pzKey
    · intro ax wx hb hs hd
      have h38 : ax.tmps.getD 38 undef = (.agg (placeC r c p q).toArray) := hd 3 38 rfl (by kernel_rfl) (by decide)
      refine Does.call 22 #[.agg (placeC r c p q).toArray] (by clear hs hd; go_simp) ?_
      refine (vouch_any r c p q HK.out.2.2.2.2.1 HK.out.2.2.2.2.2 wx).mono ?_
      rintro e w' ⟨v, rfl, o, l⟩
      rw [HM.out.1] at o
      exact ⟨_, rfl, ownsRow_base o (by have := hb.size; have := V5.out.2.2.1.size; omega), l⟩
    · intro ax wx hb hs hd
      have h2 : ax.tmps.getD 2 undef = (.slice bo m d) := hs 2 (by kernel_rfl)
      refine Does.value (.slice bo m d) ?_ rfl
      clear hs hd
      go_simp
    · intro ax wx hb hs hd
      have h40 : ax.tmps.getD 40 undef = (.slice bo m d) := hd 5 40 rfl (by kernel_rfl) (by decide)
      have S12 := HB.out.1
      refine Does.value (.slice (subA bo 12 d) (m - 12) (d - 12)) ?_ rfl
      clear hs hd
      go_simp
    · intro ax wx hb hs hd
      have h35 : ax.tmps.getD 35 undef = (.agg (u8s key).toArray) := hd 0 35 rfl (by kernel_rfl) (by decide)
      have h37 : ax.tmps.getD 37 undef = (.agg (u8s H).toArray) := hd 2 37 rfl (by kernel_rfl) (by decide)
      have p39 : (isO w.heap.size 8 M) (ax.tmps.getD 39 undef) wx := hd 4 39 rfl (by kernel_rfl) (by decide)
      have h41 : ax.tmps.getD 41 undef = (.slice (subA bo 12 d) (m - 12) (d - 12)) := hd 6 41 rfl (by kernel_rfl) (by decide)
      obtain ⟨mo, mc, h39, s39, c39, _⟩ := pown_sl HM.out.2.1 HM.out.2.2 (by decide) p39
      clear p39
      refine Does.call 17 #[.agg (u8s key).toArray, .agg (u8s H).toArray, .slice mo 8 mc, .slice (subA bo 12 d) (m - 12) (d - 12)] (by clear hs hd; go_simp) ?_
      refine (open_yes key H 8 mc (m - 12) (d - 12) mo (subA bo 12 d) M B HK.out.1 HH.out.2.1 HK.out.2.1 HH.out.2.2 (by omega) (by omega) (by decide) wx s39 (HB.out.2.1.later (below_chain V5.out.2.2.1 hb V5.out.2.2.1.size) (Nat.le_refl _)) c39 (by have := HD.out; omega) HB.out.2.2).mono ?_
      rintro e w' ⟨v, rfl, o, l⟩
      rw [HX.out, show m - 12 - 16 = m - 28 by omega] at o
      exact ⟨_, rfl, ⟨v, rfl, ownsRow_base o (by have := hb.size; have := V5.out.2.2.1.size; omega)⟩, l⟩
    · intro ax wx hb hs hd
      have p42 : (isT w.heap.size (m - 28) X 0) (ax.tmps.getD 42 undef) wx := hd 7 42 rfl (by kernel_rfl) (by decide)
      obtain ⟨u, h42, o⟩ := p42
      refine Does.value (.tuple #[u, .int .i64 0]) ?_ ⟨u, rfl, o⟩
      clear hs hd
      go_simp
    · intro ax wx hb hs hd
      have p34 : (isT w.heap.size (m - 28) X 0) (ax.tmps.getD 34 undef) wx := hd 8 34 rfl (by kernel_rfl) (by decide)
      obtain ⟨u, h34, o⟩ := p34
      refine Does.value u ?_ o
      clear hs hd
      go_simp
    · intro ax wx hb hs hd
      have p34 : (isT w.heap.size (m - 28) X 0) (ax.tmps.getD 34 undef) wx := hd 8 34 rfl (by kernel_rfl) (by decide)
      obtain ⟨u, h34, o⟩ := p34
      refine Does.value (.int .i64 0) ?_ rfl
      clear hs hd
      go_simp
    · intro ax wx hb hs hd
      have p43 : (isO w.heap.size (m - 28) X) (ax.tmps.getD 43 undef) wx := hd 9 43 rfl (by kernel_rfl) (by decide)
      obtain ⟨u, h43⟩ : ∃ u, ax.tmps.getD 43 undef = u := ⟨_, rfl⟩
      rw [h43] at p43
      refine Does.value u ?_ p43
      clear hs hd
      go_simp
  · intro wx hb
    refine @Ends.val _ _ _ _ _ _ _ _ _ (.agg (u8s key).toArray) rfl ?_
    refine @Ends.val _ _ _ _ _ _ _ _ _ (.agg (placeC r c p q).toArray) rfl ?_
    refine @Ends.val _ _ _ _ _ _ _ _ _ (.agg (u8s H).toArray) rfl ?_
    refine @Ends.val _ _ _ _ _ _ _ _ _ (.agg (placeC r c p q).toArray) rfl ?_
    refine @Ends.any _ _ _ _ _ _ _ _ _ (isO w.heap.size 8 M) (isO_later _ _ _) rfl ?_
    intro v39 p39
    refine @Ends.val _ _ _ _ _ _ _ _ _ (.slice bo m d) rfl ?_
    refine @Ends.val _ _ _ _ _ _ _ _ _ (.slice (subA bo 12 d) (m - 12) (d - 12)) rfl ?_
    refine @Ends.any _ _ _ _ _ _ _ _ _ (isT w.heap.size (m - 28) X 0) (isT_later _ _ _ _) rfl ?_
    intro v42 p42
    refine @Ends.any _ _ _ _ _ _ _ _ _ (isT w.heap.size (m - 28) X 0) (isT_later _ _ _ _) rfl ?_
    intro v34 p34
    refine @Ends.any _ _ _ _ _ _ _ _ _ (isO w.heap.size (m - 28) X) (isO_later _ _ _) rfl ?_
    intro v43 p43
    refine @Ends.val _ _ _ _ _ _ _ _ _ (.int .i64 0) rfl ?_
    refine @Ends.any _ _ _ _ _ _ _ _ _ (isO w.heap.size (m - 28) X) (isO_later _ _ _) rfl ?_
    intro v12 p12
    refine @Ends.one _ _ _ _ _ _ _ ?_
    simp only [Act.put, List.setIfInBounds_toArray, List.set_cons_zero, List.set_cons_succ]
    have W1 : Hid (isO w.heap.size (m - 28) X v12 wx ∧ Below w.heap.size w wx) := ⟨p12, below_chain V5.out.2.2.1 hb V5.out.2.2.1.size⟩
    clear p12 p43 p42 p39 p34
    refine last_assign (.tmp 44) rfl (some 10) rfl (.int .i64 0) rfl ?_
    simp only [Act.put, List.setIfInBounds_toArray, List.set_cons_zero, List.set_cons_succ]
    go_wp2_with (go_at_call 23; refine (is_any 0 _).mono ?_; rintro e w' ⟨rfl, rfl⟩; rw [show ((0 : Int) == 0) = true from rfl])
    go_ret2
    exact ⟨_, rfl, W1.out.1, W1.out.2⟩
end Go.Proofs.Ytcimiajkbgabiaa

namespace Go.Proofs.Ytcimiajkbgabiaa
open Go.RowKit
set_option linter.unusedVariables false
set_option linter.unusedSimpArgs false

set_option maxRecDepth 20000 in
set_option maxHeartbeats 1000000 in
theorem reqb_any (ao bo : Option Addr) (n n' c c' : Nat) (xs ys : List Int) (w : World) (hx : Seen w ao n xs) (hy : Seen w bo n' ys) :
    Calls Try.prog 13 #[.slice ao n c, .slice bo n' c'] w fun e w' => e = .returned (.bool (decide (xs = ys))) ∧ ∃ q, w' = w.drewN q := by
  have t1 := hx.top
  have t2 := hy.top
  by_cases hne : n = n'
  · subst hne
    have HL : Hid (xs.length = n ∧ ys.length = n) := ⟨hx.len, hy.len⟩
    go_enter Try.func13, Try.ntmps13
    go_wp2
    go_loopw [5] (fun i wr => ∃ k : Nat, k ≤ n ∧ i = .int .i64 k ∧ xs.take k = ys.take k ∧ ∃ q, wr = w.drewN q) (fun i _ => n - (intOf i).toNat)
    case atStart => exact ⟨0, Nat.zero_le _, rfl, by simp, 0, rfl⟩
    case round =>
      obtain ⟨k, hk, rfl, hs, q, rfl⟩ := hrel
      by_cases hlt : k < n
      · obtain ⟨b, o, rfl, hb, hc⟩ := hx.cells (by omega)
        obtain ⟨b', o', rfl, hb', hc'⟩ := hy.cells (by omega)
        have c1 := hc k hlt
        have c2 := hc' k hlt
        have HT := take_same_succ xs ys k (by have := HL.out.1; omega) (by have := HL.out.2; omega)
        obtain ⟨X, hX⟩ : ∃ X, xs.getD k 0 = X := ⟨_, rfl⟩
        obtain ⟨Y, hY⟩ : ∃ Y, ys.getD k 0 = Y := ⟨_, rfl⟩
        rw [hX] at c1 HT
        rw [hY] at c2 HT
        have HS : Hid (xs.take k = ys.take k) := hs
        have HT' : Hid (xs.take (k + 1) = ys.take (k + 1) ↔ xs.take k = ys.take k ∧ X = Y) := HT
        have i1 : (0 : Int) ≤ (k : Int) := by omega
        have i2 : (k : Int) < (n : Int) := by omega
        clear hX hY hc hc' hx hy hs HT hb hb'
        by_cases e : X = Y
        · have hd : (X != Y) = false := by simp [e]
          have HE : Hid (X = Y) := e
          clear e
          go_wp2
          go_quiet (fail)
          go_wp2
          go_roundw
          case rel => exact ⟨k + 1, by omega, by go_num, HT'.out.2 ⟨HS.out, HE.out⟩, _, rfl⟩
          case measure => simp [intOf]; omega
        · have hd : (X != Y) = true := by simp [e]
          have HE : Hid (¬ X = Y) := e
          clear e
          have HN : Hid (decide (xs = ys) = false) := by
            show _ = _
            apply decide_eq_false
            intro h
            exact HE.out (HT'.out.1 (by rw [h])).2
          go_wp2
          go_quiet (fail)
          go_wp2
          go_ret
          exact ⟨ret_bool HN.out.symm, _, World.drewN_drewN _ _ _⟩
      · have HE : Hid (decide (xs = ys) = true) := by
          show _ = _
          apply decide_eq_true
          have e1 : xs.take k = xs := List.take_of_length_le (by have := HL.out.1; omega)
          have e2 : ys.take k = ys := List.take_of_length_le (by have := HL.out.2; omega)
          rw [← e1, ← e2]; exact hs
        clear hs
        go_wp2
        go_ret
        exact ⟨ret_bool HE.out.symm, _, rfl⟩
  · have h : ((n : Int) != (n' : Int)) = true := by simp; omega
    have HN : Hid (decide (xs = ys) = false) := by
      show _ = _
      apply decide_eq_false
      intro h
      exact hne (by rw [← hx.len, ← hy.len, h])
    go_enter Try.func13, Try.ntmps13
    go_wp2
    go_ret
    exact ⟨ret_bool HN.out.symm, 0, rfl⟩
end Go.Proofs.Ytcimiajkbgabiaa

namespace Go.Proofs.Ytcimiajkbgabiaa
open Go.RowKit
set_option linter.unusedVariables false
set_option linter.unusedSimpArgs false

/-- A sheet: a key, a place, a slice of bytes. -/
structure Sh where
  key : List Int
  r : Int
  c : Int
  p : Int
  q : Int
  bo : Option Addr
  m : Nat
  d : Nat
  zs : List Int
def sheetC (s : Sh) : List Value := u8s s.key ++ (placeC s.r s.c s.p s.q ++ [.slice s.bo s.m s.d])
structure ShIn (w : World) (s : Sh) : Prop where
  k32 : s.key.length = 32
  kb : Bytes s.key
  hr : Word s.r
  hc : U32 s.c
  hp : U32 s.p
  hq : U32 s.q
  text : Seen w s.bo s.m s.zs
  hd : s.m ≤ s.d
  hn : s.bo = none → s.d = 0
theorem ShIn.later {w w' : World} {s : Sh} (h : ShIn w s) {B : Nat} (hb : Below B w w') (hB : w.heap.size ≤ B) : ShIn w' s := ⟨h.k32, h.kb, h.hr, h.hc, h.hp, h.hq, h.text.later hb hB, h.hd, h.hn⟩
/-- A sheet in block g. -/
structure ShAt (w : World) (g : Nat) (s : Sh) : Prop where
  blk : Blk w g 36 (sheetC s)
  is : ShIn w s
theorem ShAt.later {w w' : World} {g : Nat} {s : Sh} (h : ShAt w g s) (hb : Below w.heap.size w w') : ShAt w' g s := ⟨h.blk.later hb h.blk.lt, h.is.later hb (Nat.le_refl _)⟩
theorem ShAt.dn {w : World} {g : Nat} {s : Sh} (h : ShAt w g s) (q : Nat) : ShAt (w.drewN q) g s := h.later (below_dn (Below.refl _ _) q)
theorem ShAt.key {w : World} {g : Nat} {s : Sh} (h : ShAt w g s) : w.rangeAt g 0 (u8s s.key) := by
  have := Blk.range (xs := []) (ys := u8s s.key) h.blk
  simpa using this
theorem ShAt.place {w : World} {g : Nat} {s : Sh} (h : ShAt w g s) : w.rangeAt g 32 (placeC s.r s.c s.p s.q) := by
  have := Blk.range (xs := u8s s.key) (ys := placeC s.r s.c s.p s.q) h.blk
  rwa [u8s_length, h.is.k32] at this
theorem ShAt.cell {w : World} {g : Nat} {s : Sh} (h : ShAt w g s) (j : Nat) : w.cell? ⟨g, 32 + j, none⟩ = (placeC s.r s.c s.p s.q ++ [.slice s.bo s.m s.d])[j]? := by
  rw [h.blk.cell, sheetC, List.getElem?_append_right (by rw [u8s_length, h.is.k32]; omega), u8s_length, h.is.k32, Nat.add_sub_cancel_left]
theorem ShAt.cT {w : World} {g : Nat} {s : Sh} (h : ShAt w g s) : w.cell? ⟨g, 36, none⟩ = some (.slice s.bo s.m s.d) := h.cell 4
theorem ShAt.cR {w : World} {g : Nat} {s : Sh} (h : ShAt w g s) : w.cell? ⟨g, 32, none⟩ = some (.int .u64 s.r) := h.cell 0
theorem ShAt.cC {w : World} {g : Nat} {s : Sh} (h : ShAt w g s) : w.cell? ⟨g, 33, none⟩ = some (.int .u32 s.c) := h.cell 1
/-- Does Open open it? -/
def pOpens (key : List Int) (r c p q : Int) (zs : List Int) : Bool := decide (28 ≤ zs.length) && decide (zs.length ≤ 4124) && ((tellR zs == r && tellC zs == c) && opensL key (hdL r c) (moL p q) (zs.drop 12))
/-- What Open answers then. -/
def pText (key : List Int) (r c : Int) (zs : List Int) : List Int := textL key (hdL r c) (zs.drop 12)
theorem popen_bad (key : List Int) (r c p q : Int) (bo : Option Addr) (m d : Nat) (zs : List Int) (hk : key.length = 32) (hkb : Bytes key) (hr : Word r) (hc : U32 c) (hp : U32 p) (hq : U32 q) (w : World) (hy : Seen w bo m zs) (hd : m ≤ d) (hO : pOpens key r c p q zs = false) :
    Calls Try.prog 8 #[.agg (u8s key).toArray, .agg (placeC r c p q).toArray, .slice bo m d] w fun e w' => e = .returned (.tuple #[.slice none 0 0, .int .i64 120]) ∧ Below w.heap.size w w' := by
  have hl := hy.len
  have t1 := hy.top
  by_cases h1 : 4124 < m
  · exact popen_long key r c p q bo m d t1 h1 w
  · by_cases h2 : m < 28
    · exact popen_short key r c p q bo m d h2 w
    · cases h3 : (tellR zs == r && tellC zs == c) with
      | false => exact popen_else key r c p q bo m d zs (by omega) (by omega) w hy hd h3
      | true =>
        refine popen_no key r c p q bo m d zs hk hkb hr hc hp hq (by omega) (by omega) w hy hd h3 ?_
        rw [pOpens, h3, decide_eq_true (by omega), decide_eq_true (by omega), Bool.true_and, Bool.true_and, Bool.true_and] at hO
        exact hO
theorem pOpens_len {key : List Int} {r c p q : Int} {zs : List Int} (h : pOpens key r c p q zs = true) : 28 ≤ zs.length ∧ zs.length ≤ 4124 ∧ (tellR zs == r && tellC zs == c) = true ∧ opensL key (hdL r c) (moL p q) (zs.drop 12) = true := by
  simp only [pOpens, Bool.and_eq_true, decide_eq_true_eq] at h
  exact ⟨h.1.1, h.1.2, by rw [h.2.1.1, h.2.1.2]; rfl, h.2.2⟩
theorem popen_good (key : List Int) (r c p q : Int) (bo : Option Addr) (m d : Nat) (zs : List Int) (hk : key.length = 32) (hkb : Bytes key) (hr : Word r) (hc : U32 c) (hp : U32 p) (hq : U32 q) (w : World) (hy : Seen w bo m zs) (hd : m ≤ d) (hO : pOpens key r c p q zs = true) :
    Calls Try.prog 8 #[.agg (u8s key).toArray, .agg (placeC r c p q).toArray, .slice bo m d] w fun e w' => ∃ v, e = .returned (.tuple #[v, .int .i64 0]) ∧ isO w.heap.size (m - 28) (pText key r c zs) v w' ∧ Below w.heap.size w w' := by
  obtain ⟨h1, h2, h3, h4⟩ := pOpens_len hO
  have hl := hy.len
  exact popen_yes key r c p q bo m d zs hk hkb hr hc hp hq (by omega) (by omega) w hy hd h3 h4
theorem tell_page (key : List Int) (r c p q : Int) {zs : List Int} (hb : Bytes zs) (hr : Word r) (hc : U32 c) : tellR (pageL key r c p q zs) = r ∧ tellC (pageL key r c p q zs) = c :=
  (tell_head (pageL_bytes key r c p q hb) (by rw [pageL_length]; omega) hr hc).2 (pageL_head key r c p q zs)
theorem opens_page (key : List Int) (r c p q : Int) {zs : List Int} (hb : Bytes zs) (hl : zs.length ≤ 4096) (hr : Word r) (hc : U32 c) : pOpens key r c p q (pageL key r c p q zs) = true := by
  have h := tell_page key r c p q hb hr hc
  rw [pOpens, pageL_length, decide_eq_true (by omega), decide_eq_true (by omega), h.1, h.2, pageL_box, opens_box]
  simp
theorem text_page (key : List Int) (r c p q : Int) {zs : List Int} (hb : Bytes zs) : pText key r c (pageL key r c p q zs) = zs := by rw [pText, pageL_box, text_box _ _ _ hb]
theorem page_text {key : List Int} {r c p q : Int} {zs : List Int} (hb : Bytes zs) (hr : Word r) (hc : U32 c) (h : pOpens key r c p q zs = true) : pageL key r c p q (pText key r c zs) = zs := by
  obtain ⟨h1, h2, h3, h4⟩ := pOpens_len h
  have ht : zs.take 12 = hdL r c := (tell_head hb (by omega) hr hc).1 (by simpa using h3)
  have hx := box_text key (hdL r c) (moL p q) (box := zs.drop 12) (fun z hz => hb z (List.mem_of_mem_drop hz)) h4
  rw [pageL, pText, hx, ← ht, List.take_append_drop]
def k7 : List Int := 7 :: List.replicate 31 0
theorem k7_bytes : Bytes k7 := fun z hz => by
  rcases List.mem_cons.1 hz with rfl | h
  · decide
  · rw [List.eq_of_mem_replicate h]; decide
theorem bk7 (w : World) : (Instr.build 27 #[(0, .int .u8 7)]).run Try.prog w = .ok (.agg (u8s k7).toArray) w := by kernel_rfl
theorem pb123 : Bytes [1, 2, 3] := fun z hz => by simp at hz; rcases hz with rfl | rfl | rfl <;> decide
set_option maxRecDepth 20000 in
set_option maxHeartbeats 4000000 in
theorem pworks_any (w : World) : Calls Try.prog 11 #[] w fun e w' => e = .returned (.bool true) ∧ Below w.heap.size w w' := by
  have W1 : Word 1 := ⟨by decide, by decide⟩
  have U1 : U32 1 := ⟨by decide, by decide⟩
  have U2 : U32 2 := ⟨by decide, by decide⟩
  have U5 : U32 5 := ⟨by decide, by decide⟩
  have hO := opens_page k7 1 2 5 1 pb123 (by decide) W1 U2
  have hT := text_page k7 1 2 5 1 pb123
  have hL := pageL_length k7 1 2 5 1 [1, 2, 3]
  have hB := pageL_bytes k7 1 2 5 1 pb123
  have hH := pageL_head k7 1 2 5 1 [1, 2, 3]
  have hR := tell_page k7 1 2 5 1 pb123 W1 U2
  obtain ⟨X, hX⟩ : ∃ X, pageL k7 1 2 5 1 [1, 2, 3] = X := ⟨_, rfl⟩
  rw [hX] at hO hT hL hB hH hR
  have e0 : X.getD 0 0 = 1 := by
    have : (X.take 12).getD 0 0 = 1 := by rw [hH]; decide +kernel
    simpa [List.getD, List.getElem?_take] using this
  have e8 : X.getD 8 0 = 2 := by
    have : (X.take 12).getD 8 0 = 2 := by rw [hH]; decide +kernel
    simpa [List.getD, List.getElem?_take] using this
  have HX : Hid (pageL k7 1 2 5 1 [1, 2, 3] = X ∧ X.length = 31 ∧ Bytes X ∧ pOpens k7 1 2 5 1 X = true ∧ pText k7 1 2 X = [1, 2, 3] ∧ tellR X = 1 ∧ tellC X = 2 ∧ X.getD 0 0 = 1 ∧ X.getD 8 0 = 2) := ⟨hX, hL, hB, hO, hT, hR.1, hR.2, e0, e8⟩
  clear hX hL hB hO hT hR e0 e8 hH
  go_enter Try.func11, Try.ntmps11
  go_wp2_with (first | (refine wpList_build rfl 31 _ rfl #[(0, .int .u64 1), (1, .int .u32 2), (2, .int .u32 5), (3, .int .u32 1)] (by simp only [List.map_toArray, List.map_cons, List.map_nil]; rfl) _ (pbuild 1 2 5 1 _) ?_) | (refine wpList_build rfl 27 _ rfl #[(0, .int .u8 7)] (by simp only [List.map_toArray, List.map_cons, List.map_nil]; rfl) _ (bk7 _) ?_) | (refine wpList_alloc_new rfl 31 rfl 4 _ pzPlace ?_; intro w1 b1 s1 l1) | (refine wpList_store_blk rfl 31 31 _ _ rfl _ rfl _ (placeC 1 2 5 1) rfl b1 rfl pzKey (placeC_one _ _ _ _) ?_; intro w2 b2 s2 k2) | (refine wpList_load_blk rfl 31 _ rfl w.heap.size rfl (placeC 1 2 5 1) _ b2 Try.underlying31 rfl pzKey ?_))
  have b4 : Blk (w2.alloc (.cells #[.int .u8 1, .int .u8 2, .int .u8 3] 5)) w2.heap.size 5 (u8s [1, 2, 3]) := heap_alloc_new w2 _
  have l4 : Below w2.heap.size w2 (w2.alloc (.cells #[.int .u8 1, .int .u8 2, .int .u8 3] 5)) := (Below.refl _ _).alloc (Nat.le_refl _) _
  obtain ⟨w4, hw4⟩ : ∃ W, w2.alloc (.cells #[.int .u8 1, .int .u8 2, .int .u8 3] 5) = W := ⟨_, rfl⟩
  rw [hw4] at b4 l4 ⊢
  clear hw4
  have e2 : w2.heap.size = w.heap.size + 1 := by omega
  have H4 : Hid (Blk w4 w.heap.size 31 (placeC 1 2 5 1) ∧ Blk w4 (w.heap.size + 1) 5 (u8s [1, 2, 3]) ∧ Below w.heap.size w w4) := by
    rw [← e2]
    exact ⟨b2.later l4 (by omega), b4, below_chain (below_kept l1 k2 (by omega) (fun j hj => by omega)) l4 (by omega)⟩
  clear b1 l1 b2 k2 b4 l4 s2 s1
  clear e2
  refine (pseal_any k7 1 2 5 1 (some ⟨w.heap.size + 1, 0, none⟩) 3 3 [1, 2, 3] rfl k7_bytes W1 U2 U5 U1 (by decide) w4 (seen_blk H4.out.2.1 pb123 (by decide)) (Nat.le_refl _)).mono ?_
  rintro e w5 ⟨v, rfl, o5, l5⟩
  rw [HX.out.1] at o5
  obtain ⟨vo, cap, rfl, d5, c5, _⟩ := pown_sl (n := 31) HX.out.2.1 HX.out.2.2.1 (by decide) o5
  obtain ⟨g, o, rfl, -, -⟩ := d5.cells (by decide)
  have x0 : w5.cell? ⟨g, o + 0, none⟩ = some (.int .u8 1) := by
    obtain ⟨b, oo, e, _, hc⟩ := d5.cells (by decide)
    cases e
    rw [hc 0 (by decide), HX.out.2.2.2.2.2.2.2.1]
  have x8 : w5.cell? ⟨g, o + 8, none⟩ = some (.int .u8 2) := by
    obtain ⟨b, oo, e, _, hc⟩ := d5.cells (by decide)
    cases e
    rw [hc 8 (by decide), HX.out.2.2.2.2.2.2.2.2]
  rw [Nat.add_zero] at x0
  have H5 : Hid (Blk w5 w.heap.size 31 (placeC 1 2 5 1) ∧ Seen w5 (some ⟨g, o, none⟩) 31 X ∧ 31 ≤ cap ∧ Below w.heap.size w w5) := ⟨H4.out.1.later l5 H4.out.1.lt, d5, c5, below_chain H4.out.2.2 l5 H4.out.2.2.size⟩
  clear o5 l5 d5 c5
  go_wp2_with (first | (refine wpList_build rfl 27 _ rfl #[(0, .int .u8 7)] (by simp only [List.map_toArray, List.map_cons, List.map_nil]; rfl) _ (bk7 _) ?_) | (refine wpList_load_blk rfl 31 _ rfl w.heap.size rfl (placeC 1 2 5 1) _ H5.out.1 Try.underlying31 rfl pzKey ?_))
  refine (popen_good k7 1 2 5 1 (some ⟨g, o, none⟩) 31 cap X rfl k7_bytes W1 U2 U5 U1 w5 H5.out.2.1 H5.out.2.2.1 HX.out.2.2.2.1).mono ?_
  rintro e w6 ⟨v, rfl, o6, l6⟩
  rw [HX.out.2.2.2.2.1] at o6
  obtain ⟨to, tc, rfl, d6, c6, _⟩ := pown_sl (n := 3) (zs := [1, 2, 3]) rfl pb123 (by decide) o6
  have H6 : Hid (Seen w6 (some ⟨g, o, none⟩) 31 X ∧ Seen w6 to 3 [1, 2, 3] ∧ Below w.heap.size w w6) := ⟨H5.out.2.1.later l6 (Nat.le_refl _), d6, below_chain H5.out.2.2.2 l6 H5.out.2.2.2.size⟩
  clear o6 d6 l6 x0 x8
  go_wp2_with fail
  refine (phead_any (some ⟨g, o, none⟩) 31 cap X w6 H6.out.1 (by decide) H5.out.2.2.1).mono ?_
  rintro e w7 ⟨rfl, l7⟩
  rw [HX.out.2.2.2.2.2.1, HX.out.2.2.2.2.2.2.1]
  have H7 : Hid (Seen w7 to 3 [1, 2, 3] ∧ Below w.heap.size w w7) := ⟨H6.out.2.1.later l7 (Nat.le_refl _), below_chain H6.out.2.2 l7 H6.out.2.2.size⟩
  clear l7
  go_wp2_with fail
  have b8 : Blk (w7.alloc (.cells #[.int .u8 1, .int .u8 2, .int .u8 3] 5)) w7.heap.size 5 (u8s [1, 2, 3]) := heap_alloc_new w7 _
  have l8 : Below w7.heap.size w7 (w7.alloc (.cells #[.int .u8 1, .int .u8 2, .int .u8 3] 5)) := (Below.refl _ _).alloc (Nat.le_refl _) _
  obtain ⟨w8, hw8⟩ : ∃ W, w7.alloc (.cells #[.int .u8 1, .int .u8 2, .int .u8 3] 5) = W := ⟨_, rfl⟩
  rw [hw8] at b8 l8 ⊢
  clear hw8
  have H8 : Hid (Seen w8 to 3 [1, 2, 3] ∧ Seen w8 (some ⟨w7.heap.size, 0, none⟩) 3 [1, 2, 3] ∧ Below w.heap.size w w8) := ⟨H7.out.1.later l8 (Nat.le_refl _), seen_blk b8 pb123 (by decide), below_chain H7.out.2 l8 H7.out.2.size⟩
  clear b8 l8
  refine (reqb_any to (some ⟨w7.heap.size, 0, none⟩) 3 3 tc 3 [1, 2, 3] [1, 2, 3] w8 H8.out.1 H8.out.2.1).mono ?_
  rintro e w9 ⟨rfl, q, rfl⟩
  rw [decide_eq_true rfl]
  go_wp2_with fail
  go_ret
  exact ⟨rfl, below_dn H8.out.2.2 q⟩
end Go.Proofs.Ytcimiajkbgabiaa

namespace Go.Proofs.Ytcimiajkbgabiaa
open Go.ChangeShapes Go.WideShapes Go.ChangeAt Go.RowKit
set_option linter.unusedVariables false
set_option linter.unusedSimpArgs false

theorem pOwn : ownKnob Try.prog.godebug = none := by kernel_rfl
theorem pLaidOut : laidOutB Try.prog = true := by kernel_rfl
theorem pBytesOf : Try.prog.bytesOf 5 = 1 := by kernel_rfl
theorem pCellsByte : Try.prog.cellsOf 5 = 1 := by kernel_rfl
theorem pCellsKey : Try.prog.cellsOf 27 = 32 := by kernel_rfl
theorem pCellsPlace : Try.prog.cellsOf 31 = 4 := by kernel_rfl
theorem pCellsSheet : Try.prog.cellsOf 36 = 37 := by kernel_rfl
theorem pCellsU : Try.prog.cellsOf 28 = 1 := by kernel_rfl
theorem pCellsV : Try.prog.cellsOf 29 = 1 := by kernel_rfl
theorem pCellsL : Try.prog.cellsOf 22 = 1 := by kernel_rfl
def pUnByte : Value → Int
  | .int _ z => z
  | _ => 0
/-- An array of bytes, opened. -/
theorem pBytes_arr {H : Type} {enc : TypeId × Value → H} {W : World} {base : Nat} {sp : Nat → Bool} {held : Bool} {fuel n : Nat} {t : TypeId} {cs : List Value} {x : DataW H × List MemPlace} (ht : Try.prog.underlying t = some (.array n 5)) (hn : Try.prog.cellsOf t = n)
    (h : DataW.trod enc Try.prog W base sp held fuel t cs = some x) : ∃ zs : List Int, cs = u8s zs ∧ zs.length = n ∧ Bytes zs := by
  obtain ⟨xs, m, _, _, hlen, hxl, hf⟩ := DataW.trod_array ht h
  have hc : cs.length = n := hlen.trans hn
  have key : ∀ i, (hi : i < cs.length) → ∃ z, cs[i] = .int .u8 z ∧ 0 ≤ z ∧ z < 256 := by
    intro i hi
    have h1 := hf i (by omega)
    rw [pCellsByte, Nat.mul_one, List.getElem?_eq_getElem (by omega)] at h1
    obtain ⟨z, hz, _, hw⟩ := DataW.trod_int Try.underlying5 h1
    refine ⟨z, ?_, byte_of_wf hw⟩
    rw [List.drop_eq_getElem_cons hi, List.take_succ_cons, List.take_zero] at hz
    exact (List.cons.inj hz).1
  refine ⟨cs.map pUnByte, ?_, by simpa using hc, ?_⟩
  · apply List.ext_getElem
    · simp [u8s]
    · intro i h1 h2
      obtain ⟨z, hz, _⟩ := key i h1
      simp [u8s, hz, pUnByte]
  · intro z hz
    obtain ⟨v, hv, rfl⟩ := List.mem_map.1 hz
    obtain ⟨i, hi, rfl⟩ := List.mem_iff_getElem.1 hv
    obtain ⟨z, hz, hb⟩ := key i hi
    rw [hz]; exact hb
/-- A list in a field. -/
theorem pList_in {H : Type} {enc : TypeId × Value → H} {W : World} {fuel : Nat} {v : Value} {y : DataW H × List MemPlace} (h : DataW.trod enc Try.prog W 0 (fun _ => true) true fuel 22 [v] = some y)
    (hs : ∀ elems spare, y.1 = .slice elems spare → (elems.length + spare.length) * Try.prog.bytesOf 5 ≤ reachBytes) : ∃ ao n c zs, v = .slice ao n c ∧ Seen W ao n zs ∧ n ≤ c ∧ (ao = none → c = 0) ∧ n ≤ 140737488351232 := by
  rcases open_ints Try.underlying22 Try.underlying5 (by kernel_rfl) h with ⟨hcs, _⟩ | ⟨x, l, c, zs, hcs, _, hl, hm, hz, hx, hcell, hwz⟩
  · simp at hcs
    subst hcs
    exact ⟨none, 0, 0, [], rfl, Seen.empty _ _, Nat.le_refl _, fun _ => rfl, by decide⟩
  · simp at hcs
    subst hcs
    have hz' : zs.length = c := by simpa using hz
    have h1 := hs _ _ (by rw [hx])
    rw [pBytesOf] at h1
    simp only [lits, List.length_map, List.length_take, List.length_drop, reachBytes] at h1
    exact ⟨some x, l, c, _, rfl, Seen.of_ints (by omega) hl hz' hcell hwz, hl, fun h => (by cases h), by omega⟩
theorem pOne_cell (cs : List Value) (i : Nat) (hi : i < cs.length) : (cs.drop i).take 1 = [cs[i]] := by
  rw [List.drop_eq_getElem_cons hi, List.take_succ_cons, List.take_zero]
theorem pSized_head {H : Type} {t : TypeId} {ts : List TypeId} {d : DataW H} {ds : List (DataW H)} (h : (DataW.weightsEach Try.prog (t :: ts) (d :: ds)).all (· ≤ reachBytes) = true) : (DataW.weightsEach Try.prog [t] [d]).all (· ≤ reachBytes) = true := by
  simp only [DataW.weightsEach, List.all_append, Bool.and_eq_true, List.append_nil] at h ⊢
  first | exact h.1 | exact ⟨h.1, rfl⟩ | simp_all
theorem pSized_in {H : Type} {y0 y1 y2 : DataW H} (h : (DataW.weightsEach Try.prog [36] [.agg [y0, y1, y2]]).all (· ≤ reachBytes) = true) :
    (∀ elems spare, y2 = .slice elems spare → (elems.length + spare.length) * Try.prog.bytesOf 5 ≤ reachBytes) := by
  rintro elems spare rfl
  simp only [DataW.weightsEach, DataW.weights, Try.underlying36, Try.underlying22, List.all_append, Bool.and_eq_true, List.map_cons, List.map_nil, List.all_cons, decide_eq_true_eq] at h
  simp_all
theorem u32_of_wf {x : Int} (h : (Lit.int .u32 x).wf = true) : U32 x := by
  simp [Lit.wf, IntKind.min, IntKind.max, IntKind.signed, IntKind.bits] at h
  exact ⟨by omega, by omega⟩
theorem place_in {H : Type} {enc : TypeId × Value → H} {W : World} {fuel : Nat} {cs : List Value} {x : DataW H × List MemPlace} (hl : cs.length = 4) (h : DataW.trod enc Try.prog W 0 (fun _ => true) true fuel 31 cs = some x) :
    ∃ r c p q, cs = placeC r c p q ∧ Word r ∧ U32 c ∧ U32 p ∧ U32 q := by
  match cs, hl with
  | [v0, v1, v2, v3], _ =>
    obtain ⟨xs, n, _, hx, hlen, hxl, hf⟩ := DataW.trod_struct Try.underlying31 h
    match xs, hxl with
    | [y0, y1, y2, y3], _ =>
      have f0 : DataW.trod enc Try.prog W 0 (fun _ => true) true n 28 [v0] = some y0 := by simpa [pCellsU, pCellsV] using hf 0 _ rfl
      have f1 : DataW.trod enc Try.prog W 0 (fun _ => true) true n 29 [v1] = some y1 := by simpa [pCellsU, pCellsV] using hf 1 _ rfl
      have f2 : DataW.trod enc Try.prog W 0 (fun _ => true) true n 29 [v2] = some y2 := by simpa [pCellsU, pCellsV] using hf 2 _ rfl
      have f3 : DataW.trod enc Try.prog W 0 (fun _ => true) true n 29 [v3] = some y3 := by simpa [pCellsU, pCellsV] using hf 3 _ rfl
      obtain ⟨a0, e0, _, w0⟩ := DataW.trod_int Try.underlying28 f0
      obtain ⟨a1, e1, _, w1⟩ := DataW.trod_int Try.underlying29 f1
      obtain ⟨a2, e2, _, w2⟩ := DataW.trod_int Try.underlying29 f2
      obtain ⟨a3, e3, _, w3⟩ := DataW.trod_int Try.underlying29 f3
      simp at e0 e1 e2 e3
      subst e0 e1 e2 e3
      exact ⟨a0, a1, a2, a3, rfl, word_of_wf w0, u32_of_wf w1, u32_of_wf w2, u32_of_wf w3⟩
theorem sheet_in {H : Type} {enc : TypeId × Value → H} {W : World} {fuel : Nat} {cs : List Value} {x : DataW H × List MemPlace} (h : DataW.trod enc Try.prog W 0 (fun _ => true) true fuel 36 cs = some x)
    (hsz : (DataW.weightsEach Try.prog [36] [x.1]).all (· ≤ reachBytes) = true) : ∃ s : Sh, cs = sheetC s ∧ ShIn W s ∧ s.m ≤ 140737488351232 := by
  obtain ⟨xs, n, _, hx, hlen, hxl, hf⟩ := DataW.trod_struct Try.underlying36 h
  rw [pCellsSheet] at hlen
  match xs, hxl with
  | [y0, y1, y2], _ =>
    have f0 : DataW.trod enc Try.prog W 0 (fun _ => true) true n 27 (cs.take 32) = some y0 := by simpa [pCellsKey] using hf 0 _ rfl
    have f1 : DataW.trod enc Try.prog W 0 (fun _ => true) true n 31 ((cs.drop 32).take 4) = some y1 := by simpa [pCellsKey, pCellsPlace] using hf 1 _ rfl
    have f2 : DataW.trod enc Try.prog W 0 (fun _ => true) true n 22 ((cs.drop 36).take 1) = some y2 := by simpa [pCellsKey, pCellsPlace, pCellsL] using hf 2 _ rfl
    obtain ⟨key, e0, l0, b0⟩ := pBytes_arr Try.underlying27 pCellsKey f0
    obtain ⟨r, c, p, q, e1, hr, hc, hp, hq⟩ := place_in (by simp; omega) f1
    rw [pOne_cell cs 36 (by omega)] at f2
    have hz : (DataW.weightsEach Try.prog [36] [.agg [y0.1, y1.1, y2.1]]).all (· ≤ reachBytes) = true := by
      have e : x.1 = .agg [y0.1, y1.1, y2.1] := by rw [hx]; simp
      rw [← e]; exact hsz
    obtain ⟨bo, m, d, zs, ez, hzs, hd, hn, hm⟩ := pList_in f2 (pSized_in hz)
    refine ⟨⟨key, r, c, p, q, bo, m, d, zs⟩, ?_, ⟨l0, b0, hr, hc, hp, hq, hzs, hd, hn⟩, hm⟩
    rw [sheetC, ← e0, ← e1, ← ez]
    have d1 : cs.drop 36 = [cs[36]] := by
      rw [List.drop_eq_getElem_cons (by omega), List.drop_eq_nil_of_le (by omega)]
    have d2 : cs.drop 32 = (cs.drop 32).take 4 ++ cs.drop 36 := by
      have := (List.take_append_drop 4 (cs.drop 32)).symm
      rwa [List.drop_drop] at this
    rw [← d1, ← d2, List.take_append_drop]
def zeroSh : Sh := ⟨List.replicate 32 0, 0, 0, 0, 0, none, 0, 0, []⟩
end Go.Proofs.Ytcimiajkbgabiaa
