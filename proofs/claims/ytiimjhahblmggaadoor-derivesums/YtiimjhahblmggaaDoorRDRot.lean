/- The document's digest (trystref03): rot, word, begin, keys. -/
import Derived.Test.YtiimjhahblmggaaDoorDWorks
namespace Go.Proofs.YtiimjhahblmggaaDoor
open Go.RowKit
set_option linter.unusedVariables false
set_option linter.unusedSimpArgs false

theorem or_comm32 (a b : Int) : bits .or .u32 a b = bits .or .u32 b a := by
  show IntKind.u32.wrap ((BitVec.ofInt 32 a ||| BitVec.ofInt 32 b).toNat : Int) = IntKind.u32.wrap ((BitVec.ofInt 32 b ||| BitVec.ofInt 32 a).toNat : Int)
  rw [BitVec.or_comm]
set_option maxRecDepth 20000 in
theorem rrot_any (x k : Int) (hk : Turn k) (w : World) :
    Calls Tryd.prog 52 #[.int .u32 x, .int .i64 k] w fun e w' => e = .returned (.int .u32 (rotr x k)) ∧ ∃ q, w' = w.drewN q := by
  have h1 : rotr x k = bits .or .u32 (x / 2 ^ k.toNat) (x * 2 ^ (32 - k.toNat) % 4294967296) := or_comm32 _ _
  rw [h1]
  rcases hk with rfl | rfl | rfl | rfl | rfl | rfl | rfl | rfl | rfl | rfl
  all_goals
    clear h1
    go_enter Tryd.func52, Tryd.ntmps52
    go_wp2
    go_quiet (fail)
    go_wp2
    go_ret
    exact ⟨rfl, _, rfl⟩
set_option maxRecDepth 20000 in
theorem word_any (ao : Option Addr) (n c : Nat) (zs : List Int) (i : Nat) (hi : i + 4 ≤ n) (w : World) (hx : Seen w ao n zs) :
    Calls Tryd.prog 51 #[.slice ao n c, .int .i64 i] w fun e w' => e = .returned (.int .u32 (bits .or .u32 (bits .or .u32 (bits .or .u32 (zs.getD i 0 % 4294967296 * 16777216 % 4294967296) (zs.getD (i + 1) 0 % 4294967296 * 65536 % 4294967296)) (zs.getD (i + 2) 0 % 4294967296 * 256 % 4294967296)) (zs.getD (i + 3) 0 % 4294967296))) ∧ ∃ q, w' = w.drewN q := by
  obtain ⟨b, o, rfl, hb, hc⟩ := hx.cells (by omega)
  have t1 := hx.top
  have c0 := hc i (by omega)
  have c1 := hc (i + 1) (by omega)
  have c2 := hc (i + 2) (by omega)
  have c3 := hc (i + 3) (by omega)
  have i0 : (0 : Int) ≤ (i : Int) := by omega
  have j0 : (i : Int) < (n : Int) := by omega
  have j1 : (i : Int) + 1 < (n : Int) := by omega
  have j2 : (i : Int) + 2 < (n : Int) := by omega
  have j3 : (i : Int) + 3 < (n : Int) := by omega
  have k1 : ((i : Int) + 1).toNat = i + 1 := by omega
  have k2 : ((i : Int) + 2).toNat = i + 2 := by omega
  have k3 : ((i : Int) + 3).toNat = i + 3 := by omega
  obtain ⟨y0, hy0⟩ : ∃ y, zs.getD i 0 = y := ⟨_, rfl⟩
  obtain ⟨y1, hy1⟩ : ∃ y, zs.getD (i + 1) 0 = y := ⟨_, rfl⟩
  obtain ⟨y2, hy2⟩ : ∃ y, zs.getD (i + 2) 0 = y := ⟨_, rfl⟩
  obtain ⟨y3, hy3⟩ : ∃ y, zs.getD (i + 3) 0 = y := ⟨_, rfl⟩
  rw [hy0, hy1, hy2, hy3]
  rw [hy0] at c0
  rw [hy1] at c1
  rw [hy2] at c2
  rw [hy3] at c3
  clear hx hc hy0 hy1 hy2 hy3
  go_enter Tryd.func51, Tryd.ntmps51
  go_wp2
  go_quiet (fail)
  go_wp2
  go_ret
  exact ⟨rfl, _, rfl⟩
set_option maxRecDepth 20000 in
theorem begin_any (w : World) : Calls Tryd.prog 42 #[] w fun e w' => e = .returned (.agg (u32s iv).toArray) ∧ Below w.heap.size w w' := by
  go_enter Tryd.func42, Tryd.ntmps42
  go_wp2_with (first | (refine wpList_alloc_new rfl 79 rfl 8 _ zero8w ?_; intro w1 b1 s1 l1) | (refine wpList_build rfl 79 _ rfl #[(0, .int .u32 1779033703), (1, .int .u32 3144134277), (2, .int .u32 1013904242), (3, .int .u32 2773480762), (4, .int .u32 1359893119), (5, .int .u32 2600822924), (6, .int .u32 528734635), (7, .int .u32 1541459225)] (by simp only [List.map_toArray, List.map_cons, List.map_nil]; rfl) _ (build8 _) ?_) | (refine wpList_store_blk rfl 79 79 _ _ rfl _ rfl _ (u32s iv) rfl b1 rfl size8w (u32s_one _) ?_; intro w2 b2 s2 k2))
  exact ret_blk rfl w.heap.size (u32s iv) _ rfl b2 Tryd.underlying79 rfl size8w rfl ⟨rfl, below_kept l1 k2 (by omega) (fun j hj => by omega)⟩
abbrev kVals : Array (Nat × Value) := #[(0, .int .u32 1116352408), (1, .int .u32 1899447441), (2, .int .u32 3049323471), (3, .int .u32 3921009573), (4, .int .u32 961987163), (5, .int .u32 1508970993), (6, .int .u32 2453635748), (7, .int .u32 2870763221), (8, .int .u32 3624381080), (9, .int .u32 310598401), (10, .int .u32 607225278), (11, .int .u32 1426881987), (12, .int .u32 1925078388), (13, .int .u32 2162078206), (14, .int .u32 2614888103), (15, .int .u32 3248222580), (16, .int .u32 3835390401), (17, .int .u32 4022224774), (18, .int .u32 264347078), (19, .int .u32 604807628), (20, .int .u32 770255983), (21, .int .u32 1249150122), (22, .int .u32 1555081692), (23, .int .u32 1996064986), (24, .int .u32 2554220882), (25, .int .u32 2821834349), (26, .int .u32 2952996808), (27, .int .u32 3210313671), (28, .int .u32 3336571891), (29, .int .u32 3584528711), (30, .int .u32 113926993), (31, .int .u32 338241895), (32, .int .u32 666307205), (33, .int .u32 773529912), (34, .int .u32 1294757372), (35, .int .u32 1396182291), (36, .int .u32 1695183700), (37, .int .u32 1986661051), (38, .int .u32 2177026350), (39, .int .u32 2456956037), (40, .int .u32 2730485921), (41, .int .u32 2820302411), (42, .int .u32 3259730800), (43, .int .u32 3345764771), (44, .int .u32 3516065817), (45, .int .u32 3600352804), (46, .int .u32 4094571909), (47, .int .u32 275423344), (48, .int .u32 430227734), (49, .int .u32 506948616), (50, .int .u32 659060556), (51, .int .u32 883997877), (52, .int .u32 958139571), (53, .int .u32 1322822218), (54, .int .u32 1537002063), (55, .int .u32 1747873779), (56, .int .u32 1955562222), (57, .int .u32 2024104815), (58, .int .u32 2227730452), (59, .int .u32 2361852424), (60, .int .u32 2428436474), (61, .int .u32 2756734187), (62, .int .u32 3204031479), (63, .int .u32 3329325298)]
abbrev kOps : Array (Nat × Operand) := #[(0, .const (.int .u32 1116352408)), (1, .const (.int .u32 1899447441)), (2, .const (.int .u32 3049323471)), (3, .const (.int .u32 3921009573)), (4, .const (.int .u32 961987163)), (5, .const (.int .u32 1508970993)), (6, .const (.int .u32 2453635748)), (7, .const (.int .u32 2870763221)), (8, .const (.int .u32 3624381080)), (9, .const (.int .u32 310598401)), (10, .const (.int .u32 607225278)), (11, .const (.int .u32 1426881987)), (12, .const (.int .u32 1925078388)), (13, .const (.int .u32 2162078206)), (14, .const (.int .u32 2614888103)), (15, .const (.int .u32 3248222580)), (16, .const (.int .u32 3835390401)), (17, .const (.int .u32 4022224774)), (18, .const (.int .u32 264347078)), (19, .const (.int .u32 604807628)), (20, .const (.int .u32 770255983)), (21, .const (.int .u32 1249150122)), (22, .const (.int .u32 1555081692)), (23, .const (.int .u32 1996064986)), (24, .const (.int .u32 2554220882)), (25, .const (.int .u32 2821834349)), (26, .const (.int .u32 2952996808)), (27, .const (.int .u32 3210313671)), (28, .const (.int .u32 3336571891)), (29, .const (.int .u32 3584528711)), (30, .const (.int .u32 113926993)), (31, .const (.int .u32 338241895)), (32, .const (.int .u32 666307205)), (33, .const (.int .u32 773529912)), (34, .const (.int .u32 1294757372)), (35, .const (.int .u32 1396182291)), (36, .const (.int .u32 1695183700)), (37, .const (.int .u32 1986661051)), (38, .const (.int .u32 2177026350)), (39, .const (.int .u32 2456956037)), (40, .const (.int .u32 2730485921)), (41, .const (.int .u32 2820302411)), (42, .const (.int .u32 3259730800)), (43, .const (.int .u32 3345764771)), (44, .const (.int .u32 3516065817)), (45, .const (.int .u32 3600352804)), (46, .const (.int .u32 4094571909)), (47, .const (.int .u32 275423344)), (48, .const (.int .u32 430227734)), (49, .const (.int .u32 506948616)), (50, .const (.int .u32 659060556)), (51, .const (.int .u32 883997877)), (52, .const (.int .u32 958139571)), (53, .const (.int .u32 1322822218)), (54, .const (.int .u32 1537002063)), (55, .const (.int .u32 1747873779)), (56, .const (.int .u32 1955562222)), (57, .const (.int .u32 2024104815)), (58, .const (.int .u32 2227730452)), (59, .const (.int .u32 2361852424)), (60, .const (.int .u32 2428436474)), (61, .const (.int .u32 2756734187)), (62, .const (.int .u32 3204031479)), (63, .const (.int .u32 3329325298))]
theorem buildK (w : World) : (Instr.build 91 kVals).run Tryd.prog w = .ok (.agg (u32s kWords).toArray) w := by kernel_rfl
set_option maxRecDepth 20000 in
theorem kOps_eval (a : Act) : (kOps.map fun (i, x) => (i, a.eval x)) = kVals := by simp only [kOps, List.map_toArray, List.map_cons, List.map_nil]; rfl
theorem kLen : (u32s kWords).length = 64 := by rw [u32s_length]; rfl
set_option maxRecDepth 20000 in
set_option maxHeartbeats 1000000 in
theorem keys_any (w : World) : Calls Tryd.prog 53 #[] w fun e w' => e = .returned (.agg (u32s kWords).toArray) ∧ Below w.heap.size w w' := by
  go_enter Tryd.func53, Tryd.ntmps53
  go_wp2_with (first | (refine wpList_build rfl 91 kOps rfl kVals (kOps_eval _) _ (buildK _) ?_) | (refine wpList_alloc_new rfl 91 rfl 64 _ zero64w ?_; intro w1 b1 s1 l1) | (refine wpList_store_blk rfl 91 91 _ _ rfl _ rfl _ (u32s kWords) rfl b1 (by rw [kLen, u32s_length, List.length_replicate]) (by rw [kLen]; exact size64w) (u32s_one _) ?_; intro w2 b2 s2 k2))
  exact ret_blk rfl w.heap.size (u32s kWords) _ rfl b2 Tryd.underlying91 rfl (by rw [kLen]; exact size64w) rfl ⟨rfl, below_kept l1 k2 (by omega) (fun j hj => by omega)⟩
end Go.Proofs.YtiimjhahblmggaaDoor
