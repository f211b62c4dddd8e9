/- Joined texts: RSXor RLBox LPeek LWorks LNonce RTAdd RTMul RTPart RTPart2. -/
import Derived.Test.YtcimiajkbgabiaaGreatZG
import Derived.Test.YtcimiajkbgabiaaGreatZC
import Derived.Test.YtcimiajkbgabiaaGreatZE
namespace Go.Proofs.YtcimiajkbgabiaaGreat
open Go.RowKit
set_option linter.unusedVariables false
set_option linter.unusedSimpArgs false

/-- A stream in block g: its key, its nonce, its place. -/
structure RtAt (w : World) (g : Nat) (key nonce : List Int) (P : Nat) : Prop where
  blk : Blk w g 131 (sCells key nonce P)
  k32 : key.length = 32
  n12 : nonce.length = 12
  kb : Bytes key
  nb : Bytes nonce
  top : P ≤ 274877906944
theorem rbuild_s0 (f g : Nat → Int) (P : Int) (w : World) : (Instr.build 131 #[(0, .agg (u8s ((List.range 32).map f)).toArray), (1, .agg (u8s ((List.range 12).map g)).toArray), (2, .int .u64 P)]).run Tryz.prog w = .ok (.agg (sCells ((List.range 32).map f) ((List.range 12).map g) P).toArray) w := by kernel_rfl
theorem rbuild_s (key nonce : List Int) (hk : key.length = 32) (hn : nonce.length = 12) (P : Int) (w : World) : (Instr.build 131 #[(0, .agg (u8s key).toArray), (1, .agg (u8s nonce).toArray), (2, .int .u64 P)]).run Tryz.prog w = .ok (.agg (sCells key nonce P).toArray) w := by
  rw [list_range key 32 hk, list_range nonce 12 hn]
  exact rbuild_s0 _ _ P w
set_option maxRecDepth 20000 in
set_option maxHeartbeats 1000000 in
theorem rsnew_any (key : List Int) (ctr : Nat) (nonce : List Int) (hk : key.length = 32) (hn : nonce.length = 12) (hkb : Bytes key) (hnb : Bytes nonce) (hc : ctr < 4294967296) (w : World) :
    Calls Tryz.prog 68 #[.agg (u8s key).toArray, .agg (u8s nonce).toArray, .int .u32 ctr] w fun e w' => ∃ g, e = .returned (.pointer (some ⟨g, 0, none⟩)) ∧ w.heap.size ≤ g ∧ RtAt w' g key nonce (64 * ctr) ∧ Below w.heap.size w w' := by
  have HS : Hid (key.length = 32 ∧ nonce.length = 12 ∧ Bytes key ∧ Bytes nonce) := ⟨hk, hn, hkb, hnb⟩
  clear hk hn hkb hnb
  have v1 : IntKind.u64.wrap (ctr : Int) = (ctr : Int) := by simp only [IntKind.wrap, IntKind.bits, IntKind.signed]; simp; omega
  have v2 : IntKind.u64.wrap (64 * (ctr : Int)) = 64 * (ctr : Int) := by simp only [IntKind.wrap, IntKind.bits, IntKind.signed]; simp; omega
  go_enter Tryz.func68, Tryz.ntmps68
  go_wp2_with (first | ((with_reducible show wpList _ _ _ ({ dst := some 12, op := _, type := _, pos := _, after := _, guard := _ } :: _) _ _); refine Hid.out ?_) | (refine wpList_box_new rfl 23 _ rfl (u8s key) rfl ?_; intro w1 b1 s1 l1) | (refine wpList_box_new rfl 45 _ rfl (u8s nonce) rfl ?_; intro w2 b2 s2 l2) | (refine wpList_load_blk rfl 23 _ rfl _ rfl (u8s key) _ (by first | exact b1.later l2 (by omega)) Tryz.underlying23 rfl (by rw [u8s_length, HS.out.1]; exact sizeKey) ?_) | (refine wpList_load_blk rfl 45 _ rfl _ rfl (u8s nonce) _ (by first | exact b2 | (rw [← s1]; exact b2)) Tryz.underlying45 rfl (by rw [u8s_length, HS.out.2.1]; exact sizeNonce) ?_) | ((with_reducible show wpList _ _ _ ({ dst := some 9, op := _, type := _, pos := _, after := _, guard := _ } :: _) _ _); refine wpList_yield rfl (.int .u32 (ctr : Int)) rfl ?_) | ((with_reducible show wpList _ _ _ ({ dst := some 10, op := _, type := _, pos := _, after := _, guard := _ } :: _) _ _); refine wpList_yield rfl (.int .u64 (ctr : Int)) (by go_simp) ?_) | ((with_reducible show wpList _ _ _ ({ dst := some 11, op := _, type := _, pos := _, after := _, guard := _ } :: _) _ _); refine wpList_yield rfl (.int .u64 (64 * (ctr : Int))) (by go_simp) ?_) | (refine wpList_build rfl 131 _ rfl #[(0, .agg (u8s key).toArray), (1, .agg (u8s nonce).toArray), (2, .int .u64 (64 * (ctr : Int)))] rfl _ (rbuild_s key nonce HS.out.1 HS.out.2.1 _ _) ?_) | (refine wpList_box_new rfl 131 _ rfl (sCells key nonce (64 * (ctr : Int))) rfl ?_; intro w3 b3 s3 l3) | (refine wpList_alloc_new rfl 131 rfl 45 _ zeroStrm ?_; intro w4 b4 s4 l4) | (refine wpList_store_blk rfl 131 131 _ _ rfl _ rfl _ (sCells key nonce (64 * (ctr : Int))) rfl b4 (by rw [sCells_length _ _ _ HS.out.1 HS.out.2.1]; rfl) (by rw [sCells_length _ _ _ HS.out.1 HS.out.2.1]; exact sizeStrm) (sCells_one _ _ _) ?_; intro w5 b5 s5 k5))
  change wpList _ _ _ _ _ _
  refine wpList_build rfl 131 _ rfl #[(0, .agg (u8s key).toArray), (1, .agg (u8s nonce).toArray), (2, .int .u64 (64 * (ctr : Int)))] (by simp [Act.eval]) _ (rbuild_s key nonce HS.out.1 HS.out.2.1 _ _) ?_
  go_wp2_with (first | (refine wpList_box_new rfl 131 _ rfl (sCells key nonce (64 * (ctr : Int))) rfl ?_; intro w3 b3 s3 l3))
  go_ret
  refine ⟨w2.heap.size, by simp [s1, s2], by omega, ⟨by simpa using b3, HS.out.1, HS.out.2.1, HS.out.2.2.1, HS.out.2.2.2, by omega⟩, below_chain (below_chain l1 l2 (by omega)) l3 (by omega)⟩
theorem RtAt.place {w : World} {g : Nat} {key nonce : List Int} {P : Nat} (h : RtAt w g key nonce P) : w.cell? ⟨g, 44, none⟩ = some (.int .u64 P) := by
  rw [h.blk.cell, sCells, List.getElem?_append_right (by rw [u8s_length, h.k32]; decide), u8s_length, h.k32, List.getElem?_append_right (by rw [u8s_length, h.n12]; decide), u8s_length, h.n12]; rfl
theorem RtAt.frozen {w : World} {g : Nat} {key nonce : List Int} {P : Nat} (h : RtAt w g key nonce P) (j : Nat) : w.frozen? ⟨g, j, none⟩ = false := h.blk.frozen j
theorem RtAt.lt {w : World} {g : Nat} {key nonce : List Int} {P : Nat} (h : RtAt w g key nonce P) : g < w.heap.size := h.blk.lt
theorem RtAt.later {w w' : World} {g : Nat} {key nonce : List Int} {P : Nat} (h : RtAt w g key nonce P) {B : Nat} (hb : Below B w w') (hB : g < B) : RtAt w' g key nonce P := ⟨h.blk.later hb hB, h.k32, h.n12, h.kb, h.nb, h.top⟩
theorem RtAt.kept {S : Nat → Prop} {w w' : World} {g : Nat} {key nonce : List Int} {P : Nat} (h : RtAt w g key nonce P) (hk : Kept S w w') (hS : ¬ S g) : RtAt w' g key nonce P := ⟨h.blk.kept hk hS, h.k32, h.n12, h.kb, h.nb, h.top⟩
theorem RtAt.drew {w : World} {g : Nat} {key nonce : List Int} {P : Nat} (h : RtAt w g key nonce P) : RtAt w.drew g key nonce P := ⟨h.blk.drew, h.k32, h.n12, h.kb, h.nb, h.top⟩
theorem RtAt.drewN {w : World} {g : Nat} {key nonce : List Int} {P : Nat} (h : RtAt w g key nonce P) (n : Nat) : RtAt (w.drewN n) g key nonce P := ⟨h.blk.drewN n, h.k32, h.n12, h.kb, h.nb, h.top⟩
theorem RtAt.move {w : World} {g : Nat} {key nonce : List Int} {P : Nat} (h : RtAt w g key nonce P) (P' : Nat) (ht : P' ≤ 274877906944) : RtAt (w.setCell ⟨g, 44, none⟩ (.int .u64 P')) g key nonce P' := by
  refine ⟨?_, h.k32, h.n12, h.kb, h.nb, ht⟩
  have h1 := h.blk.set 44 (.int .u64 P')
  have e : (sCells key nonce P).set 44 (.int .u64 P') = sCells key nonce P' := by
    rw [sCells, List.set_append_right _ _ (by rw [u8s_length, h.k32]; decide), u8s_length, h.k32, List.set_append_right _ _ (by rw [u8s_length, h.n12]; decide), u8s_length, h.n12]; rfl
  rwa [e] at h1
theorem RtAt.key {w : World} {g : Nat} {key nonce : List Int} {P : Nat} (h : RtAt w g key nonce P) : w.rangeAt g 0 (u8s key) := by
  have := Blk.range (xs := []) (ys := u8s key) (zs := u8s nonce ++ [Value.int .u64 P]) h.blk
  simpa using this
theorem RtAt.nonce {w : World} {g : Nat} {key nonce : List Int} {P : Nat} (h : RtAt w g key nonce P) : w.rangeAt g 32 (u8s nonce) := by
  have := Blk.range (xs := u8s key) (ys := u8s nonce) (zs := [Value.int .u64 P]) h.blk
  rwa [u8s_length, h.k32] at this
theorem rstep_append {ops : Array Oper} {o : Oper} {a : Act} {K : Act → World → Prop} {Q : Exit → Act → World → Prop} {E : Prop} {w : World} (hgd : o.guard = none) (s x : Operand)
    (ho : o.op = .call { callee := .builtin .append, args := #[s, x], argTypes := #[28, 28] }) (base : Nat) (v : Value) (n : Nat) (xs : List Value) (hs : a.eval s = v) (hown : w.ownsRow base 5 1 v n xs)
    (ao : Option Addr) (m c : Nat) (zs : List Int) (hx : a.eval x = .slice ao m c) (hsn : Seen w ao m zs) (hc : ao = none → c = 0) (hb : n + m ≤ 140737488355328) (hbase : base ≤ w.heap.size)
    (h : ∀ v' w', w'.ownsRow base 5 1 v' (n + m) (xs ++ zs.map (Value.int .u8)) → w.grownBy w' v.ownBlock → K (a.put o.dst v') w') :
    if Region.wanted o (yielded ops a.tmps) = true then Oper.wp Tryz.prog o a w K Q else E := by
  have hw : Region.wanted o (yielded ops a.tmps) = true := by simp [Region.wanted, hgd]
  rw [if_pos hw]
  obtain ⟨i0, hi, hz0, hz1, hz2⟩ := info_parts info_byte
  cases ao with
  | none =>
    obtain ⟨rfl, rfl⟩ := seen_nil hsn
    obtain rfl := hc rfl
    have hrun := run_append_owned_none (P := Tryz.prog) (w := w) base 28 o.type 5 i0 1 Tryz.underlying28 hi v n xs hown
    have h' := h v w (by simpa using hown) ⟨rfl, rfl, rfl, Nat.le_refl _, fun _ _ _ => rfl⟩
    unfold Oper.wp
    simp [execOp, ho, resolve, invoke, builtin, hs, hx, hrun, Result.andThen]
    exact h'
  | some ad =>
    refine wp_append_own w s x 28 ho base 5 i0 (.int .u8 0) 1 1 Tryz.underlying28 hi hz0 hz1 hz2 rfl (by decide) v n xs hs hown ad m c (zs.map (Value.int .u8)) hx ?_ (seen_news hsn rfl) (one_bytes zs) ?_ ?_ hbase (fun v' w' h1 h2 _ => h v' w' h1 h2)
    · rw [List.length_map, hsn.len, Nat.mul_one]
    · unfold maxLen; omega
    · omega
/-- The document's bytes laid over. -/
theorem kept_below {S : Nat → Prop} {a b c : World} {B : Nat} (hk : Kept S a b) (hb : Below B b c) (hB : a.heap.size ≤ B) : Kept S a c :=
  ⟨hb.os.trans hk.os, hb.tape.trans hk.tape, hb.output.trans hk.output, Nat.le_trans hk.size hb.size, fun j hj hs => (hb.block j (Nat.lt_of_lt_of_le hj hB)).trans (hk.block j hj hs)⟩
theorem getD_get {xs : List Int} {k : Nat} {d : Int} (h : xs.getD k 0 = d) (hk : k < xs.length) : xs[k] = d := by
  rw [← h, List.getD, List.getElem?_eq_getElem hk]; rfl
theorem xor32_8 (a b : Int) (ha : 0 ≤ a ∧ a < 256) (hb : 0 ≤ b ∧ b < 256) : bits .xor .u32 a b = bits .xor .u8 a b ∧ (0 ≤ bits .xor .u8 a b ∧ bits .xor .u8 a b < 256) := by
  have h1 : a.toNat ^^^ b.toNat < 2 ^ 8 := Nat.xor_lt_two_pow (by omega) (by omega)
  rw [u8_xor a b ha.1 ha.2 hb.1 hb.2, u32_xor a b ha.1 (by omega) hb.1 (by omega)]
  exact ⟨rfl, by omega, by omega⟩
set_option maxRecDepth 20000 in
set_option maxHeartbeats 1000000 in
theorem rsxor_bad (g : Nat) (key nonce : List Int) (P n c : Nat) (ao : Option Addr) (hn : n ≤ 140737488355328) (hc : 274877906944 < n + P) (w : World) (h : RtAt w g key nonce P) :
    Calls Tryz.prog 69 #[.pointer (some ⟨g, 0, none⟩), .slice ao n c] w fun e w' => e = .returned (.tuple #[.slice none 0 0, .int .i64 50]) ∧ w = w' := by
  have c1 := h.place
  have ht := h.top
  have v1 : IntKind.u64.wrap (n : Int) = (n : Int) := by simp only [IntKind.wrap, IntKind.bits, IntKind.signed]; simp; omega
  have v2 : IntKind.u64.wrap (274877906944 - (P : Int)) = 274877906944 - (P : Int) := by simp only [IntKind.wrap, IntKind.bits, IntKind.signed]; simp; omega
  have i1 : 274877906944 - (P : Int) < (n : Int) := by omega
  clear h
  go_enter Tryz.func69, Tryz.ntmps69
  go_wp2_with fail
  go_ret2
  exact ⟨rfl, rfl⟩
theorem own_keptG {w w' : World} {base n G : Nat} {v : Value} {xs : List Value} (h : w.ownsRow base 5 1 v n xs) (hk : Kept (fun x => x = G) w w') (hp : ∀ j, v.ownBlock = some j → j ≠ G) : w'.ownsRow base 5 1 v n xs := by
  refine ⟨h.1, ?_⟩
  rcases h.2 with h2 | ⟨g, cap, cur, rfl, hg, hh, r⟩
  · exact .inl h2
  · exact .inr ⟨g, cap, cur, rfl, hg, by rw [hk.block g (lt_of_block hh) (hp g rfl)]; exact hh, r⟩
theorem own_other {w : World} {base n : Nat} {v : Value} {xs : List Value} (h : w.ownsRow base 5 1 v n xs) {p : Addr} (hp : ∀ j, v.ownBlock = some j → p.block ≠ j) (u : Value) : (w.setCell p u).ownsRow base 5 1 v n xs := by
  refine ⟨h.1, ?_⟩
  rcases h.2 with h2 | ⟨g, cap, cur, rfl, hg, hh, r⟩
  · exact .inl h2
  · exact .inr ⟨g, cap, cur, rfl, hg, by rw [Below.heap_setCell _ _ _ _ (fun e => hp g rfl e.symm)]; exact hh, r⟩
set_option maxRecDepth 20000 in
set_option maxHeartbeats 4000000 in
theorem rsxor_any (g : Nat) (key nonce : List Int) (P n c : Nat) (ao : Option Addr) (zs : List Int) (hc : n + P ≤ 274877906944) (w : World) (h : RtAt w g key nonce P) (hx : Seen w ao n zs) :
    Calls Tryz.prog 69 #[.pointer (some ⟨g, 0, none⟩), .slice ao n c] w fun e w' => ∃ v, e = .returned (.tuple #[v, .int .i64 0]) ∧ w'.ownsRow w.heap.size 5 1 v n ((over key nonce P zs).map (Value.int .u8)) ∧ RtAt w' g key nonce (P + n) ∧ Kept (fun b => b = g) w w' := by
  have ht := h.top
  have hgl := h.lt
  have v1 : IntKind.u64.wrap (n : Int) = (n : Int) := by simp only [IntKind.wrap, IntKind.bits, IntKind.signed]; simp; omega
  have v2 : IntKind.u64.wrap (274877906944 - (P : Int)) = 274877906944 - (P : Int) := by simp only [IntKind.wrap, IntKind.bits, IntKind.signed]; simp; omega
  have i0 : ¬ 274877906944 - (P : Int) < (n : Int) := by omega
  have c0 := h.place
  have HX : Hid (RtAt w g key nonce P ∧ Seen w ao n zs ∧ zs.length = n ∧ Bytes zs) := ⟨h, hx, hx.len, hx.bytes⟩
  obtain ⟨V, hV⟩ : ∃ V, over key nonce P zs = V := ⟨_, rfl⟩
  have HV : Hid (V.length = n ∧ ∀ k, k < n → V.getD k 0 = bits .xor .u8 (zs.getD k 0) (ks key nonce (P + k))) := ⟨by rw [← hV, over_length, hx.len], fun k hk => by rw [← hV]; exact over_at _ _ _ _ _ (by rw [hx.len]; exact hk)⟩
  rw [hV]
  clear h hx hV
  have uK : (Tryz.prog.info? 23).map (·.size) = some (u8s key).length := by rw [u8s_length, HX.out.1.k32]; exact sizeKey
  have uN : (Tryz.prog.info? 45).map (·.size) = some (u8s nonce).length := by rw [u8s_length, HX.out.1.n12]; exact sizeNonce
  have uB : (Tryz.prog.info? 87).map (·.size) = some 64 := by kernel_rfl
  go_enter Tryz.func69, Tryz.ntmps69
  go_wp2_with (first | (refine wpList_alloc_new rfl 87 rfl 64 _ zero64b ?_; intro w1 b1 s1 l1))
  obtain ⟨G, hG⟩ : ∃ G, w.heap.size = G := ⟨_, rfl⟩
  have H1 : Hid (RtAt w1 g key nonce P ∧ Seen w1 ao n zs ∧ Blk w1 G 87 (u8s (zs0 64)) ∧ Below w.heap.size w w1 ∧ w1.heap.size = G + 1 ∧ g < G ∧ w.heap.size = G) := by
    rw [← hG]
    exact ⟨HX.out.1.later l1 hgl, HX.out.2.1.later l1 (Nat.le_refl _), b1, l1, s1, hgl, rfl⟩
  rw [hG]
  clear b1 s1 l1 hG c0 hgl
  go_loopw [6, 8] (fun v i wr => ∃ k : Nat, k ≤ n ∧ i = .int .i64 k ∧ wr.ownsRow (G + 1) 5 1 v k ((V.map (Value.int .u8)).take k) ∧ (∃ X, X.length = 64 ∧ Bytes X ∧ Blk wr G 87 (u8s X) ∧ (0 < k → X = blkB key (((P + k - 1) / 64 : Nat) : Int) nonce)) ∧ Kept (fun x => x = G) w1 wr) (fun _ i _ => n - (intOf i).toNat)
  case atStart => exact ⟨0, Nat.zero_le _, rfl, World.ownsRow_nil _ _ _ _, ⟨zs0 64, by rw [zs0_length], zs0_bytes _, H1.out.2.2.1, fun h => by omega⟩, Kept.refl _ _⟩
  case round =>
    obtain ⟨k, hk, rfl, hown, ⟨X, hXl, hXb, hXB, hXk⟩, hkp⟩ := hrel
    have hlo := H1.out.2.2.2.2.2.1
    have hs1 := H1.out.2.2.2.2.1
    have hR := H1.out.1.kept hkp (by omega)
    have hsz := hkp.size
    by_cases hlt : k < n
    · obtain ⟨b, o, rfl, hb, hcl⟩ := HX.out.2.1.cells (by omega)
      have c1 : wr.cell? ⟨b, o + k, none⟩ = some (.int .u8 (zs.getD k 0)) := (hkp.cell (p := ⟨b, o + k, none⟩) (by show b < _; have := H1.out.2.2.2.2.2.2; omega) (by show ¬ b = G; have := H1.out.2.2.2.2.2.2; omega)).trans ((H1.out.2.2.2.1.cell (p := ⟨b, o + k, none⟩) hb).trans (hcl k hlt))
      have cP := hR.place
      have bZ := HX.out.2.2.2.at k (by rw [HX.out.2.2.1]; exact hlt)
      have hVk := HV.out.2 k hlt
      obtain ⟨Z, hZ⟩ : ∃ Z, zs.getD k 0 = Z := ⟨_, rfl⟩
      rw [hZ] at c1 bZ hVk
      obtain ⟨A, hA⟩ : ∃ A, P + k = A := ⟨_, rfl⟩
      have hA2 : (P : Int) + (k : Int) = (A : Int) := by omega
      have u1 : IntKind.u64.wrap (k : Int) = (k : Int) := by simp only [IntKind.wrap, IntKind.bits, IntKind.signed]; simp; omega
      have u2 : IntKind.u64.wrap ((P : Int) + (k : Int)) = (A : Int) := by simp only [IntKind.wrap, IntKind.bits, IntKind.signed]; simp; omega
      have u3 : ((P : Int) + (k : Int)) % 18446744073709551616 = (A : Int) := by omega
      obtain ⟨q, hq⟩ : ∃ q, A / 64 = q := ⟨_, rfl⟩
      obtain ⟨r, hr⟩ : ∃ r, A % 64 = r := ⟨_, rfl⟩
      have hr64 : r < 64 := by omega
      have t1 : (A : Int).tdiv 64 = (q : Int) := by rw [Int.tdiv_eq_ediv_of_nonneg (by omega)]; omega
      have t2 : (A : Int).tmod 64 = (r : Int) := by rw [Int.tmod_eq_emod_of_nonneg (by omega)]; omega
      have t3 : (A : Int) / 64 = (q : Int) := by omega
      have t4 : (A : Int) % 64 = (r : Int) := by omega
      have hq32 : (q : Int) < 4294967296 := by omega
      have u4 : IntKind.u32.wrap (q : Int) = (q : Int) := by simp only [IntKind.wrap, IntKind.bits, IntKind.signed]; simp; omega
      have u5 : IntKind.u64.wrap (q : Int) = (q : Int) := by simp only [IntKind.wrap, IntKind.bits, IntKind.signed]; simp; omega
      have hks : ks key nonce A = (blkB key (q : Int) nonce).getD r 0 := by rw [ks, hq, hr]
      rw [hA, hks] at hVk
      have i1 : (k : Int) < (n : Int) := by omega
      have i2 : (0 : Int) ≤ (k : Int) := by omega
      have i3 : (0 : Int) ≤ (r : Int) := by omega
      have i4 : (r : Int) < 64 := by omega
      have HN : Hid (V.getD k 0 = bits .xor .u8 Z ((blkB key (q : Int) nonce).getD r 0) ∧ k < V.length) := ⟨hVk, by rw [HV.out.1]; exact hlt⟩
      have HO : Hid (wr.ownsRow (G + 1) 5 1 u6 k ((V.map (Value.int .u8)).take k) ∧ Kept (fun x => x = G) w1 wr ∧ RtAt wr g key nonce P) := ⟨hown, hkp, hR⟩
      obtain ⟨Y, HYY⟩ : ∃ Y, Hid (blkB key (q : Int) nonce = Y ∧ Y.length = 64 ∧ Bytes Y) := ⟨_, ⟨rfl, blkB_length _ _ _, blkB_bytes _ _ _⟩⟩
      have HAA : Hid (P + k = A ∧ A / 64 = q ∧ A % 64 = r) := ⟨hA, hq, hr⟩
      clear hA hq hr hZ hks hVk hcl
      by_cases hk0 : k = 0
      · have f0 : ((k : Int) == 0) = true := by rw [hk0]; rfl
        have HK0 : Hid (k = 0) := hk0
        clear hk0
        have HRr : Hid (RtAt wr g key nonce P) := hR
        have HXB : Hid (Blk wr G 87 (u8s X) ∧ X.length = 64) := ⟨hXB, hXl⟩
        clear hXB hXl hXb hXk hR hown hkp
        go_wp2_with fail
        try simp only [Act.put, List.setIfInBounds_toArray, List.set_cons_zero, List.set_cons_succ]
        refine region_inv [.val (.pointer (some ⟨g, 0, none⟩)), .val (.pointer (some ⟨g, 0, none⟩)), .val (.pointer (some ⟨g, 0, none⟩)), .val (.agg (u8s key).toArray), .val (.int .u64 (A : Int)), .val (.int .u64 (q : Int)), .val (.int .u32 (q : Int)), .val (.pointer (some ⟨g, 0, none⟩)), .val (.pointer (some ⟨g, 0, none⟩)), .val (.pointer (some ⟨g, 32, none⟩)), .val (.agg (u8s nonce).toArray), .val (.agg (u8s Y).toArray)] (by kernel_rfl) (by kernel_rfl) (by kernel_rfl) ?_ ?_
        · refine Steps'.cons ?_ (Steps'.cons ?_ (Steps'.cons ?_ (Steps'.cons ?_ (Steps'.cons ?_ (Steps'.cons ?_ (Steps'.cons ?_ (Steps'.cons ?_ (Steps'.cons ?_ (Steps'.cons ?_ (Steps'.cons ?_ (Steps'.cons ?_ (Steps'.one _ _ _ _ _ _ _))))))))))))
          · intro ax wx hb hs hd
            have h0 : ax.tmps.getD 0 undef = (.pointer (some ⟨g, 0, none⟩)) := hs 0 (by kernel_rfl)
            refine Does.value (.pointer (some ⟨g, 0, none⟩)) ?_ rfl
            go_simp
          · intro ax wx hb hs hd
            have h39 : ax.tmps.getD 39 undef = (.pointer (some ⟨g, 0, none⟩)) := hd 0 39 rfl (by kernel_rfl) (by decide)
            refine Does.value (.pointer (some ⟨g, 0, none⟩)) ?_ rfl
            go_simp
          · intro ax wx hb hs hd
            have h40 : ax.tmps.getD 40 undef = (.pointer (some ⟨g, 0, none⟩)) := hd 1 40 rfl (by kernel_rfl) (by decide)
            refine Does.value (.pointer (some ⟨g, 0, none⟩)) ?_ rfl
            go_simp
          · intro ax wx hb hs hd
            have h41 : ax.tmps.getD 41 undef = (.pointer (some ⟨g, 0, none⟩)) := hd 2 41 rfl (by kernel_rfl) (by decide)
            exact Does.load 23 (.tmp 41) rfl g 0 h41 (u8s key) _ ((HRr.out.later hb HRr.out.lt).key) Tryz.underlying23 rfl uK
          · intro ax wx hb hs hd
            have h9 : ax.tmps.getD 9 undef = (.int .u64 (A : Int)) := hs 9 (by kernel_rfl)
            refine Does.value (.int .u64 (A : Int)) ?_ rfl
            go_simp
          · intro ax wx hb hs hd
            have h43 : ax.tmps.getD 43 undef = (.int .u64 (A : Int)) := hd 4 43 rfl (by kernel_rfl) (by decide)
            refine Does.value (.int .u64 (q : Int)) ?_ rfl
            go_simp
          · intro ax wx hb hs hd
            have h44 : ax.tmps.getD 44 undef = (.int .u64 (q : Int)) := hd 5 44 rfl (by kernel_rfl) (by decide)
            refine Does.value (.int .u32 (q : Int)) ?_ rfl
            go_simp
          · intro ax wx hb hs hd
            have h0 : ax.tmps.getD 0 undef = (.pointer (some ⟨g, 0, none⟩)) := hs 0 (by kernel_rfl)
            refine Does.value (.pointer (some ⟨g, 0, none⟩)) ?_ rfl
            go_simp
          · intro ax wx hb hs hd
            have h46 : ax.tmps.getD 46 undef = (.pointer (some ⟨g, 0, none⟩)) := hd 7 46 rfl (by kernel_rfl) (by decide)
            refine Does.value (.pointer (some ⟨g, 0, none⟩)) ?_ rfl
            go_simp
          · intro ax wx hb hs hd
            have h47 : ax.tmps.getD 47 undef = (.pointer (some ⟨g, 0, none⟩)) := hd 8 47 rfl (by kernel_rfl) (by decide)
            refine Does.value (.pointer (some ⟨g, 32, none⟩)) ?_ rfl
            go_simp
          · intro ax wx hb hs hd
            have h48 : ax.tmps.getD 48 undef = (.pointer (some ⟨g, 32, none⟩)) := hd 9 48 rfl (by kernel_rfl) (by decide)
            exact Does.load 45 (.tmp 48) rfl g 32 h48 (u8s nonce) _ ((HRr.out.later hb HRr.out.lt).nonce) Tryz.underlying45 rfl uN
          · intro ax wx hb hs hd
            have h42 : ax.tmps.getD 42 undef = (.agg (u8s key).toArray) := hd 3 42 rfl (by kernel_rfl) (by decide)
            have h45 : ax.tmps.getD 45 undef = (.int .u32 (q : Int)) := hd 6 45 rfl (by kernel_rfl) (by decide)
            have h49 : ax.tmps.getD 49 undef = (.agg (u8s nonce).toArray) := hd 10 49 rfl (by kernel_rfl) (by decide)
            refine Does.call 70 #[(.agg (u8s key).toArray), (.int .u32 (q : Int)), (.agg (u8s nonce).toArray)] (by go_simp) ?_
            have qq := rblock_any key (q : Int) nonce HX.out.1.k32 HX.out.1.n12 HX.out.1.kb HX.out.1.nb ⟨by omega, hq32⟩ wx
            rw [HYY.out.1] at qq
            refine qq.mono ?_
            rintro e w' ⟨rfl, l⟩
            exact ⟨_, rfl, rfl, l⟩
        · intro wx hb
          refine @Ends.val _ _ _ _ _ _ _ _ _ (.pointer (some ⟨g, 0, none⟩)) rfl ?_
          refine @Ends.val _ _ _ _ _ _ _ _ _ (.pointer (some ⟨g, 0, none⟩)) rfl ?_
          refine @Ends.val _ _ _ _ _ _ _ _ _ (.pointer (some ⟨g, 0, none⟩)) rfl ?_
          refine @Ends.val _ _ _ _ _ _ _ _ _ (.agg (u8s key).toArray) rfl ?_
          refine @Ends.val _ _ _ _ _ _ _ _ _ (.int .u64 (A : Int)) rfl ?_
          refine @Ends.val _ _ _ _ _ _ _ _ _ (.int .u64 (q : Int)) rfl ?_
          refine @Ends.val _ _ _ _ _ _ _ _ _ (.int .u32 (q : Int)) rfl ?_
          refine @Ends.val _ _ _ _ _ _ _ _ _ (.pointer (some ⟨g, 0, none⟩)) rfl ?_
          refine @Ends.val _ _ _ _ _ _ _ _ _ (.pointer (some ⟨g, 0, none⟩)) rfl ?_
          refine @Ends.val _ _ _ _ _ _ _ _ _ (.pointer (some ⟨g, 32, none⟩)) rfl ?_
          refine @Ends.val _ _ _ _ _ _ _ _ _ (.agg (u8s nonce).toArray) rfl ?_
          refine @Ends.val _ _ _ _ _ _ _ _ _ (.agg (u8s Y).toArray) rfl ?_
          refine @Ends.one _ _ _ _ _ _ _ ?_
          simp only [Act.put, List.setIfInBounds_toArray, List.set_cons_zero, List.set_cons_succ]
          refine last_store 87 (.tmp 7) (.tmp 50) rfl rfl G rfl 87 _ (u8s Y) rfl (HXB.out.1.later hb HXB.out.1.lt) (by rw [u8s_length, u8s_length, HXB.out.2, HYY.out.2.1]) (by rw [u8s_length, HYY.out.2.1]; exact uB) (u8s_one _) ?_
          intro w5 hBY s5 k5
          have L5 : Below wr.heap.size wr wx := hb
          have HO2 : Hid (w5.ownsRow (G + 1) 5 1 u6 k ((V.map (Value.int .u8)).take k) ∧ Kept (fun x => x = G) w1 w5) := by
            refine ⟨?_, ?_⟩
            · have o1 := ownsRow_below HO.out.1 L5
              exact own_keptG o1 k5 (fun j hj => by have := (o1.lt j hj).1; omega)
            · exact (kept_below HO.out.2.1 L5 hsz).trans k5
          replace c1 : w5.cell? ⟨b, o + k, none⟩ = some (.int .u8 Z) := (k5.cell (p := ⟨b, o + k, none⟩) (Nat.lt_of_lt_of_le (World.block_lt_of_cell? _ _ c1) L5.size) (by show ¬ b = G; have := H1.out.2.2.2.2.2.2; omega)).trans ((L5.cell (p := ⟨b, o + k, none⟩) (World.block_lt_of_cell? _ _ c1)).trans c1)
          have hGW : G + 1 ≤ w5.heap.size := by rw [← hs1]; exact Nat.le_trans hsz (Nat.le_trans L5.size k5.size)
          clear hb s5 k5 L5
          go_wp2_with fail
          have HB : Hid (Blk w5 G 87 (u8s Y)) := hBY
          have cB := u8s_cell hBY r (by rw [HYY.out.2.1]; exact hr64)
          obtain ⟨B, hB⟩ : ∃ B, Y.getD r 0 = B := ⟨_, rfl⟩
          have bB : 0 ≤ B ∧ B < 256 := by rw [← hB]; exact HYY.out.2.2.at r (by rw [HYY.out.2.1]; exact hr64)
          rw [hB] at cB
          have hx32 := xor32_8 Z B bZ bB
          obtain ⟨D, hD⟩ : ∃ D, bits .xor .u8 Z B = D := ⟨_, rfl⟩
          rw [hD] at hx32
          have HD : Hid (V.getD k 0 = D ∧ k < V.length) := ⟨by rw [HN.out.1, HYY.out.1, hB, hD], HN.out.2⟩
          have y1 : IntKind.u64.wrap Z = Z := by simp only [IntKind.wrap, IntKind.bits, IntKind.signed]; simp; omega
          have y2 : IntKind.u64.wrap B = B := by simp only [IntKind.wrap, IntKind.bits, IntKind.signed]; simp; omega
          have y3 : IntKind.u8.wrap D = D := by simp only [IntKind.wrap, IntKind.bits, IntKind.signed]; simp; omega
          have HX3 : Hid (bits .xor .u32 Z B = D) := hx32.1
          have hDb := hx32.2
          clear hB hD hx32 hBY
          refine wp_region_noPanic (wp_region_held_drew (S := fun W => W.cell? ⟨b, o + k, none⟩ = some (.int .u8 Z) ∧ W.cell? ⟨G, r, none⟩ = some (.int .u8 B)) (by kernel_rfl) ⟨c1, cB⟩ (fun hH => ?_))
          refine hTake 0 (some 51) u6 rfl rfl (by kernel_rfl) (by kernel_rfl) (by kernel_rfl) (fun _ _ _ h => h) (by rfl) (fun _ _ => by rfl) hH ?_
          simp only [Act.put, List.setIfInBounds_toArray, List.set_cons_zero, List.set_cons_succ]
          refine hTake 1 (some 52) (.slice (some ⟨b, o, none⟩) n c) rfl rfl (by kernel_rfl) (by kernel_rfl) (by kernel_rfl) (fun _ _ _ h => h) (by rfl) (fun _ _ => by rfl) hH ?_
          simp only [Act.put, List.setIfInBounds_toArray, List.set_cons_zero, List.set_cons_succ]
          refine hTake 2 (some 53) (.int .i64 (k : Int)) rfl rfl (by kernel_rfl) (by kernel_rfl) (by kernel_rfl) (fun _ _ _ h => h) (by rfl) (fun _ _ => by rfl) hH ?_
          simp only [Act.put, List.setIfInBounds_toArray, List.set_cons_zero, List.set_cons_succ]
          refine hTake 3 (some 54) (.pointer (some ⟨b, o + k, none⟩)) rfl rfl (by kernel_rfl) (by kernel_rfl) (by kernel_rfl) (fun _ _ _ h => h) (by rfl) (fun _ _ => by go_simp) hH ?_
          simp only [Act.put, List.setIfInBounds_toArray, List.set_cons_zero, List.set_cons_succ]
          refine hTake 4 (some 55) (.int .u8 Z) rfl rfl (by kernel_rfl) (by kernel_rfl) (by kernel_rfl) (fun _ _ _ h => h) (by rfl) (fun _ hs => by (obtain ⟨z1, z2⟩ := hs; go_simp)) hH ?_
          simp only [Act.put, List.setIfInBounds_toArray, List.set_cons_zero, List.set_cons_succ]
          refine hTake 5 (some 56) (.int .u64 Z) rfl rfl (by kernel_rfl) (by kernel_rfl) (by kernel_rfl) (fun _ _ _ h => h) (by rfl) (fun _ _ => by go_simp) hH ?_
          simp only [Act.put, List.setIfInBounds_toArray, List.set_cons_zero, List.set_cons_succ]
          refine hTake 6 (some 57) (.int .u64 (A : Int)) rfl rfl (by kernel_rfl) (by kernel_rfl) (by kernel_rfl) (fun _ _ _ h => h) (by rfl) (fun _ _ => by rfl) hH ?_
          simp only [Act.put, List.setIfInBounds_toArray, List.set_cons_zero, List.set_cons_succ]
          refine hTake 7 (some 58) (.int .u64 (r : Int)) rfl rfl (by kernel_rfl) (by kernel_rfl) (by kernel_rfl) (fun _ _ _ h => h) (by rfl) (fun _ _ => by go_simp) hH ?_
          simp only [Act.put, List.setIfInBounds_toArray, List.set_cons_zero, List.set_cons_succ]
          refine hTake 8 (some 59) (.pointer (some ⟨G, r, none⟩)) rfl rfl (by kernel_rfl) (by kernel_rfl) (by kernel_rfl) (fun _ _ _ h => h) (by rfl) (fun _ _ => by go_simp) hH ?_
          simp only [Act.put, List.setIfInBounds_toArray, List.set_cons_zero, List.set_cons_succ]
          refine hTake 9 (some 60) (.int .u8 B) rfl rfl (by kernel_rfl) (by kernel_rfl) (by kernel_rfl) (fun _ _ _ h => h) (by rfl) (fun _ hs => by (obtain ⟨z1, z2⟩ := hs; go_simp)) hH ?_
          simp only [Act.put, List.setIfInBounds_toArray, List.set_cons_zero, List.set_cons_succ]
          refine hTake 10 (some 61) (.int .u64 B) rfl rfl (by kernel_rfl) (by kernel_rfl) (by kernel_rfl) (fun _ _ _ h => h) (by rfl) (fun _ _ => by go_simp) hH ?_
          simp only [Act.put, List.setIfInBounds_toArray, List.set_cons_zero, List.set_cons_succ]
          refine wpAnyH_ready (rs := [11]) (by kernel_rfl) (by simp) (AllReadyH.cons rfl (fun K hK => ?_) AllReadyH.nil)
          rw [if_pos (by rfl)]
          go_simp
          go_wp2_with (go_at_call 86; refine (ragainst_any Z B ⟨by omega, by omega⟩ ⟨by omega, by omega⟩ _).mono ?_; rintro e wA ⟨rfl, rfl⟩; rw [HX3.out])
          refine hK.out _ _ ⟨c1, cB⟩ (fun hH => ?_)
          clear hK K
          refine hTake 12 (some 63) (.int .u8 D) rfl rfl (by kernel_rfl) (by kernel_rfl) (by kernel_rfl) (fun _ _ _ h => h) (by rfl) (fun _ _ => by go_simp) hH ?_
          simp only [Act.put, List.setIfInBounds_toArray, List.set_cons_zero, List.set_cons_succ]
          refine wpAnyH_ready (rs := [13]) (by kernel_rfl) (by simp) (AllReadyH.cons rfl (fun K hK => ?_) AllReadyH.nil)
          rw [if_pos (by rfl)]
          go_simp
          have LA : Below w5.heap.size w5 (w5.drew.alloc (.cells #[.int .u8 D] 5)) := (below_dn (Below.refl _ _) 1).alloc (Nat.le_refl _) _
          have cb2 : b < w5.heap.size := World.block_lt_of_cell? _ _ c1
          have cG2 : G < w5.heap.size := HB.out.lt
          refine hK.out _ _ ⟨(LA.cell (p := ⟨b, o + k, none⟩) cb2).trans c1, (LA.cell (p := ⟨G, r, none⟩) cG2).trans cB⟩ (fun hH => ?_)
          clear hK K
          have sD : Seen (w5.drew.alloc (.cells #[.int .u8 D] 5)) (some ⟨w5.heap.size, 0, none⟩) 1 [D] := by
            have hb0 : Blk (w5.drew.alloc (.cells #[.int .u8 D] 5)) w5.heap.size 5 (u8s [D]) := heap_alloc_new w5.drew _
            exact seen_blk hb0 (fun z hz => by simp at hz; subst hz; exact hDb) (by simp)
          have oA : (w5.drew.alloc (.cells #[.int .u8 D] 5)).ownsRow (G + 1) 5 1 u6 k ((V.map (Value.int .u8)).take k) := ownsRow_below HO2.out.1 LA
          refine wpAnyH_ready (rs := [14]) (by kernel_rfl) (by simp) (AllReadyH.cons rfl (fun K hK => ?_) AllReadyH.nil)
          refine rstep_append (by rfl) (.tmp 51) (.tmp 64) (by rfl) (G + 1) u6 k _ (by rfl) oA (some ⟨w5.heap.size, 0, none⟩) 1 1 [D] (by rfl) sD (fun h => by cases h) (by omega) (Nat.le_trans hGW LA.size) ?_
          intro v2 w2 o2 g2
          have BG : Below (G + 1) w5 w2 := ((below_dn (Below.refl (G + 1) w5) 1).alloc hGW _).grown g2 (Nat.le_trans hGW LA.size) (fun j hj => (oA.lt j hj).1)
          have hbG : b < G + 1 := by have := H1.out.2.2.2.2.2.2; omega
          refine hK.out _ _ ⟨(BG.cell (p := ⟨b, o + k, none⟩) hbG).trans c1, (BG.cell (p := ⟨G, r, none⟩) (Nat.lt_succ_self _)).trans cB⟩ (fun hH => ?_)
          clear hK K
          refine hTake 15 (some 6) v2 rfl rfl (by kernel_rfl) (by kernel_rfl) (by kernel_rfl) (fun _ _ _ h => h) (by rfl) (fun _ _ => by rfl) hH ?_
          simp only [Act.put, List.setIfInBounds_toArray, List.set_cons_zero, List.set_cons_succ]
          refine wpAnyH_done (by kernel_rfl) (NoPanic.normal ?_) _
          have HF : Hid (w2.ownsRow (G + 1) 5 1 v2 (k + 1) ((V.map (Value.int .u8)).take (k + 1)) ∧ Blk w2 G 87 (u8s Y) ∧ Kept (fun x => x = G) w1 w2) := by
            refine ⟨?_, HB.out.later BG (Nat.lt_succ_self _), kept_below HO2.out.2 BG (by omega)⟩
            rw [List.take_succ_eq_append_getElem (by simpa using HD.out.2), List.getElem_map, getD_get HD.out.1 HD.out.2]
            exact o2
          clear o2 g2 BG hH sD oA LA c1 cB
          go_wp2_with fail
          exact ⟨⟨k + 1, by omega, by go_num, HF.out.1, ⟨Y, HYY.out.2.1, HYY.out.2.2, HF.out.2.1, fun _ => by rw [← HYY.out.1]; congr 2; have := HAA.out; omega⟩, HF.out.2.2⟩, by simp [intOf]; omega⟩
      · have f0 : ((k : Int) == 0) = false := by rw [beq_eq_false_iff_ne]; omega
        by_cases hr0 : r = 0
        · have f1 : ((r : Int) == 0) = true := by rw [hr0]; rfl
          have HR0 : Hid (r = 0) := hr0
          clear hr0
          have HRr : Hid (RtAt wr g key nonce P) := hR
          have HXB : Hid (Blk wr G 87 (u8s X) ∧ X.length = 64) := ⟨hXB, hXl⟩
          clear hXB hXl hXb hXk hR hown hkp
          go_wp2_with fail
          try simp only [Act.put, List.setIfInBounds_toArray, List.set_cons_zero, List.set_cons_succ]
          refine region_inv [.val (.pointer (some ⟨g, 0, none⟩)), .val (.pointer (some ⟨g, 0, none⟩)), .val (.pointer (some ⟨g, 0, none⟩)), .val (.agg (u8s key).toArray), .val (.int .u64 (A : Int)), .val (.int .u64 (q : Int)), .val (.int .u32 (q : Int)), .val (.pointer (some ⟨g, 0, none⟩)), .val (.pointer (some ⟨g, 0, none⟩)), .val (.pointer (some ⟨g, 32, none⟩)), .val (.agg (u8s nonce).toArray), .val (.agg (u8s Y).toArray)] (by kernel_rfl) (by kernel_rfl) (by kernel_rfl) ?_ ?_
          · refine Steps'.cons ?_ (Steps'.cons ?_ (Steps'.cons ?_ (Steps'.cons ?_ (Steps'.cons ?_ (Steps'.cons ?_ (Steps'.cons ?_ (Steps'.cons ?_ (Steps'.cons ?_ (Steps'.cons ?_ (Steps'.cons ?_ (Steps'.cons ?_ (Steps'.one _ _ _ _ _ _ _))))))))))))
            · intro ax wx hb hs hd
              have h0 : ax.tmps.getD 0 undef = (.pointer (some ⟨g, 0, none⟩)) := hs 0 (by kernel_rfl)
              refine Does.value (.pointer (some ⟨g, 0, none⟩)) ?_ rfl
              go_simp
            · intro ax wx hb hs hd
              have h39 : ax.tmps.getD 39 undef = (.pointer (some ⟨g, 0, none⟩)) := hd 0 39 rfl (by kernel_rfl) (by decide)
              refine Does.value (.pointer (some ⟨g, 0, none⟩)) ?_ rfl
              go_simp
            · intro ax wx hb hs hd
              have h40 : ax.tmps.getD 40 undef = (.pointer (some ⟨g, 0, none⟩)) := hd 1 40 rfl (by kernel_rfl) (by decide)
              refine Does.value (.pointer (some ⟨g, 0, none⟩)) ?_ rfl
              go_simp
            · intro ax wx hb hs hd
              have h41 : ax.tmps.getD 41 undef = (.pointer (some ⟨g, 0, none⟩)) := hd 2 41 rfl (by kernel_rfl) (by decide)
              exact Does.load 23 (.tmp 41) rfl g 0 h41 (u8s key) _ ((HRr.out.later hb HRr.out.lt).key) Tryz.underlying23 rfl uK
            · intro ax wx hb hs hd
              have h9 : ax.tmps.getD 9 undef = (.int .u64 (A : Int)) := hs 9 (by kernel_rfl)
              refine Does.value (.int .u64 (A : Int)) ?_ rfl
              go_simp
            · intro ax wx hb hs hd
              have h43 : ax.tmps.getD 43 undef = (.int .u64 (A : Int)) := hd 4 43 rfl (by kernel_rfl) (by decide)
              refine Does.value (.int .u64 (q : Int)) ?_ rfl
              go_simp
            · intro ax wx hb hs hd
              have h44 : ax.tmps.getD 44 undef = (.int .u64 (q : Int)) := hd 5 44 rfl (by kernel_rfl) (by decide)
              refine Does.value (.int .u32 (q : Int)) ?_ rfl
              go_simp
            · intro ax wx hb hs hd
              have h0 : ax.tmps.getD 0 undef = (.pointer (some ⟨g, 0, none⟩)) := hs 0 (by kernel_rfl)
              refine Does.value (.pointer (some ⟨g, 0, none⟩)) ?_ rfl
              go_simp
            · intro ax wx hb hs hd
              have h46 : ax.tmps.getD 46 undef = (.pointer (some ⟨g, 0, none⟩)) := hd 7 46 rfl (by kernel_rfl) (by decide)
              refine Does.value (.pointer (some ⟨g, 0, none⟩)) ?_ rfl
              go_simp
            · intro ax wx hb hs hd
              have h47 : ax.tmps.getD 47 undef = (.pointer (some ⟨g, 0, none⟩)) := hd 8 47 rfl (by kernel_rfl) (by decide)
              refine Does.value (.pointer (some ⟨g, 32, none⟩)) ?_ rfl
              go_simp
            · intro ax wx hb hs hd
              have h48 : ax.tmps.getD 48 undef = (.pointer (some ⟨g, 32, none⟩)) := hd 9 48 rfl (by kernel_rfl) (by decide)
              exact Does.load 45 (.tmp 48) rfl g 32 h48 (u8s nonce) _ ((HRr.out.later hb HRr.out.lt).nonce) Tryz.underlying45 rfl uN
            · intro ax wx hb hs hd
              have h42 : ax.tmps.getD 42 undef = (.agg (u8s key).toArray) := hd 3 42 rfl (by kernel_rfl) (by decide)
              have h45 : ax.tmps.getD 45 undef = (.int .u32 (q : Int)) := hd 6 45 rfl (by kernel_rfl) (by decide)
              have h49 : ax.tmps.getD 49 undef = (.agg (u8s nonce).toArray) := hd 10 49 rfl (by kernel_rfl) (by decide)
              refine Does.call 70 #[(.agg (u8s key).toArray), (.int .u32 (q : Int)), (.agg (u8s nonce).toArray)] (by go_simp) ?_
              have qq := rblock_any key (q : Int) nonce HX.out.1.k32 HX.out.1.n12 HX.out.1.kb HX.out.1.nb ⟨by omega, hq32⟩ wx
              rw [HYY.out.1] at qq
              refine qq.mono ?_
              rintro e w' ⟨rfl, l⟩
              exact ⟨_, rfl, rfl, l⟩
          · intro wx hb
            refine @Ends.val _ _ _ _ _ _ _ _ _ (.pointer (some ⟨g, 0, none⟩)) rfl ?_
            refine @Ends.val _ _ _ _ _ _ _ _ _ (.pointer (some ⟨g, 0, none⟩)) rfl ?_
            refine @Ends.val _ _ _ _ _ _ _ _ _ (.pointer (some ⟨g, 0, none⟩)) rfl ?_
            refine @Ends.val _ _ _ _ _ _ _ _ _ (.agg (u8s key).toArray) rfl ?_
            refine @Ends.val _ _ _ _ _ _ _ _ _ (.int .u64 (A : Int)) rfl ?_
            refine @Ends.val _ _ _ _ _ _ _ _ _ (.int .u64 (q : Int)) rfl ?_
            refine @Ends.val _ _ _ _ _ _ _ _ _ (.int .u32 (q : Int)) rfl ?_
            refine @Ends.val _ _ _ _ _ _ _ _ _ (.pointer (some ⟨g, 0, none⟩)) rfl ?_
            refine @Ends.val _ _ _ _ _ _ _ _ _ (.pointer (some ⟨g, 0, none⟩)) rfl ?_
            refine @Ends.val _ _ _ _ _ _ _ _ _ (.pointer (some ⟨g, 32, none⟩)) rfl ?_
            refine @Ends.val _ _ _ _ _ _ _ _ _ (.agg (u8s nonce).toArray) rfl ?_
            refine @Ends.val _ _ _ _ _ _ _ _ _ (.agg (u8s Y).toArray) rfl ?_
            refine @Ends.one _ _ _ _ _ _ _ ?_
            simp only [Act.put, List.setIfInBounds_toArray, List.set_cons_zero, List.set_cons_succ]
            refine last_store 87 (.tmp 7) (.tmp 50) rfl rfl G rfl 87 _ (u8s Y) rfl (HXB.out.1.later hb HXB.out.1.lt) (by rw [u8s_length, u8s_length, HXB.out.2, HYY.out.2.1]) (by rw [u8s_length, HYY.out.2.1]; exact uB) (u8s_one _) ?_
            intro w5 hBY s5 k5
            have L5 : Below wr.heap.size wr wx := hb
            have HO2 : Hid (w5.ownsRow (G + 1) 5 1 u6 k ((V.map (Value.int .u8)).take k) ∧ Kept (fun x => x = G) w1 w5) := by
              refine ⟨?_, ?_⟩
              · have o1 := ownsRow_below HO.out.1 L5
                exact own_keptG o1 k5 (fun j hj => by have := (o1.lt j hj).1; omega)
              · exact (kept_below HO.out.2.1 L5 hsz).trans k5
            replace c1 : w5.cell? ⟨b, o + k, none⟩ = some (.int .u8 Z) := (k5.cell (p := ⟨b, o + k, none⟩) (Nat.lt_of_lt_of_le (World.block_lt_of_cell? _ _ c1) L5.size) (by show ¬ b = G; have := H1.out.2.2.2.2.2.2; omega)).trans ((L5.cell (p := ⟨b, o + k, none⟩) (World.block_lt_of_cell? _ _ c1)).trans c1)
            have hGW : G + 1 ≤ w5.heap.size := by rw [← hs1]; exact Nat.le_trans hsz (Nat.le_trans L5.size k5.size)
            clear hb s5 k5 L5
            go_wp2_with fail
            have HB : Hid (Blk w5 G 87 (u8s Y)) := hBY
            have cB := u8s_cell hBY r (by rw [HYY.out.2.1]; exact hr64)
            obtain ⟨B, hB⟩ : ∃ B, Y.getD r 0 = B := ⟨_, rfl⟩
            have bB : 0 ≤ B ∧ B < 256 := by rw [← hB]; exact HYY.out.2.2.at r (by rw [HYY.out.2.1]; exact hr64)
            rw [hB] at cB
            have hx32 := xor32_8 Z B bZ bB
            obtain ⟨D, hD⟩ : ∃ D, bits .xor .u8 Z B = D := ⟨_, rfl⟩
            rw [hD] at hx32
            have HD : Hid (V.getD k 0 = D ∧ k < V.length) := ⟨by rw [HN.out.1, HYY.out.1, hB, hD], HN.out.2⟩
            have y1 : IntKind.u64.wrap Z = Z := by simp only [IntKind.wrap, IntKind.bits, IntKind.signed]; simp; omega
            have y2 : IntKind.u64.wrap B = B := by simp only [IntKind.wrap, IntKind.bits, IntKind.signed]; simp; omega
            have y3 : IntKind.u8.wrap D = D := by simp only [IntKind.wrap, IntKind.bits, IntKind.signed]; simp; omega
            have HX3 : Hid (bits .xor .u32 Z B = D) := hx32.1
            have hDb := hx32.2
            clear hB hD hx32 hBY
            refine wp_region_noPanic (wp_region_held_drew (S := fun W => W.cell? ⟨b, o + k, none⟩ = some (.int .u8 Z) ∧ W.cell? ⟨G, r, none⟩ = some (.int .u8 B)) (by kernel_rfl) ⟨c1, cB⟩ (fun hH => ?_))
            refine hTake 0 (some 51) u6 rfl rfl (by kernel_rfl) (by kernel_rfl) (by kernel_rfl) (fun _ _ _ h => h) (by rfl) (fun _ _ => by rfl) hH ?_
            simp only [Act.put, List.setIfInBounds_toArray, List.set_cons_zero, List.set_cons_succ]
            refine hTake 1 (some 52) (.slice (some ⟨b, o, none⟩) n c) rfl rfl (by kernel_rfl) (by kernel_rfl) (by kernel_rfl) (fun _ _ _ h => h) (by rfl) (fun _ _ => by rfl) hH ?_
            simp only [Act.put, List.setIfInBounds_toArray, List.set_cons_zero, List.set_cons_succ]
            refine hTake 2 (some 53) (.int .i64 (k : Int)) rfl rfl (by kernel_rfl) (by kernel_rfl) (by kernel_rfl) (fun _ _ _ h => h) (by rfl) (fun _ _ => by rfl) hH ?_
            simp only [Act.put, List.setIfInBounds_toArray, List.set_cons_zero, List.set_cons_succ]
            refine hTake 3 (some 54) (.pointer (some ⟨b, o + k, none⟩)) rfl rfl (by kernel_rfl) (by kernel_rfl) (by kernel_rfl) (fun _ _ _ h => h) (by rfl) (fun _ _ => by go_simp) hH ?_
            simp only [Act.put, List.setIfInBounds_toArray, List.set_cons_zero, List.set_cons_succ]
            refine hTake 4 (some 55) (.int .u8 Z) rfl rfl (by kernel_rfl) (by kernel_rfl) (by kernel_rfl) (fun _ _ _ h => h) (by rfl) (fun _ hs => by (obtain ⟨z1, z2⟩ := hs; go_simp)) hH ?_
            simp only [Act.put, List.setIfInBounds_toArray, List.set_cons_zero, List.set_cons_succ]
            refine hTake 5 (some 56) (.int .u64 Z) rfl rfl (by kernel_rfl) (by kernel_rfl) (by kernel_rfl) (fun _ _ _ h => h) (by rfl) (fun _ _ => by go_simp) hH ?_
            simp only [Act.put, List.setIfInBounds_toArray, List.set_cons_zero, List.set_cons_succ]
            refine hTake 6 (some 57) (.int .u64 (A : Int)) rfl rfl (by kernel_rfl) (by kernel_rfl) (by kernel_rfl) (fun _ _ _ h => h) (by rfl) (fun _ _ => by rfl) hH ?_
            simp only [Act.put, List.setIfInBounds_toArray, List.set_cons_zero, List.set_cons_succ]
            refine hTake 7 (some 58) (.int .u64 (r : Int)) rfl rfl (by kernel_rfl) (by kernel_rfl) (by kernel_rfl) (fun _ _ _ h => h) (by rfl) (fun _ _ => by go_simp) hH ?_
            simp only [Act.put, List.setIfInBounds_toArray, List.set_cons_zero, List.set_cons_succ]
            refine hTake 8 (some 59) (.pointer (some ⟨G, r, none⟩)) rfl rfl (by kernel_rfl) (by kernel_rfl) (by kernel_rfl) (fun _ _ _ h => h) (by rfl) (fun _ _ => by go_simp) hH ?_
            simp only [Act.put, List.setIfInBounds_toArray, List.set_cons_zero, List.set_cons_succ]
            refine hTake 9 (some 60) (.int .u8 B) rfl rfl (by kernel_rfl) (by kernel_rfl) (by kernel_rfl) (fun _ _ _ h => h) (by rfl) (fun _ hs => by (obtain ⟨z1, z2⟩ := hs; go_simp)) hH ?_
            simp only [Act.put, List.setIfInBounds_toArray, List.set_cons_zero, List.set_cons_succ]
            refine hTake 10 (some 61) (.int .u64 B) rfl rfl (by kernel_rfl) (by kernel_rfl) (by kernel_rfl) (fun _ _ _ h => h) (by rfl) (fun _ _ => by go_simp) hH ?_
            simp only [Act.put, List.setIfInBounds_toArray, List.set_cons_zero, List.set_cons_succ]
            refine wpAnyH_ready (rs := [11]) (by kernel_rfl) (by simp) (AllReadyH.cons rfl (fun K hK => ?_) AllReadyH.nil)
            rw [if_pos (by rfl)]
            go_simp
            go_wp2_with (go_at_call 86; refine (ragainst_any Z B ⟨by omega, by omega⟩ ⟨by omega, by omega⟩ _).mono ?_; rintro e wA ⟨rfl, rfl⟩; rw [HX3.out])
            refine hK.out _ _ ⟨c1, cB⟩ (fun hH => ?_)
            clear hK K
            refine hTake 12 (some 63) (.int .u8 D) rfl rfl (by kernel_rfl) (by kernel_rfl) (by kernel_rfl) (fun _ _ _ h => h) (by rfl) (fun _ _ => by go_simp) hH ?_
            simp only [Act.put, List.setIfInBounds_toArray, List.set_cons_zero, List.set_cons_succ]
            refine wpAnyH_ready (rs := [13]) (by kernel_rfl) (by simp) (AllReadyH.cons rfl (fun K hK => ?_) AllReadyH.nil)
            rw [if_pos (by rfl)]
            go_simp
            have LA : Below w5.heap.size w5 (w5.drew.alloc (.cells #[.int .u8 D] 5)) := (below_dn (Below.refl _ _) 1).alloc (Nat.le_refl _) _
            have cb2 : b < w5.heap.size := World.block_lt_of_cell? _ _ c1
            have cG2 : G < w5.heap.size := HB.out.lt
            refine hK.out _ _ ⟨(LA.cell (p := ⟨b, o + k, none⟩) cb2).trans c1, (LA.cell (p := ⟨G, r, none⟩) cG2).trans cB⟩ (fun hH => ?_)
            clear hK K
            have sD : Seen (w5.drew.alloc (.cells #[.int .u8 D] 5)) (some ⟨w5.heap.size, 0, none⟩) 1 [D] := by
              have hb0 : Blk (w5.drew.alloc (.cells #[.int .u8 D] 5)) w5.heap.size 5 (u8s [D]) := heap_alloc_new w5.drew _
              exact seen_blk hb0 (fun z hz => by simp at hz; subst hz; exact hDb) (by simp)
            have oA : (w5.drew.alloc (.cells #[.int .u8 D] 5)).ownsRow (G + 1) 5 1 u6 k ((V.map (Value.int .u8)).take k) := ownsRow_below HO2.out.1 LA
            refine wpAnyH_ready (rs := [14]) (by kernel_rfl) (by simp) (AllReadyH.cons rfl (fun K hK => ?_) AllReadyH.nil)
            refine rstep_append (by rfl) (.tmp 51) (.tmp 64) (by rfl) (G + 1) u6 k _ (by rfl) oA (some ⟨w5.heap.size, 0, none⟩) 1 1 [D] (by rfl) sD (fun h => by cases h) (by omega) (Nat.le_trans hGW LA.size) ?_
            intro v2 w2 o2 g2
            have BG : Below (G + 1) w5 w2 := ((below_dn (Below.refl (G + 1) w5) 1).alloc hGW _).grown g2 (Nat.le_trans hGW LA.size) (fun j hj => (oA.lt j hj).1)
            have hbG : b < G + 1 := by have := H1.out.2.2.2.2.2.2; omega
            refine hK.out _ _ ⟨(BG.cell (p := ⟨b, o + k, none⟩) hbG).trans c1, (BG.cell (p := ⟨G, r, none⟩) (Nat.lt_succ_self _)).trans cB⟩ (fun hH => ?_)
            clear hK K
            refine hTake 15 (some 6) v2 rfl rfl (by kernel_rfl) (by kernel_rfl) (by kernel_rfl) (fun _ _ _ h => h) (by rfl) (fun _ _ => by rfl) hH ?_
            simp only [Act.put, List.setIfInBounds_toArray, List.set_cons_zero, List.set_cons_succ]
            refine wpAnyH_done (by kernel_rfl) (NoPanic.normal ?_) _
            have HF : Hid (w2.ownsRow (G + 1) 5 1 v2 (k + 1) ((V.map (Value.int .u8)).take (k + 1)) ∧ Blk w2 G 87 (u8s Y) ∧ Kept (fun x => x = G) w1 w2) := by
              refine ⟨?_, HB.out.later BG (Nat.lt_succ_self _), kept_below HO2.out.2 BG (by omega)⟩
              rw [List.take_succ_eq_append_getElem (by simpa using HD.out.2), List.getElem_map, getD_get HD.out.1 HD.out.2]
              exact o2
            clear o2 g2 BG hH sD oA LA c1 cB
            go_wp2_with fail
            exact ⟨⟨k + 1, by omega, by go_num, HF.out.1, ⟨Y, HYY.out.2.1, HYY.out.2.2, HF.out.2.1, fun _ => by rw [← HYY.out.1]; congr 2; have := HAA.out; omega⟩, HF.out.2.2⟩, by simp [intOf]; omega⟩
        · have f1 : ((r : Int) == 0) = false := by rw [beq_eq_false_iff_ne]; omega
          have hXq : X = blkB key (q : Int) nonce := by
            rw [hXk (by omega)]
            congr 2
            have := HAA.out
            omega
          have hBY : Blk wr G 87 (u8s Y) := by rw [← HYY.out.1, ← hXq]; exact hXB
          have HO2 : Hid (wr.ownsRow (G + 1) 5 1 u6 k ((V.map (Value.int .u8)).take k) ∧ Kept (fun x => x = G) w1 wr) := ⟨hown, hkp⟩
          have hGW : G + 1 ≤ wr.heap.size := by rw [← hs1]; exact hsz
          clear hXB hXl hXb hXk hR hown hkp hXq
          go_wp2_with fail
          have HB : Hid (Blk wr G 87 (u8s Y)) := hBY
          have cB := u8s_cell hBY r (by rw [HYY.out.2.1]; exact hr64)
          obtain ⟨B, hB⟩ : ∃ B, Y.getD r 0 = B := ⟨_, rfl⟩
          have bB : 0 ≤ B ∧ B < 256 := by rw [← hB]; exact HYY.out.2.2.at r (by rw [HYY.out.2.1]; exact hr64)
          rw [hB] at cB
          have hx32 := xor32_8 Z B bZ bB
          obtain ⟨D, hD⟩ : ∃ D, bits .xor .u8 Z B = D := ⟨_, rfl⟩
          rw [hD] at hx32
          have HD : Hid (V.getD k 0 = D ∧ k < V.length) := ⟨by rw [HN.out.1, HYY.out.1, hB, hD], HN.out.2⟩
          have y1 : IntKind.u64.wrap Z = Z := by simp only [IntKind.wrap, IntKind.bits, IntKind.signed]; simp; omega
          have y2 : IntKind.u64.wrap B = B := by simp only [IntKind.wrap, IntKind.bits, IntKind.signed]; simp; omega
          have y3 : IntKind.u8.wrap D = D := by simp only [IntKind.wrap, IntKind.bits, IntKind.signed]; simp; omega
          have HX3 : Hid (bits .xor .u32 Z B = D) := hx32.1
          have hDb := hx32.2
          clear hB hD hx32 hBY
          refine wp_region_noPanic (wp_region_held_drew (S := fun W => W.cell? ⟨b, o + k, none⟩ = some (.int .u8 Z) ∧ W.cell? ⟨G, r, none⟩ = some (.int .u8 B)) (by kernel_rfl) ⟨c1, cB⟩ (fun hH => ?_))
          refine hTake 0 (some 51) u6 rfl rfl (by kernel_rfl) (by kernel_rfl) (by kernel_rfl) (fun _ _ _ h => h) (by rfl) (fun _ _ => by rfl) hH ?_
          simp only [Act.put, List.setIfInBounds_toArray, List.set_cons_zero, List.set_cons_succ]
          refine hTake 1 (some 52) (.slice (some ⟨b, o, none⟩) n c) rfl rfl (by kernel_rfl) (by kernel_rfl) (by kernel_rfl) (fun _ _ _ h => h) (by rfl) (fun _ _ => by rfl) hH ?_
          simp only [Act.put, List.setIfInBounds_toArray, List.set_cons_zero, List.set_cons_succ]
          refine hTake 2 (some 53) (.int .i64 (k : Int)) rfl rfl (by kernel_rfl) (by kernel_rfl) (by kernel_rfl) (fun _ _ _ h => h) (by rfl) (fun _ _ => by rfl) hH ?_
          simp only [Act.put, List.setIfInBounds_toArray, List.set_cons_zero, List.set_cons_succ]
          refine hTake 3 (some 54) (.pointer (some ⟨b, o + k, none⟩)) rfl rfl (by kernel_rfl) (by kernel_rfl) (by kernel_rfl) (fun _ _ _ h => h) (by rfl) (fun _ _ => by go_simp) hH ?_
          simp only [Act.put, List.setIfInBounds_toArray, List.set_cons_zero, List.set_cons_succ]
          refine hTake 4 (some 55) (.int .u8 Z) rfl rfl (by kernel_rfl) (by kernel_rfl) (by kernel_rfl) (fun _ _ _ h => h) (by rfl) (fun _ hs => by (obtain ⟨z1, z2⟩ := hs; go_simp)) hH ?_
          simp only [Act.put, List.setIfInBounds_toArray, List.set_cons_zero, List.set_cons_succ]
          refine hTake 5 (some 56) (.int .u64 Z) rfl rfl (by kernel_rfl) (by kernel_rfl) (by kernel_rfl) (fun _ _ _ h => h) (by rfl) (fun _ _ => by go_simp) hH ?_
          simp only [Act.put, List.setIfInBounds_toArray, List.set_cons_zero, List.set_cons_succ]
          refine hTake 6 (some 57) (.int .u64 (A : Int)) rfl rfl (by kernel_rfl) (by kernel_rfl) (by kernel_rfl) (fun _ _ _ h => h) (by rfl) (fun _ _ => by rfl) hH ?_
          simp only [Act.put, List.setIfInBounds_toArray, List.set_cons_zero, List.set_cons_succ]
          refine hTake 7 (some 58) (.int .u64 (r : Int)) rfl rfl (by kernel_rfl) (by kernel_rfl) (by kernel_rfl) (fun _ _ _ h => h) (by rfl) (fun _ _ => by go_simp) hH ?_
          simp only [Act.put, List.setIfInBounds_toArray, List.set_cons_zero, List.set_cons_succ]
          refine hTake 8 (some 59) (.pointer (some ⟨G, r, none⟩)) rfl rfl (by kernel_rfl) (by kernel_rfl) (by kernel_rfl) (fun _ _ _ h => h) (by rfl) (fun _ _ => by go_simp) hH ?_
          simp only [Act.put, List.setIfInBounds_toArray, List.set_cons_zero, List.set_cons_succ]
          refine hTake 9 (some 60) (.int .u8 B) rfl rfl (by kernel_rfl) (by kernel_rfl) (by kernel_rfl) (fun _ _ _ h => h) (by rfl) (fun _ hs => by (obtain ⟨z1, z2⟩ := hs; go_simp)) hH ?_
          simp only [Act.put, List.setIfInBounds_toArray, List.set_cons_zero, List.set_cons_succ]
          refine hTake 10 (some 61) (.int .u64 B) rfl rfl (by kernel_rfl) (by kernel_rfl) (by kernel_rfl) (fun _ _ _ h => h) (by rfl) (fun _ _ => by go_simp) hH ?_
          simp only [Act.put, List.setIfInBounds_toArray, List.set_cons_zero, List.set_cons_succ]
          refine wpAnyH_ready (rs := [11]) (by kernel_rfl) (by simp) (AllReadyH.cons rfl (fun K hK => ?_) AllReadyH.nil)
          rw [if_pos (by rfl)]
          go_simp
          go_wp2_with (go_at_call 86; refine (ragainst_any Z B ⟨by omega, by omega⟩ ⟨by omega, by omega⟩ _).mono ?_; rintro e wA ⟨rfl, rfl⟩; rw [HX3.out])
          refine hK.out _ _ ⟨c1, cB⟩ (fun hH => ?_)
          clear hK K
          refine hTake 12 (some 63) (.int .u8 D) rfl rfl (by kernel_rfl) (by kernel_rfl) (by kernel_rfl) (fun _ _ _ h => h) (by rfl) (fun _ _ => by go_simp) hH ?_
          simp only [Act.put, List.setIfInBounds_toArray, List.set_cons_zero, List.set_cons_succ]
          refine wpAnyH_ready (rs := [13]) (by kernel_rfl) (by simp) (AllReadyH.cons rfl (fun K hK => ?_) AllReadyH.nil)
          rw [if_pos (by rfl)]
          go_simp
          have LA : Below wr.heap.size wr (wr.drew.alloc (.cells #[.int .u8 D] 5)) := (below_dn (Below.refl _ _) 1).alloc (Nat.le_refl _) _
          have cb2 : b < wr.heap.size := World.block_lt_of_cell? _ _ c1
          have cG2 : G < wr.heap.size := HB.out.lt
          refine hK.out _ _ ⟨(LA.cell (p := ⟨b, o + k, none⟩) cb2).trans c1, (LA.cell (p := ⟨G, r, none⟩) cG2).trans cB⟩ (fun hH => ?_)
          clear hK K
          have sD : Seen (wr.drew.alloc (.cells #[.int .u8 D] 5)) (some ⟨wr.heap.size, 0, none⟩) 1 [D] := by
            have hb0 : Blk (wr.drew.alloc (.cells #[.int .u8 D] 5)) wr.heap.size 5 (u8s [D]) := heap_alloc_new wr.drew _
            exact seen_blk hb0 (fun z hz => by simp at hz; subst hz; exact hDb) (by simp)
          have oA : (wr.drew.alloc (.cells #[.int .u8 D] 5)).ownsRow (G + 1) 5 1 u6 k ((V.map (Value.int .u8)).take k) := ownsRow_below HO2.out.1 LA
          refine wpAnyH_ready (rs := [14]) (by kernel_rfl) (by simp) (AllReadyH.cons rfl (fun K hK => ?_) AllReadyH.nil)
          refine rstep_append (by rfl) (.tmp 51) (.tmp 64) (by rfl) (G + 1) u6 k _ (by rfl) oA (some ⟨wr.heap.size, 0, none⟩) 1 1 [D] (by rfl) sD (fun h => by cases h) (by omega) (Nat.le_trans hGW LA.size) ?_
          intro v2 w2 o2 g2
          have BG : Below (G + 1) wr w2 := ((below_dn (Below.refl (G + 1) wr) 1).alloc hGW _).grown g2 (Nat.le_trans hGW LA.size) (fun j hj => (oA.lt j hj).1)
          have hbG : b < G + 1 := by have := H1.out.2.2.2.2.2.2; omega
          refine hK.out _ _ ⟨(BG.cell (p := ⟨b, o + k, none⟩) hbG).trans c1, (BG.cell (p := ⟨G, r, none⟩) (Nat.lt_succ_self _)).trans cB⟩ (fun hH => ?_)
          clear hK K
          refine hTake 15 (some 6) v2 rfl rfl (by kernel_rfl) (by kernel_rfl) (by kernel_rfl) (fun _ _ _ h => h) (by rfl) (fun _ _ => by rfl) hH ?_
          simp only [Act.put, List.setIfInBounds_toArray, List.set_cons_zero, List.set_cons_succ]
          refine wpAnyH_done (by kernel_rfl) (NoPanic.normal ?_) _
          have HF : Hid (w2.ownsRow (G + 1) 5 1 v2 (k + 1) ((V.map (Value.int .u8)).take (k + 1)) ∧ Blk w2 G 87 (u8s Y) ∧ Kept (fun x => x = G) w1 w2) := by
            refine ⟨?_, HB.out.later BG (Nat.lt_succ_self _), kept_below HO2.out.2 BG (by omega)⟩
            rw [List.take_succ_eq_append_getElem (by simpa using HD.out.2), List.getElem_map, getD_get HD.out.1 HD.out.2]
            exact o2
          clear o2 g2 BG hH sD oA LA c1 cB
          go_wp2_with fail
          exact ⟨⟨k + 1, by omega, by go_num, HF.out.1, ⟨Y, HYY.out.2.1, HYY.out.2.2, HF.out.2.1, fun _ => by rw [← HYY.out.1]; congr 2; have := HAA.out; omega⟩, HF.out.2.2⟩, by simp [intOf]; omega⟩
    · obtain rfl : n = k := by omega
      have cP := hR.place
      have fP := hR.frozen 44
      have i1 : ¬ (n : Int) < (n : Int) := by omega
      have u2 : IntKind.u64.wrap ((P : Int) + (n : Int)) = (P : Int) + (n : Int) := by simp only [IntKind.wrap, IntKind.bits, IntKind.signed]; simp; omega
      have u3 : ((P : Int) + (n : Int)) % 18446744073709551616 = (P : Int) + (n : Int) := by omega
      rw [List.take_of_length_le (by simp [HV.out.1])] at hown
      have HO : Hid (wr.ownsRow (G + 1) 5 1 u6 n (V.map (Value.int .u8)) ∧ Kept (fun x => x = G) w1 wr ∧ RtAt wr g key nonce P) := ⟨hown, hkp, hR⟩
      clear hown hkp hR hXB hXk hXb hXl
      go_wp2_with fail
      go_ret2
      have hm := HO.out.2.2.move (P + n) (by omega)
      rw [show ((P + n : Nat) : Int) = (P : Int) + (n : Int) by omega] at hm
      have e := H1.out
      refine ⟨_, rfl, ?_, hm, ?_⟩
      · have hg' : ∀ j, u6.ownBlock = some j → g ≠ j := fun j hj => by have := (HO.out.1.lt j hj).1; omega
        rw [e.2.2.2.2.2.2]
        exact ownsRow_base (own_other HO.out.1 hg' _) (by omega)
      · have k1 := HO.out.2.1
        refine ⟨?_, ?_, ?_, ?_, fun j hj hne => ?_⟩
        · show wr.os = w.os; rw [k1.os, e.2.2.2.1.os]
        · show wr.tape = w.tape; rw [k1.tape, e.2.2.2.1.tape]
        · show wr.output = w.output; rw [k1.output, e.2.2.2.1.output]
        · have := k1.size; have := e.2.2.2.1.size; simp [World.setCell]; omega
        · rw [Below.heap_setCell _ _ _ _ (show j ≠ g from hne), k1.block j (by omega) (by omega), e.2.2.2.1.block j hj]
end Go.Proofs.YtcimiajkbgabiaaGreat

namespace Go.Proofs.YtcimiajkbgabiaaGreat
open Go.RowKit
set_option linter.unusedVariables false
set_option linter.unusedSimpArgs false

set_option maxRecDepth 20000 in
set_option maxHeartbeats 1000000 in
theorem rxor_any (key nonce : List Int) (ctr n c : Nat) (ao : Option Addr) (zs : List Int) (hk : key.length = 32) (hno : nonce.length = 12) (hkb : Bytes key) (hnb : Bytes nonce) (hct : ctr < 4294967296) (hc : n + 64 * ctr ≤ 274877906944) (w : World) (hx : Seen w ao n zs) :
    Calls Tryz.prog 53 #[.agg (u8s key).toArray, .agg (u8s nonce).toArray, .int .u32 ctr, .slice ao n c] w fun e w' => ∃ v, e = .returned v ∧ w'.ownsRow w.heap.size 5 1 v n ((over key nonce (64 * ctr) zs).map (Value.int .u8)) ∧ Below w.heap.size w w' := by
  have HX : Hid (Seen w ao n zs) := hx
  clear hx
  have HS : Hid (key.length = 32 ∧ nonce.length = 12 ∧ Bytes key ∧ Bytes nonce) := ⟨hk, hno, hkb, hnb⟩
  clear hk hno hkb hnb
  go_enter Tryz.func53, Tryz.ntmps53
  go_wp2_with (first | (refine wpList_box_new rfl 23 _ rfl (u8s key) rfl ?_; intro w1 b1 s1 l1) | (refine wpList_box_new rfl 45 _ rfl (u8s nonce) rfl ?_; intro w2 b2 s2 l2) | (refine wpList_load_blk rfl 23 _ rfl _ rfl (u8s key) _ (by first | exact b1.later l2 (by omega)) Tryz.underlying23 rfl (by rw [u8s_length, HS.out.1]; exact sizeKey) ?_) | (refine wpList_load_blk rfl 45 _ rfl _ rfl (u8s nonce) _ (by first | exact b2 | (rw [← s1]; exact b2)) Tryz.underlying45 rfl (by rw [u8s_length, HS.out.2.1]; exact sizeNonce) ?_) | (go_at_call 68; refine (rsnew_any key ctr nonce HS.out.1 HS.out.2.1 HS.out.2.2.1 HS.out.2.2.2 hct _).mono ?_; rintro e w3 ⟨g, rfl, hg, st3, l3⟩))
  have L3 : Below w.heap.size w w3 := below_chain (below_chain l1 l2 (by omega)) l3 (by omega)
  have hgw : w.heap.size ≤ g := by omega
  clear b1 s1 l1 b2 s2 l2 l3 hg
  refine (rsxor_any g key nonce (64 * ctr) n c ao zs hc w3 st3 (HX.out.later L3 (Nat.le_refl _))).mono ?_
  rintro e w4 ⟨v, rfl, o4, st4, k4⟩
  have HO : Hid (w4.ownsRow w.heap.size 5 1 v n ((over key nonce (64 * ctr) zs).map (Value.int .u8)) ∧ Below w.heap.size w w4) := ⟨ownsRow_base o4 L3.size, below_kept L3 k4 L3.size (fun j hj => by omega)⟩
  clear o4 st4 k4 st3 L3
  go_wp2_with fail
  go_ret
  exact ⟨_, rfl, HO.out⟩
def lngE (n m : Nat) : Int := if n ≤ 1048576 ∧ m ≤ 1048576 then 0 else 3
set_option maxRecDepth 20000 in
set_option maxHeartbeats 1000000 in
theorem rlong_any (ao bo : Option Addr) (n m c d : Nat) (w : World) : Calls Tryz.prog 35 #[.slice ao n c, .slice bo m d] w fun e w' => e = .returned (.int .i64 (lngE n m)) ∧ w = w' := by
  by_cases h1 : n ≤ 1048576
  · by_cases h2 : m ≤ 1048576
    · have e : lngE n m = 0 := by rw [lngE, if_pos ⟨h1, h2⟩]
      have i1 : ¬ (1048576 : Int) < (n : Int) := by omega
      have i2 : ¬ (1048576 : Int) < (m : Int) := by omega
      rw [e]
      clear e
      go_enter Tryz.func35, Tryz.ntmps35
      go_wp2_with fail
      go_ret
      exact ⟨rfl, rfl⟩
    · have e : lngE n m = 3 := by rw [lngE, if_neg (fun h => h2 h.2)]
      have i1 : ¬ (1048576 : Int) < (n : Int) := by omega
      have i2 : (1048576 : Int) < (m : Int) := by omega
      rw [e]
      clear e
      go_enter Tryz.func35, Tryz.ntmps35
      go_wp2_with fail
      go_ret
      exact ⟨rfl, rfl⟩
  · have e : lngE n m = 3 := by rw [lngE, if_neg (fun h => h1 h.1)]
    have i1 : (1048576 : Int) < (n : Int) := by omega
    rw [e]
    clear e
    go_enter Tryz.func35, Tryz.ntmps35
    go_wp2_with fail
    go_ret
    exact ⟨rfl, rfl⟩
def lenV : Value → Nat
  | .slice _ n _ => n
  | _ => 0
theorem zeros_bytes (k : Nat) : Bytes (List.replicate k 0) := fun z hz => by rw [List.eq_of_mem_replicate hz]; decide
set_option maxRecDepth 20000 in
set_option maxHeartbeats 1000000 in
theorem filled_any (ao : Option Addr) (n c : Nat) (zs : List Int) (hn : n + 16 ≤ 140737488355328) (w : World) (hx : Seen w ao n zs) :
    Calls Tryz.prog 72 #[.slice ao n c] w fun e w' => ∃ v, e = .returned v ∧ w'.ownsRow w.heap.size 5 1 v (n + fillN n) ((zs ++ fillL n).map (Value.int .u8)) ∧ Below w.heap.size w w' := by
  obtain ⟨i0, hi, hz0, hz1, hz2⟩ := info_parts info_byte
  have HZ : Hid (zs.length = n ∧ Bytes zs ∧ fillL n = List.replicate (fillN n) 0) := ⟨hx.len, hx.bytes, rfl⟩
  obtain ⟨K, hK⟩ : ∃ K, fillN n = K := ⟨_, rfl⟩
  have hK2 : K = (16 - n % 16) % 16 := by rw [← hK, fillN]
  have hKs : K < 16 := by omega
  rw [hK] at HZ ⊢
  rw [HZ.out.2.2]
  clear hK
  go_enter Tryz.func72, Tryz.ntmps72
  go_wp2_with fail
  refine (copyB_any ao n c zs w hx).mono ?_
  rintro e w1 ⟨v, rfl, o1, l1⟩
  have HO1 : Hid (w1.ownsRow w.heap.size 5 1 v n (zs.map (Value.int .u8)) ∧ Below w.heap.size w w1) := ⟨o1, l1⟩
  clear o1 l1 hx
  go_wp2_with fail
  go_loopw [3] (fun v wr => ∃ k, k ≤ K ∧ wr.ownsRow w.heap.size 5 1 v (n + k) ((zs ++ List.replicate k 0).map (Value.int .u8)) ∧ Below w.heap.size w wr) (fun v _ => n + K - lenV v)
  case atStart => exact ⟨0, Nat.zero_le _, by simpa using HO1.out.1, HO1.out.2⟩
  case round =>
    obtain ⟨k, hk, hown, hbel⟩ := hrel
    have hsz := hbel.size
    obtain ⟨vo, vc, rfl, _, _⟩ := own_seen (n := n + k) (zs := zs ++ List.replicate k 0) (by simp [HZ.out.1]) (bytes_app HZ.out.2.1 (zeros_bytes k)) (by omega) hown
    obtain ⟨N, hN⟩ : ∃ N, n + k = N := ⟨_, rfl⟩
    rw [hN] at hown ⊢
    obtain ⟨r, hr⟩ : ∃ r, N % 16 = r := ⟨_, rfl⟩
    have t1 : (N : Int).tmod 16 = (r : Int) := by rw [Int.tmod_eq_emod_of_nonneg (by omega)]; omega
    have t2 : (N : Int) % 16 = (r : Int) := by omega
    by_cases hlt : k < K
    · have f0 : ((r : Int) == 0) = false := by rw [beq_eq_false_iff_ne]; omega
      have f1 : ¬ (r : Int) = 0 := by omega
      have HN : Hid (n + k = N ∧ N % 16 = r) := ⟨hN, hr⟩
      have HB : Hid (Below w.heap.size w wr) := hbel
      clear hN hr hK2 hbel
      go_wp2_with (at_builtin; refine wpList_append_own _ rfl _ _ 28 rfl w.heap.size 5 i0 (.int .u8 0) 1 1 Tryz.underlying28 hi hz0 hz1 hz2 rfl (by decide) _ _ _ rfl (hown.alloc _) ⟨wr.heap.size, 0, none⟩ 1 1 [.int .u8 0] rfl rfl ?c1 ?c2 ?c3 ?c4 ?c5 ?_)
      try case c1 => exact one_new _ _ _
      case c2 => first | rfl | (intro u hu; simp at hu; subst hu; rfl)
      case c3 => have := HN.out; unfold maxLen; omega
      case c4 => have := HN.out; omega
      case c5 => first | omega | (simp; omega)
      · intro v' w2 hown' hgrow _
        have HL : Hid (∀ j, (Value.slice vo N vc).ownBlock = some j → w.heap.size ≤ j) := fun j hj => (hown.lt j hj).1
        have R : Hid (w2.ownsRow w.heap.size 5 1 v' (N + 1) ((zs ++ List.replicate (k + 1) 0).map (Value.int .u8)) ∧ Below w.heap.size w w2) := by
          refine ⟨?_, (HB.out.alloc hsz _).grown hgrow (HB.out.alloc hsz _).size HL.out⟩
          have e : List.map (Value.int .u8) (zs ++ List.replicate (k + 1) 0) = zs.map (Value.int .u8) ++ (List.replicate k (Value.int .u8 0) ++ [Value.int .u8 0]) := by simp [List.replicate_succ']
          rw [e]
          exact hown'
        obtain ⟨a', c', rfl, _, _⟩ := own_seen (n := N + 1) (zs := zs ++ List.replicate (k + 1) 0) (by simp [HZ.out.1]; have := HN.out; omega) (bytes_app HZ.out.2.1 (zeros_bytes _)) (by have := HN.out; omega) R.out.1
        clear hown' hgrow hown
        go_wp2_with fail
        refine ⟨⟨k + 1, by omega, ?_, R.out.2⟩, ?_⟩
        · have e := R.out.1
          rwa [show N + 1 = n + (k + 1) by have := HN.out; omega] at e ⊢
        · have := HN.out
          simp only [lenV]
          omega
    · obtain rfl : K = k := by omega
      have f0 : ((r : Int) == 0) = true := by rw [beq_iff_eq]; omega
      have f1 : (r : Int) = 0 := by omega
      have HO : Hid (wr.ownsRow w.heap.size 5 1 (.slice vo N vc) (n + K) ((zs ++ List.replicate K 0).map (Value.int .u8)) ∧ Below w.heap.size w wr) := ⟨by rw [hN]; exact hown, hbel⟩
      clear hown hbel hN hr
      go_wp2_with fail
      go_ret
      exact ⟨_, rfl, HO.out⟩
end Go.Proofs.YtcimiajkbgabiaaGreat

namespace Go.Proofs.YtcimiajkbgabiaaGreat
open Go.RowKit
set_option linter.unusedVariables false
set_option linter.unusedSimpArgs false

/-- What Peek tells: the text, or as many bytes 0. -/
def peekL (key nonce more box : List Int) : List Int := if opensL key nonce more box = true then textL key nonce box else List.replicate (box.length - 16) 0
theorem peekL_length (key nonce more box : List Int) : (peekL key nonce more box).length = box.length - 16 := by
  unfold peekL
  split
  · exact textL_length _ _ _
  · simp
theorem mix_peek (key nonce more box : List Int) (h : Bytes box) : mix (mk (!opensL key nonce more box)) (box.length - 16) (textL key nonce box) (List.replicate (box.length - 16) 0) = peekL key nonce more box := by
  have hl := textL_length key nonce box
  have hb := textL_bytes key nonce h
  unfold peekL
  cases opensL key nonce more box with
  | true => simp only [Bool.not_true, mk_false, if_true]; exact mix_no _ _ _ hb
  | false =>
    simp only [Bool.not_false, mk_true, Bool.false_eq_true, if_false]
    have := mix_yes (textL key nonce box) (List.replicate (box.length - 16) 0) hb (rep0_bytes _) (by simp [hl])
    rwa [hl] at this
theorem isO_len {B n : Nat} {zs : List Int} {v : Value} {W : World} (h : isO B n zs v W) (hl : zs.length = n) : (v = .slice none 0 0 ∧ n = 0 ∧ zs = []) ∨ ∃ g cap, v = .slice (some ⟨g, 0, none⟩) n cap ∧ RowC W g cap zs ∧ B ≤ g ∧ n ≤ cap ∧ cap ≤ maxLen := by
  rcases own_len hl h with ⟨rfl, rfl⟩ | ⟨g, cap, rfl, hr, hg, h1, h2⟩
  · exact .inl ⟨rfl, rfl, List.length_eq_zero_iff.1 hl⟩
  · exact .inr ⟨g, cap, rfl, RowC.of_own h, hg, h1, h2⟩
end Go.Proofs.YtcimiajkbgabiaaGreat

namespace Go.Proofs.YtcimiajkbgabiaaGreat
open Go.RowKit
set_option linter.unusedVariables false
set_option linter.unusedSimpArgs false

theorem isO_seen {B n : Nat} {zs : List Int} {v : Value} {W : World} (h : isO B n zs v W) (hl : zs.length = n) (hb : Bytes zs) (ht : n ≤ 140737488355328) : ∃ vo cap, v = .slice vo n cap ∧ Seen W vo n zs ∧ n ≤ cap ∧ (vo = none → cap = 0) ∧ (∀ b o, vo = some ⟨b, o, none⟩ → B ≤ b) := by
  subst hl
  obtain ⟨vo, cap, rfl, h1, h2, h3, h4, _⟩ := own_data hb ht h
  exact ⟨vo, cap, rfl, h1, h2, h3, fun b o e => (h4 b o e).1⟩
def sKey : List Int := 1 :: 2 :: 3 :: List.replicate 29 0
def sNon : List Int := 4 :: List.replicate 11 0
theorem sKey_bytes : Bytes sKey := fun z hz => by
  simp only [sKey, List.mem_cons] at hz
  rcases hz with rfl | rfl | rfl | h
  · decide
  · decide
  · decide
  · exact rep0_bytes _ z h
theorem sNon_bytes : Bytes sNon := fun z hz => by
  rcases List.mem_cons.1 hz with rfl | h
  · decide
  · exact rep0_bytes _ z h
theorem sZero : (Tryz.prog.info? 23).map (fun i => (i.zero, i.size)) = some (some (.agg (u8s (List.replicate 32 0)).toArray), 32) := by kernel_rfl
theorem b5 : Bytes [5] := fun z hz => by simp at hz; subst hz; decide
theorem b67 : Bytes [6, 7] := fun z hz => by simp at hz; rcases hz with rfl | rfl <;> decide
end Go.Proofs.YtcimiajkbgabiaaGreat

namespace Go.Proofs.YtcimiajkbgabiaaGreat
open Go.RowKit Go.Joins
set_option linter.unusedVariables false
set_option linter.unusedSimpArgs false

/-- An array of bytes is itself. -/
theorem equalA (t : TypeId) (n : Nat) (ht : Tryz.prog.underlying t = some (.array n 5)) (d : Nat) (zs : List Int) (hl : zs.length = n) (w : World) : (Op.equalIn (d + 2) t (.agg (u8s zs).toArray) (.agg (u8s zs).toArray)).run Tryz.prog w = .ok true w := by
  have hsz : ∀ w, (sizeOf 5).run Tryz.prog w = .ok 1 w := fun w => by
    have h := infoByte
    cases hq : Tryz.prog.info? 5 with
    | none => simp [hq] at h
    | some i => simp [hq] at h; simp [sizeOf, typeInfo, hq, h.2]
  have he := Tryz.underlying5
  rw [Op.equalIn]
  simp only [Sem.run_bind, run_underlying ht, Result.andThen_ok, hsz, Std.Legacy.Range.forIn_eq_forIn_range', Std.Legacy.Range.size, Nat.sub_zero, Nat.add_sub_cancel, Nat.div_one]
  have hlr : ∀ i ∈ List.range' 0 n 1, i < n := fun i hi => by simpa using (List.mem_range'_1.1 hi).2
  generalize List.range' 0 n 1 = l at hlr ⊢
  induction l with
  | nil => simp
  | cons i l ih =>
    have hi : i < n := hlr i (by simp)
    have px : (Go.part 5 (u8s zs).toArray (i * 1)).run Tryz.prog w = .ok (.int .u8 (zs.getD i 0)) w := by
      simp [Go.part, isAgg, run_underlying he, u8s, List.getD, List.getElem?_eq_getElem (show i < zs.length by omega)]
    have pe : (Op.equalIn (d + 1) 5 (.int .u8 (zs.getD i 0)) (.int .u8 (zs.getD i 0))).run Tryz.prog w = .ok true w := by
      rw [run_equalIn_int w d 5 .u8 .u8 _ _ he]; simp
    simp only [List.forIn_cons, Sem.run_bind, px, pe, Result.andThen_ok]
    simp only [Bool.not_true, Bool.false_eq_true, if_false, Sem.run_pure, Result.andThen_ok]
    exact ih fun j hj => hlr j (by simp [hj])
def nonL (kind number : Int) : List Int := leB 4 kind ++ leB 8 number
theorem nonL_length (a b : Int) : (nonL a b).length = 12 := by simp [nonL, leB_length]
theorem nonL_bytes (a b : Int) : Bytes (nonL a b) := bytes_app (leB_bytes _ _) (leB_bytes _ _)
theorem zeroNon : (Tryz.prog.info? 45).map (fun i => (i.zero, i.size)) = some (some (.agg (u8s (zs0 12)).toArray), 12) := by kernel_rfl
theorem row_range {w : World} {g : Nat} {zs : List Int} (h : RowAt w g zs) : w.rangeAt g 0 (u8s zs) := fun j v hv => by
  have hj : j < zs.length := by have := (List.getElem?_eq_some_iff.1 hv).1; simpa [u8s] using this
  rw [Nat.zero_add, h.cell j hj, ← hv]
  simp [u8s, List.getD, hj]
set_option maxRecDepth 20000 in
set_option maxHeartbeats 1000000 in
theorem rlit_any (x : Int) (hx : 0 ≤ x ∧ x < 18446744073709551616) (m : Nat) (hm : m ≤ 8) (w : World) :
    Calls Tryz.prog 34 #[.int .u64 x, .int .i64 m] w fun e w' => ∃ v, e = .returned v ∧ w'.ownsRow w.heap.size 5 1 v m ((leB m x).map (Value.int .u8)) ∧ Below w.heap.size w w' := by
  obtain ⟨i0, hi, hz0, hz1, hz2⟩ := info_parts info_byte
  have HL : Hid ((leB m x).length = m ∧ ∀ k, k < m → (leB m x).getD k 0 = x / 2 ^ (8 * k) % 256) := ⟨leB_length _ _, fun k hk => by rw [leB_at _ _ _ hk, byteAt_eq]⟩
  generalize leB m x = zs at *
  go_enter Tryz.func34, Tryz.ntmps34
  go_wp2_with fail
  go_loopw [5, 6] (fun v i wr => ∃ k : Nat, k ≤ m ∧ i = .int .i64 k ∧ wr.ownsRow w.heap.size 5 1 v k ((zs.map (Value.int .u8)).take k) ∧ Below w.heap.size w wr) (fun _ i _ => m - (intOf i).toNat)
  case atStart => exact ⟨0, Nat.zero_le _, rfl, World.ownsRow_nil _ _ _ _, Below.refl _ _⟩
  case round =>
    obtain ⟨k, hk, rfl, hown, hbel⟩ := hrel
    have hsz := hbel.size
    by_cases hlt : k < m
    · have HZ : Hid (zs.getD k 0 = x / 2 ^ (8 * k) % 256) := HL.out.2 k hlt
      have i1 : (k : Int) < (m : Int) := by omega
      have i2 : (0 : Int) ≤ (k : Int) := by omega
      go_wp2_with (at_builtin; refine wpList_append_own _ rfl _ _ 28 rfl w.heap.size 5 i0 (.int .u8 0) 1 1 Tryz.underlying28 hi hz0 hz1 hz2 rfl (by decide) _ _ _ rfl (hown.alloc _) ⟨wr.heap.size, 0, none⟩ 1 1 [.int .u8 (x / 2 ^ (8 * k) % 256)] rfl rfl ?c1 ?c2 ?c3 ?c4 ?c5 ?_)
      try case c1 => exact one_new _ _ _
      case c2 => first | rfl | (intro u hu; simp at hu; subst hu; rfl)
      case c3 => unfold maxLen; omega
      case c4 => omega
      case c5 => first | omega | (simp; omega)
      · intro v' w1 hown' hgrow _
        have R := step_own hbel hown (by rw [HL.out.1]; exact hlt) HZ.out hown' hgrow
        clear hown' hgrow hown hbel
        go_wp2_with fail
        exact ⟨⟨k + 1, by omega, by go_num, R.1, R.2⟩, by simp [intOf]; omega⟩
    · obtain rfl : m = k := by omega
      have HO : Hid (wr.ownsRow w.heap.size 5 1 u5 m (zs.map (Value.int .u8)) ∧ Below w.heap.size w wr) := ⟨by have h := hown; rwa [List.take_of_length_le (by simp [HL.out.1])] at h, hbel⟩
      clear hown hbel
      go_wp2_with fail
      go_ret
      exact ⟨_, rfl, HO.out⟩
end Go.Proofs.YtcimiajkbgabiaaGreat

namespace Go.Proofs.YtcimiajkbgabiaaGreat
open Go.RowKit
set_option linter.unusedVariables false
set_option linter.unusedSimpArgs false

/-- Something is added at a place. -/
theorem add_place {L : List Int} {i : Nat} {x b c : Int} (hi : i < L.length) (h : ∀ y ∈ L, 0 ≤ y ∧ y ≤ b) (hx : 0 ≤ x ∧ x ≤ c) (hb : 0 ≤ b) :
    (L.set i (L.getD i 0 + x)).length = L.length ∧ (∀ y ∈ L.set i (L.getD i 0 + x), 0 ≤ y ∧ y ≤ b + c) ∧ le (L.set i (L.getD i 0 + x)) = le L + 256 ^ i * x := by
  refine ⟨by simp, fun y hy => ?_, le_set L i x hi⟩
  have e : L.getD i 0 = L[i] := by simp [List.getD, hi]
  have h1 := h L[i] (List.getElem_mem hi)
  rcases List.mem_or_eq_of_mem_set hy with hm | rfl
  · have := h y hm; omega
  · rw [e]; omega
theorem rep0_small (N : Nat) : ∀ y ∈ List.replicate N (0 : Int), 0 ≤ y ∧ y ≤ 0 := fun y hy => by rw [List.eq_of_mem_replicate hy]; decide
theorem run_makeN (w : World) (n : Nat) (hn : n ≤ 2000) : (Instr.makeSlice 135 (.int .i64 (n : Int)) (.int .i64 (n : Int))).run Tryz.prog w = .ok (.slice (some ⟨w.heap.size, 0, none⟩) n n) (w.alloc (.cells (i64s (List.replicate n 0)).toArray 3)) := by
  obtain ⟨i0, hi, hz0, hz1, hz2⟩ := info_parts info_int
  have hmk := run_make (P := Tryz.prog) w 135 3 i0 (.int .i64 0) Tryz.underlying135 hi hz0 .i64 .i64 (n : Int) (n : Int) (by omega) (Int.le_refl _) (by rw [hz2]; omega) (by omega)
  rw [hz1, show ((n : Int).toNat) = n by omega, Nat.mul_one, show (Value.int .i64 0).cells = #[.int .i64 0] from rfl, madeN] at hmk
  exact hmk
theorem rowN_new (w : World) (zs : List Int) : RowN (w.alloc (.cells (i64s zs).toArray 3)) w.heap.size zs.length zs := ⟨[], by rw [List.append_nil]; exact heap_alloc_new w _, by simp⟩
theorem max_cases (n m : Nat) : ∃ N, n ≤ N ∧ m ≤ N ∧ N = Nat.max n m ∧ (((n : Int) < (m : Int) ∧ m = N) ∨ (¬ (n : Int) < (m : Int) ∧ n = N)) := by
  refine ⟨Nat.max n m, Nat.le_max_left _ _, Nat.le_max_right _ _, rfl, ?_⟩
  rcases Nat.lt_or_ge n m with h | h
  · exact .inl ⟨by omega, (Nat.max_eq_right (by omega)).symm⟩
  · exact .inr ⟨by omega, (Nat.max_eq_left h).symm⟩
theorem bytes_le {zs : List Int} (h : Bytes zs) (j : Nat) (hj : j < zs.length) : 0 ≤ zs.getD j 0 ∧ zs.getD j 0 ≤ 255 := by have := h.at j hj; omega
/-- The state of a sum under way. -/
structure SumAt (w1 : World) (G N : Nat) (wr : World) (L : List Int) (b v : Int) : Prop where
  row : RowN wr G N L
  len : L.length = N
  bd : ∀ y ∈ L, 0 ≤ y ∧ y ≤ b
  val : le L = v
  kept : Kept (fun k => k = G) w1 wr
set_option maxHeartbeats 4000000 in
set_option maxRecDepth 20000 in
theorem add_any (ao bo : Option Addr) (n m c d : Nat) (xs ys : List Int) (w : World) (hx : SeenN w ao n xs) (hy : SeenN w bo m ys) (ha : Bytes xs) (hb : Bytes ys) (hn : n ≤ 400) (hm : m ≤ 400) :
    Calls Tryz.prog 95 #[.slice ao n c, .slice bo m d] w fun e w' => ∃ v, e = .returned v ∧ ∃ es, isN es v w' ∧ Bytes es ∧ le es = le xs + le ys ∧ n ≤ es.length ∧ m ≤ es.length ∧ es.length ≤ Nat.max n m + 6 ∧ Below w.heap.size w w' := by
  have HX : Hid (SeenN w ao n xs ∧ SeenN w bo m ys ∧ Bytes xs ∧ Bytes ys ∧ xs.length = n ∧ ys.length = m) := ⟨hx, hy, ha, hb, hx.len, hy.len⟩
  clear hx hy ha hb
  obtain ⟨N, hN1, hN2, hN3, hN⟩ := max_cases n m
  have HM : Hid (N = Nat.max n m) := hN3
  have hN400 : N ≤ 400 := by omega
  have hmk := run_makeN w N (by omega)
  obtain ⟨w1, hw1, HB⟩ : ∃ w1, w.alloc (.cells (i64s (List.replicate N 0)).toArray 3) = w1 ∧ Hid (RowN w1 w.heap.size N (List.replicate N 0) ∧ Below w.heap.size w w1 ∧ w1.heap.size = w.heap.size + 1) := ⟨_, rfl, ⟨by have := rowN_new w (List.replicate N 0); simpa using this, (Below.refl _ _).alloc (Nat.le_refl _) _, by simp⟩⟩
  rw [hw1] at hmk
  clear hw1 hN3
  rcases hN with ⟨i0, rfl⟩ | ⟨i0, rfl⟩
  · go_enter Tryz.func95, Tryz.ntmps95
    go_wp2_with fail
    go_loopw [7] (fun i wr => ∃ k : Nat, k ≤ n ∧ i = .int .i64 k ∧ ∃ L, SumAt w1 w.heap.size m wr L (0 + 255 * (k : Int)) (0 + le (xs.take k))) (fun i _ => n - (intOf i).toNat)
    case atStart => exact ⟨0, Nat.zero_le _, rfl, _, HB.out.1, by simp, (fun y hy => by have := rep0_small _ y hy; omega), by rw [le_rep0]; rfl, Kept.refl _ _⟩
    case round =>
      obtain ⟨k, hk, rfl, L, hL⟩ := hrel
      by_cases hlt : k < n
      · obtain ⟨b, o, rfl, hb, hc⟩ := HX.out.1.cells (by omega)
        have hkL : k < L.length := by rw [hL.len]; omega
        have c1 : wr.cell? ⟨b, o + k, none⟩ = some (.int .i64 (xs.getD k 0)) := (hL.kept.cell (p := ⟨b, o + k, none⟩) (by show b < _; have := HB.out.2.2; omega) (by show ¬ b = _; omega)).trans ((HB.out.2.1.cell (p := ⟨b, o + k, none⟩) hb).trans (hc k hlt))
        have c2 := hL.row.cell k hkL
        have f2 := hL.row.frozen k
        have bd1 := bytes_le HX.out.2.2.1 k (by rw [HX.out.2.2.2.2.1]; exact hlt)
        have bd2 := hL.bd _ (List.getElem_mem hkL)
        have e2 : L[k] = L.getD k 0 := by simp [List.getD, hkL]
        rw [e2] at bd2
        have hpl := add_place hkL hL.bd bd1 (by omega)
        have HS : Hid (SumAt w1 w.heap.size m (wr.setCell ⟨w.heap.size, k, none⟩ (.int .i64 (L.getD k 0 + xs.getD k 0))).drew (L.set k (L.getD k 0 + xs.getD k 0)) (0 + 255 * ((k + 1 : Nat) : Int)) (0 + le (xs.take (k + 1)))) :=
          ⟨(hL.row.set k hkL _).drew, by rw [hpl.1, hL.len], (fun y hy => by have := hpl.2.1 y hy; omega), by rw [hpl.2.2, hL.val, le_take_succ _ _ (by rw [HX.out.2.2.2.2.1]; exact hlt), Int.add_assoc], (hL.kept.setCell (S := fun k => k = w.heap.size) rfl _).drew⟩
        obtain ⟨A, hA⟩ : ∃ A, xs.getD k 0 = A := ⟨_, rfl⟩
        obtain ⟨B, hB⟩ : ∃ B, L.getD k 0 = B := ⟨_, rfl⟩
        rw [hA] at c1 bd1 HS
        rw [hB] at c2 bd2 HS
        have i1 : (0 : Int) ≤ (k : Int) := by omega
        have i2 : (k : Int) < (n : Int) := by omega
        have i3 : (k : Int) < ((m : Nat) : Int) := by omega
        have w2' : IntKind.i64.wrap (B + A) = B + A := by simp only [IntKind.wrap, IntKind.bits, IntKind.signed]; simp; omega
        clear hc hA hB hL hpl e2 hkL
        go_wp2_with fail
        go_region
        all_goals
          go_wp2_with fail
          exact ⟨⟨k + 1, by omega, by go_num, _, HS.out⟩, by simp [intOf]; omega⟩
      · obtain rfl : n = k := by omega
        obtain ⟨L1, HL1⟩ : ∃ L1, Hid (SumAt w1 w.heap.size m wr L1 (0 + 255 * (n : Int)) (0 + le (xs.take n))) := ⟨L, hL⟩
        clear hL
        obtain ⟨w3, hw3⟩ : ∃ W, W = wr := ⟨_, rfl⟩
        subst hw3
        go_wp2_with fail
        go_loopw [8] (fun i wr => ∃ k : Nat, k ≤ m ∧ i = .int .i64 k ∧ ∃ L, SumAt w1 w.heap.size m wr L (255 * (n : Int) + 255 * (k : Int)) (le xs + le (ys.take k))) (fun i _ => m - (intOf i).toNat)
        case atStart => exact ⟨0, Nat.zero_le _, rfl, L1, HL1.out.row, HL1.out.len, (fun y hy => by have := HL1.out.bd y hy; omega), by rw [HL1.out.val, List.take_of_length_le (by rw [HX.out.2.2.2.2.1]; omega)]; simp [le], HL1.out.kept⟩
        case round =>
          obtain ⟨k, hk, rfl, L, hL⟩ := hrel
          by_cases hlt : k < m
          · obtain ⟨b, o, rfl, hb, hc⟩ := HX.out.2.1.cells (by omega)
            have hkL : k < L.length := by rw [hL.len]; omega
            have c1 : wr.cell? ⟨b, o + k, none⟩ = some (.int .i64 (ys.getD k 0)) := (hL.kept.cell (p := ⟨b, o + k, none⟩) (by show b < _; have := HB.out.2.2; omega) (by show ¬ b = _; omega)).trans ((HB.out.2.1.cell (p := ⟨b, o + k, none⟩) hb).trans (hc k hlt))
            have c2 := hL.row.cell k hkL
            have f2 := hL.row.frozen k
            have bd1 := bytes_le HX.out.2.2.2.1 k (by rw [HX.out.2.2.2.2.2]; exact hlt)
            have bd2 := hL.bd _ (List.getElem_mem hkL)
            have e2 : L[k] = L.getD k 0 := by simp [List.getD, hkL]
            rw [e2] at bd2
            have hpl := add_place hkL hL.bd bd1 (by omega)
            have HS : Hid (SumAt w1 w.heap.size m (wr.setCell ⟨w.heap.size, k, none⟩ (.int .i64 (L.getD k 0 + ys.getD k 0))).drew (L.set k (L.getD k 0 + ys.getD k 0)) (255 * (n : Int) + 255 * ((k + 1 : Nat) : Int)) (le xs + le (ys.take (k + 1)))) :=
              ⟨(hL.row.set k hkL _).drew, by rw [hpl.1, hL.len], (fun y hy => by have := hpl.2.1 y hy; omega), by rw [hpl.2.2, hL.val, le_take_succ _ _ (by rw [HX.out.2.2.2.2.2]; exact hlt), Int.add_assoc], (hL.kept.setCell (S := fun k => k = w.heap.size) rfl _).drew⟩
            obtain ⟨A, hA⟩ : ∃ A, ys.getD k 0 = A := ⟨_, rfl⟩
            obtain ⟨B, hB⟩ : ∃ B, L.getD k 0 = B := ⟨_, rfl⟩
            rw [hA] at c1 bd1 HS
            rw [hB] at c2 bd2 HS
            have i1 : (0 : Int) ≤ (k : Int) := by omega
            have i2 : (k : Int) < (m : Int) := by omega
            have i3 : (k : Int) < ((m : Nat) : Int) := by omega
            have w2' : IntKind.i64.wrap (B + A) = B + A := by simp only [IntKind.wrap, IntKind.bits, IntKind.signed]; simp; omega
            clear hc hA hB hL hpl e2 hkL
            go_wp2_with fail
            go_region
            all_goals
              go_wp2_with fail
              exact ⟨⟨k + 1, by omega, by go_num, _, HS.out⟩, by simp [intOf]; omega⟩
          · obtain rfl : m = k := by omega
            obtain ⟨L2, HL2⟩ : ∃ L2, Hid (SumAt w1 w.heap.size m wr L2 (255 * (n : Int) + 255 * (m : Int)) (le xs + le (ys.take m))) := ⟨L, hL⟩
            have hsn : SeenN wr (some ⟨w.heap.size, 0, none⟩) m L2 := by
              have := HL2.out.row.seen (by rw [HL2.out.len]; omega) (fun d hd => by have := HL2.out.bd d hd; omega)
              rwa [HL2.out.len] at this
            have hcl := clean_any (some ⟨w.heap.size, 0, none⟩) m m L2 wr hsn (by omega)
            have HW : Hid (Below w.heap.size w wr ∧ le L2 = le xs + le ys) := ⟨below_kept HB.out.2.1 HL2.out.kept HB.out.2.1.size (fun j hj => by omega), by rw [HL2.out.val, List.take_of_length_le (by rw [HX.out.2.2.2.2.2]; omega)]⟩
            clear hsn hL
            go_wp2_with fail
            refine hcl.mono ?_
            rintro e w2 ⟨v, rfl, es, hes⟩
            have HE : Hid (isN es v w2 ∧ Bytes es ∧ le es = le L2 ∧ m ≤ es.length ∧ es.length ≤ m + 6 ∧ Below wr.heap.size wr w2) := hes
            clear hes hcl
            go_wp2_with fail
            go_ret
            obtain ⟨h1, h2, h3, h4, h5, h6⟩ := HE.out
            exact ⟨_, rfl, es, h1, h2, by rw [h3, HW.out.2], by omega, by omega, by rw [← HM.out]; exact h5, below_chain HW.out.1 h6 HW.out.1.size⟩
  · go_enter Tryz.func95, Tryz.ntmps95
    go_wp2_with fail
    go_loopw [7] (fun i wr => ∃ k : Nat, k ≤ n ∧ i = .int .i64 k ∧ ∃ L, SumAt w1 w.heap.size n wr L (0 + 255 * (k : Int)) (0 + le (xs.take k))) (fun i _ => n - (intOf i).toNat)
    case atStart => exact ⟨0, Nat.zero_le _, rfl, _, HB.out.1, by simp, (fun y hy => by have := rep0_small _ y hy; omega), by rw [le_rep0]; rfl, Kept.refl _ _⟩
    case round =>
      obtain ⟨k, hk, rfl, L, hL⟩ := hrel
      by_cases hlt : k < n
      · obtain ⟨b, o, rfl, hb, hc⟩ := HX.out.1.cells (by omega)
        have hkL : k < L.length := by rw [hL.len]; omega
        have c1 : wr.cell? ⟨b, o + k, none⟩ = some (.int .i64 (xs.getD k 0)) := (hL.kept.cell (p := ⟨b, o + k, none⟩) (by show b < _; have := HB.out.2.2; omega) (by show ¬ b = _; omega)).trans ((HB.out.2.1.cell (p := ⟨b, o + k, none⟩) hb).trans (hc k hlt))
        have c2 := hL.row.cell k hkL
        have f2 := hL.row.frozen k
        have bd1 := bytes_le HX.out.2.2.1 k (by rw [HX.out.2.2.2.2.1]; exact hlt)
        have bd2 := hL.bd _ (List.getElem_mem hkL)
        have e2 : L[k] = L.getD k 0 := by simp [List.getD, hkL]
        rw [e2] at bd2
        have hpl := add_place hkL hL.bd bd1 (by omega)
        have HS : Hid (SumAt w1 w.heap.size n (wr.setCell ⟨w.heap.size, k, none⟩ (.int .i64 (L.getD k 0 + xs.getD k 0))).drew (L.set k (L.getD k 0 + xs.getD k 0)) (0 + 255 * ((k + 1 : Nat) : Int)) (0 + le (xs.take (k + 1)))) :=
          ⟨(hL.row.set k hkL _).drew, by rw [hpl.1, hL.len], (fun y hy => by have := hpl.2.1 y hy; omega), by rw [hpl.2.2, hL.val, le_take_succ _ _ (by rw [HX.out.2.2.2.2.1]; exact hlt), Int.add_assoc], (hL.kept.setCell (S := fun k => k = w.heap.size) rfl _).drew⟩
        obtain ⟨A, hA⟩ : ∃ A, xs.getD k 0 = A := ⟨_, rfl⟩
        obtain ⟨B, hB⟩ : ∃ B, L.getD k 0 = B := ⟨_, rfl⟩
        rw [hA] at c1 bd1 HS
        rw [hB] at c2 bd2 HS
        have i1 : (0 : Int) ≤ (k : Int) := by omega
        have i2 : (k : Int) < (n : Int) := by omega
        have i3 : (k : Int) < ((n : Nat) : Int) := by omega
        have w2' : IntKind.i64.wrap (B + A) = B + A := by simp only [IntKind.wrap, IntKind.bits, IntKind.signed]; simp; omega
        clear hc hA hB hL hpl e2 hkL
        go_wp2_with fail
        go_region
        all_goals
          go_wp2_with fail
          exact ⟨⟨k + 1, by omega, by go_num, _, HS.out⟩, by simp [intOf]; omega⟩
      · obtain rfl : n = k := by omega
        obtain ⟨L1, HL1⟩ : ∃ L1, Hid (SumAt w1 w.heap.size n wr L1 (0 + 255 * (n : Int)) (0 + le (xs.take n))) := ⟨L, hL⟩
        clear hL
        obtain ⟨w3, hw3⟩ : ∃ W, W = wr := ⟨_, rfl⟩
        subst hw3
        go_wp2_with fail
        go_loopw [8] (fun i wr => ∃ k : Nat, k ≤ m ∧ i = .int .i64 k ∧ ∃ L, SumAt w1 w.heap.size n wr L (255 * (n : Int) + 255 * (k : Int)) (le xs + le (ys.take k))) (fun i _ => m - (intOf i).toNat)
        case atStart => exact ⟨0, Nat.zero_le _, rfl, L1, HL1.out.row, HL1.out.len, (fun y hy => by have := HL1.out.bd y hy; omega), by rw [HL1.out.val, List.take_of_length_le (by rw [HX.out.2.2.2.2.1]; omega)]; simp [le], HL1.out.kept⟩
        case round =>
          obtain ⟨k, hk, rfl, L, hL⟩ := hrel
          by_cases hlt : k < m
          · obtain ⟨b, o, rfl, hb, hc⟩ := HX.out.2.1.cells (by omega)
            have hkL : k < L.length := by rw [hL.len]; omega
            have c1 : wr.cell? ⟨b, o + k, none⟩ = some (.int .i64 (ys.getD k 0)) := (hL.kept.cell (p := ⟨b, o + k, none⟩) (by show b < _; have := HB.out.2.2; omega) (by show ¬ b = _; omega)).trans ((HB.out.2.1.cell (p := ⟨b, o + k, none⟩) hb).trans (hc k hlt))
            have c2 := hL.row.cell k hkL
            have f2 := hL.row.frozen k
            have bd1 := bytes_le HX.out.2.2.2.1 k (by rw [HX.out.2.2.2.2.2]; exact hlt)
            have bd2 := hL.bd _ (List.getElem_mem hkL)
            have e2 : L[k] = L.getD k 0 := by simp [List.getD, hkL]
            rw [e2] at bd2
            have hpl := add_place hkL hL.bd bd1 (by omega)
            have HS : Hid (SumAt w1 w.heap.size n (wr.setCell ⟨w.heap.size, k, none⟩ (.int .i64 (L.getD k 0 + ys.getD k 0))).drew (L.set k (L.getD k 0 + ys.getD k 0)) (255 * (n : Int) + 255 * ((k + 1 : Nat) : Int)) (le xs + le (ys.take (k + 1)))) :=
              ⟨(hL.row.set k hkL _).drew, by rw [hpl.1, hL.len], (fun y hy => by have := hpl.2.1 y hy; omega), by rw [hpl.2.2, hL.val, le_take_succ _ _ (by rw [HX.out.2.2.2.2.2]; exact hlt), Int.add_assoc], (hL.kept.setCell (S := fun k => k = w.heap.size) rfl _).drew⟩
            obtain ⟨A, hA⟩ : ∃ A, ys.getD k 0 = A := ⟨_, rfl⟩
            obtain ⟨B, hB⟩ : ∃ B, L.getD k 0 = B := ⟨_, rfl⟩
            rw [hA] at c1 bd1 HS
            rw [hB] at c2 bd2 HS
            have i1 : (0 : Int) ≤ (k : Int) := by omega
            have i2 : (k : Int) < (m : Int) := by omega
            have i3 : (k : Int) < ((n : Nat) : Int) := by omega
            have w2' : IntKind.i64.wrap (B + A) = B + A := by simp only [IntKind.wrap, IntKind.bits, IntKind.signed]; simp; omega
            clear hc hA hB hL hpl e2 hkL
            go_wp2_with fail
            go_region
            all_goals
              go_wp2_with fail
              exact ⟨⟨k + 1, by omega, by go_num, _, HS.out⟩, by simp [intOf]; omega⟩
          · obtain rfl : m = k := by omega
            obtain ⟨L2, HL2⟩ : ∃ L2, Hid (SumAt w1 w.heap.size n wr L2 (255 * (n : Int) + 255 * (m : Int)) (le xs + le (ys.take m))) := ⟨L, hL⟩
            have hsn : SeenN wr (some ⟨w.heap.size, 0, none⟩) n L2 := by
              have := HL2.out.row.seen (by rw [HL2.out.len]; omega) (fun d hd => by have := HL2.out.bd d hd; omega)
              rwa [HL2.out.len] at this
            have hcl := clean_any (some ⟨w.heap.size, 0, none⟩) n n L2 wr hsn (by omega)
            have HW : Hid (Below w.heap.size w wr ∧ le L2 = le xs + le ys) := ⟨below_kept HB.out.2.1 HL2.out.kept HB.out.2.1.size (fun j hj => by omega), by rw [HL2.out.val, List.take_of_length_le (by rw [HX.out.2.2.2.2.2]; omega)]⟩
            clear hsn hL
            go_wp2_with fail
            refine hcl.mono ?_
            rintro e w2 ⟨v, rfl, es, hes⟩
            have HE : Hid (isN es v w2 ∧ Bytes es ∧ le es = le L2 ∧ n ≤ es.length ∧ es.length ≤ n + 6 ∧ Below wr.heap.size wr w2) := hes
            clear hes hcl
            go_wp2_with fail
            go_ret
            obtain ⟨h1, h2, h3, h4, h5, h6⟩ := HE.out
            exact ⟨_, rfl, es, h1, h2, by rw [h3, HW.out.2], by omega, by omega, by rw [← HM.out]; exact h5, below_chain HW.out.1 h6 HW.out.1.size⟩
end Go.Proofs.YtcimiajkbgabiaaGreat

namespace Go.Proofs.YtcimiajkbgabiaaGreat
open Go.RowKit
set_option linter.unusedVariables false
set_option linter.unusedSimpArgs false

theorem mul_val (V : Int) (X y L : Int) (i k : Nat) : V + 256 ^ i * (X * L) + 256 ^ (i + k) * (X * y) = V + 256 ^ i * (X * (L + 256 ^ k * y)) := by
  rw [Int.pow_add, Int.add_assoc, Int.mul_assoc, ← Int.mul_add, Int.mul_add X, Int.mul_left_comm (256 ^ k) X y]
theorem mul_row (A X L : Int) (i : Nat) : A * L + 256 ^ i * (X * L) = (A + 256 ^ i * X) * L := by
  rw [Int.add_mul, Int.mul_assoc]
theorem prod255 (x y : Int) (hx : 0 ≤ x ∧ x ≤ 255) (hy : 0 ≤ y ∧ y ≤ 255) : 0 ≤ x * y ∧ x * y ≤ 65025 := by
  refine ⟨Int.mul_nonneg hx.1 hy.1, ?_⟩
  have := Int.mul_le_mul hx.2 hy.2 hy.1 (by decide)
  simpa using this
set_option maxHeartbeats 4000000 in
set_option maxRecDepth 20000 in
theorem mul_any (ao bo : Option Addr) (n m c d : Nat) (xs ys : List Int) (w : World) (hx : SeenN w ao n xs) (hy : SeenN w bo m ys) (ha : Bytes xs) (hb : Bytes ys) (hn : n ≤ 100) (hm : m ≤ 20) :
    Calls Tryz.prog 94 #[.slice ao n c, .slice bo m d] w fun e w' => ∃ v, e = .returned v ∧ ∃ es, isN es v w' ∧ Bytes es ∧ le es = le xs * le ys ∧ n + m ≤ es.length ∧ es.length ≤ n + m + 6 ∧ Below w.heap.size w w' := by
  have HX : Hid (SeenN w ao n xs ∧ SeenN w bo m ys ∧ Bytes xs ∧ Bytes ys ∧ xs.length = n ∧ ys.length = m) := ⟨hx, hy, ha, hb, hx.len, hy.len⟩
  clear hx hy ha hb
  have hmk := run_makeN w (n + m) (by omega)
  have ec : ((n + m : Nat) : Int) = (n : Int) + (m : Int) := by omega
  rw [ec] at hmk
  obtain ⟨w1, hw1, HB⟩ : ∃ w1, w.alloc (.cells (i64s (List.replicate (n + m) 0)).toArray 3) = w1 ∧ Hid (RowN w1 w.heap.size (n + m) (List.replicate (n + m) 0) ∧ Below w.heap.size w w1 ∧ w1.heap.size = w.heap.size + 1) := ⟨_, rfl, ⟨by have := rowN_new w (List.replicate (n + m) 0); simpa using this, (Below.refl _ _).alloc (Nat.le_refl _) _, by simp⟩⟩
  rw [hw1] at hmk
  clear hw1 ec
  go_enter Tryz.func94, Tryz.ntmps94
  go_wp2_with fail
  go_loopw [6] (fun i wr => ∃ j : Nat, j ≤ n ∧ i = .int .i64 j ∧ ∃ L, SumAt w1 w.heap.size (n + m) wr L (65025 * ((j * 20 : Nat) : Int)) (le (xs.take j) * le ys)) (fun i _ => n - (intOf i).toNat)
  case atStart => exact ⟨0, Nat.zero_le _, rfl, _, HB.out.1, by simp, (fun y hy => by have := rep0_small _ y hy; omega), by rw [le_rep0]; simp [le], Kept.refl _ _⟩
  case round =>
    obtain ⟨j, hj, rfl, L, hL⟩ := hrel
    by_cases hlt : j < n
    · obtain ⟨b, o, rfl, hb, hc⟩ := HX.out.1.cells (by omega)
      obtain ⟨L0, HL0⟩ : ∃ L0, Hid (SumAt w1 w.heap.size (n + m) wr L0 (65025 * ((j * 20 : Nat) : Int)) (le (xs.take j) * le ys)) := ⟨L, hL⟩
      have HC : Hid ((∀ W, Kept (fun k => k = w.heap.size) w1 W → W.cell? ⟨b, o + j, none⟩ = some (.int .i64 (xs.getD j 0))) ∧ (0 ≤ xs.getD j 0 ∧ xs.getD j 0 ≤ 255) ∧ le (xs.take (j + 1)) = le (xs.take j) + 256 ^ j * xs.getD j 0) := ⟨fun W hW => (hW.cell (p := ⟨b, o + j, none⟩) (by show b < _; have := HB.out.2.2; omega) (by show ¬ b = _; omega)).trans ((HB.out.2.1.cell (p := ⟨b, o + j, none⟩) hb).trans (hc j hlt)), bytes_le HX.out.2.2.1 j (by rw [HX.out.2.2.2.2.1]; exact hlt), le_take_succ _ _ (by rw [HX.out.2.2.2.2.1]; exact hlt)⟩
      obtain ⟨X, hX⟩ : ∃ X, xs.getD j 0 = X := ⟨_, rfl⟩
      rw [hX] at HC
      have i1 : (0 : Int) ≤ (j : Int) := by omega
      have i2 : (j : Int) < (n : Int) := by omega
      clear hc hX hL
      obtain ⟨w3, hw3⟩ : ∃ W, W = wr := ⟨_, rfl⟩
      subst hw3
      go_wp2_with fail
      go_loopw [7] (fun i wr => ∃ k : Nat, k ≤ m ∧ i = .int .i64 k ∧ ∃ L, SumAt w1 w.heap.size (n + m) wr L (65025 * ((j * 20 + k : Nat) : Int)) (le (xs.take j) * le ys + 256 ^ j * (X * le (ys.take k)))) (fun i _ => m - (intOf i).toNat)
      case atStart => exact ⟨0, Nat.zero_le _, rfl, L0, HL0.out.row, HL0.out.len, HL0.out.bd, by rw [HL0.out.val]; simp [le], HL0.out.kept⟩
      case round =>
        obtain ⟨k, hk, rfl, L, hL⟩ := hrel
        by_cases hlm : k < m
        · obtain ⟨b2, o2, rfl, hb2, hc2⟩ := HX.out.2.1.cells (by omega)
          have hkL : j + k < L.length := by rw [hL.len]; omega
          have c0 := HC.out.1 wr hL.kept
          have c1 : wr.cell? ⟨b2, o2 + k, none⟩ = some (.int .i64 (ys.getD k 0)) := (hL.kept.cell (p := ⟨b2, o2 + k, none⟩) (by show b2 < _; have := HB.out.2.2; omega) (by show ¬ b2 = _; omega)).trans ((HB.out.2.1.cell (p := ⟨b2, o2 + k, none⟩) hb2).trans (hc2 k hlm))
          have c2 := hL.row.cell (j + k) hkL
          have f2 := hL.row.frozen (j + k)
          have bdX := HC.out.2.1
          have bdY := bytes_le HX.out.2.2.2.1 k (by rw [HX.out.2.2.2.2.2]; exact hlm)
          have bd1 := prod255 X (ys.getD k 0) bdX bdY
          have bd2 := hL.bd _ (List.getElem_mem hkL)
          have e2 : L[j + k] = L.getD (j + k) 0 := by simp [List.getD, hkL]
          rw [e2] at bd2
          have hpl := add_place hkL hL.bd bd1 (by omega)
          have HS : Hid (SumAt w1 w.heap.size (n + m) (wr.setCell ⟨w.heap.size, j + k, none⟩ (.int .i64 (L.getD (j + k) 0 + X * ys.getD k 0))).drew (L.set (j + k) (L.getD (j + k) 0 + X * ys.getD k 0)) (65025 * ((j * 20 + (k + 1) : Nat) : Int)) (le (xs.take j) * le ys + 256 ^ j * (X * le (ys.take (k + 1))))) :=
            ⟨(hL.row.set (j + k) hkL _).drew, by rw [hpl.1, hL.len], (fun y hy => by have := hpl.2.1 y hy; omega), by rw [hpl.2.2, hL.val, le_take_succ _ _ (by rw [HX.out.2.2.2.2.2]; exact hlm), mul_val], (hL.kept.setCell (S := fun k => k = w.heap.size) rfl _).drew⟩
          obtain ⟨Y, hY⟩ : ∃ Y, ys.getD k 0 = Y := ⟨_, rfl⟩
          obtain ⟨B, hB⟩ : ∃ B, L.getD (j + k) 0 = B := ⟨_, rfl⟩
          rw [hY] at c1 bd1 HS bdY
          rw [hB] at c2 bd2 HS
          have i3 : (0 : Int) ≤ (k : Int) := by omega
          have i4 : (k : Int) < (m : Int) := by omega
          have i5 : (j : Int) + (k : Int) < (n : Int) + (m : Int) := by omega
          have i6 : (0 : Int) ≤ (j : Int) + (k : Int) := by omega
          have w1' : IntKind.i64.wrap (X * Y) = X * Y := by rw [IntKind.wrap_i64]; omega
          have w2' : IntKind.i64.wrap (B + X * Y) = B + X * Y := by rw [IntKind.wrap_i64]; omega
          clear hc2 hY hB hL hpl e2 hkL
          go_wp2_with fail
          go_region
          all_goals
            go_wp2_with fail
            exact ⟨⟨k + 1, by omega, by go_num, _, HS.out⟩, by simp [intOf]; omega⟩
        · obtain rfl : m = k := by omega
          have HS : Hid (SumAt w1 w.heap.size (n + m) wr L (65025 * (((j + 1) * 20 : Nat) : Int)) (le (xs.take (j + 1)) * le ys)) :=
            ⟨hL.row, hL.len, (fun y hy => by have := hL.bd y hy; omega), by rw [hL.val, show ys.take m = ys from List.take_of_length_le (by rw [HX.out.2.2.2.2.2]; omega), mul_row, HC.out.2.2], hL.kept⟩
          clear hL
          go_wp2_with fail
          exact ⟨⟨j + 1, by omega, by go_num, _, HS.out⟩, by simp [intOf]; omega⟩
    · obtain rfl : n = j := by omega
      obtain ⟨L2, HL2⟩ : ∃ L2, Hid (SumAt w1 w.heap.size (n + m) wr L2 (65025 * ((n * 20 : Nat) : Int)) (le (xs.take n) * le ys)) := ⟨L, hL⟩
      have hsn : SeenN wr (some ⟨w.heap.size, 0, none⟩) (n + m) L2 := by
        have := HL2.out.row.seen (by rw [HL2.out.len]; omega) (fun d hd => by have := HL2.out.bd d hd; omega)
        rwa [HL2.out.len] at this
      have hcl := clean_any (some ⟨w.heap.size, 0, none⟩) (n + m) (n + m) L2 wr hsn (by omega)
      have HW : Hid (Below w.heap.size w wr ∧ le L2 = le xs * le ys) := ⟨below_kept HB.out.2.1 HL2.out.kept HB.out.2.1.size (fun j hj => by omega), by rw [HL2.out.val, List.take_of_length_le (by rw [HX.out.2.2.2.2.1]; omega)]⟩
      clear hsn hL
      go_wp2_with fail
      refine hcl.mono ?_
      rintro e w2 ⟨v, rfl, es, hes⟩
      have HE : Hid (isN es v w2 ∧ Bytes es ∧ le es = le L2 ∧ n + m ≤ es.length ∧ es.length ≤ n + m + 6 ∧ Below wr.heap.size wr w2) := hes
      clear hes hcl
      go_wp2_with fail
      go_ret
      obtain ⟨h1, h2, h3, h4, h5, h6⟩ := HE.out
      exact ⟨_, rfl, es, h1, h2, by rw [h3, HW.out.2], h4, h5, below_chain HW.out.1 h6 HW.out.1.size⟩
end Go.Proofs.YtcimiajkbgabiaaGreat

namespace Go.Proofs.YtcimiajkbgabiaaGreat
open Go.RowKit
set_option linter.unusedVariables false
set_option linter.unusedSimpArgs false

theorem le_dec {ds : List Int} (h : Bytes ds) : (∀ d ∈ ds, d = 0) ↔ le ds = 0 := (le_zero (bytes_nn h)).symm
set_option maxHeartbeats 1000000 in
set_option maxRecDepth 20000 in
theorem nought_any (ao : Option Addr) (n c : Nat) (ds : List Int) (w : World) (hx : SeenN w ao n ds) (hb : Bytes ds) :
    Calls Tryz.prog 110 #[.slice ao n c] w fun e w' => e = .returned (.bool (decide (le ds = 0))) ∧ w = w' := by
  have ht := hx.top
  have HX : Hid (SeenN w ao n ds ∧ Bytes ds ∧ ds.length = n) := ⟨hx, hb, hx.len⟩
  clear hx hb
  go_enter Tryz.func110, Tryz.ntmps110
  go_wp2_with fail
  go_loopw [3] (fun i wr => ∃ k : Nat, k ≤ n ∧ i = .int .i64 k ∧ wr = w ∧ ∀ j, j < k → ds.getD j 0 = 0) (fun i _ => n - (intOf i).toNat)
  case atStart => exact ⟨0, Nat.zero_le _, rfl, rfl, fun j hj => by omega⟩
  case round =>
    obtain ⟨k, hk, rfl, rfl, hz⟩ := hrel
    by_cases hlt : k < n
    · obtain ⟨b, o, rfl, hb, hc⟩ := HX.out.1.cells (by omega)
      have c1 := hc k hlt
      have i1 : (0 : Int) ≤ (k : Int) := by omega
      have i2 : (k : Int) < (n : Int) := by omega
      obtain ⟨D, HD⟩ : ∃ D, Hid (ds.getD k 0 = D) := ⟨_, rfl⟩
      rw [HD.out] at c1
      have HZ : Hid (∀ j, j < k → ds.getD j 0 = 0) := hz
      clear hc hz
      by_cases h0 : D = 0
      · subst h0
        go_wp2_with fail
        refine ⟨⟨k + 1, by omega, by go_num, by first | rfl | trivial, fun j hj => ?_⟩, by simp [intOf]; omega⟩
        rcases (by omega : j < k ∨ j = k) with h | rfl
        · exact HZ.out j h
        · exact HD.out
      · have q0 : (D != 0) = true := by simp [h0]
        have HE : Hid (decide (le ds = 0) = false) := by
          show _ = _
          apply decide_eq_false
          intro h
          have := (le_dec HX.out.2.1).2 h (ds.getD k 0) (by
            have e : ds.getD k 0 = ds[k]'(by rw [HX.out.2.2]; exact hlt) := by simp [List.getD, show k < ds.length by rw [HX.out.2.2]; exact hlt]
            rw [e]; exact List.getElem_mem _)
          rw [HD.out] at this
          exact h0 this
        clear h0
        go_wp2_with fail
        go_ret
        exact ⟨by rw [HE.out]; rfl, rfl⟩
    · obtain rfl : n = k := by omega
      have HE : Hid (decide (le ds = 0) = true) := by
        show _ = _
        apply decide_eq_true
        refine (le_dec HX.out.2.1).1 fun d hd => ?_
        obtain ⟨j, hj, rfl⟩ := List.getElem_of_mem hd
        have := hz j (by rw [← HX.out.2.2]; exact hj)
        simpa [List.getD, hj] using this
      clear hz
      go_wp2_with fail
      go_ret
      exact ⟨by rw [HE.out]; rfl, rfl⟩
theorem low_less (ds : List Int) (k : Nat) (hk : k < ds.length) (h : k < 16) : lowL (ds.take (k + 1)) = lowL (ds.take k) ++ [ds.getD k 0] := by
  have e : ds.getD k 0 = ds[k] := by simp [List.getD, hk]
  rw [e, lowL, lowL, List.length_take, List.length_take, if_neg (by omega), if_neg (by omega), List.append_nil, List.append_nil, List.take_take, List.take_take, Nat.min_eq_right (by omega), Nat.min_eq_right (by omega), List.take_succ_eq_append_getElem hk]
theorem low_at (ds : List Int) (hk : 16 < ds.length) : lowL (ds.take (16 + 1)) = lowL (ds.take 16) ++ [ds.getD 16 0 % 4] := by
  rw [lowL, lowL, List.length_take, List.length_take, if_pos (by omega), if_neg (by omega), List.append_nil, List.take_take, List.take_take]
  have e : (ds.take (16 + 1)).getD 16 0 = ds.getD 16 0 := by simp [List.getD]
  rw [e]; rfl
theorem low_more (ds : List Int) (k : Nat) (hk : k < ds.length) (h : 16 < k) : lowL (ds.take (k + 1)) = lowL (ds.take k) := by
  rw [lowL, lowL, List.length_take, List.length_take, if_pos (by omega), if_pos (by omega), List.take_take, List.take_take, Nat.min_eq_left (by omega), Nat.min_eq_left (by omega)]
  have e1 : (ds.take (k + 1)).getD 16 0 = ds.getD 16 0 := by simp [List.getD, List.getElem?_take, show 16 < k + 1 by omega]
  have e2 : (ds.take k).getD 16 0 = ds.getD 16 0 := by simp [List.getD, List.getElem?_take, h]
  rw [e1, e2]
theorem tq4 (c : Int) (h : 0 ≤ c) : c.tdiv 4 = c / 4 ∧ c.tmod 4 = c % 4 := ⟨Int.tdiv_eq_ediv_of_nonneg h, Int.tmod_eq_emod_of_nonneg h⟩
set_option maxHeartbeats 1000000 in
set_option maxRecDepth 20000 in
theorem part_low (ao : Option Addr) (n c : Nat) (ds : List Int) (w : World) (hx : SeenN w ao n ds) (hb : Bytes ds) :
    Calls Tryz.prog 109 #[.slice ao n c, .bool false] w fun e w' => ∃ v, e = .returned v ∧ isN (lowL ds) v w' ∧ Below w.heap.size w w' := by
  have ht := hx.top
  have HX : Hid (SeenN w ao n ds ∧ Bytes ds ∧ ds.length = n) := ⟨hx, hb, hx.len⟩
  obtain ⟨i0, hi, hz0, hz1, hz2⟩ := info_parts info_int
  clear hx hb
  go_enter Tryz.func109, Tryz.ntmps109
  go_wp2_with fail
  go_loopw [5, 6] (fun v i wr => ∃ k : Nat, k ≤ n ∧ i = .int .i64 k ∧ wr.ownsRow w.heap.size 3 1 v (lowL (ds.take k)).length (i64s (lowL (ds.take k))) ∧ Below w.heap.size w wr) (fun _ i _ => n - (intOf i).toNat)
  case atStart => exact ⟨0, Nat.zero_le _, rfl, World.ownsRow_nil _ _ _ _, Below.refl _ _⟩
  case round =>
    obtain ⟨k, hk, rfl, hown, hbel⟩ := hrel
    by_cases hlt : k < n
    · obtain ⟨b, o, rfl, hb, hc⟩ := HX.out.1.cells (by omega)
      have c1 := (hbel.cell (p := ⟨b, o + k, none⟩) hb).trans (hc k hlt)
      have hkd : k < ds.length := by rw [HX.out.2.2]; exact hlt
      have hD0 := HX.out.2.1.at k hkd
      have i1 : (0 : Int) ≤ (k : Int) := by omega
      have i2 : (k : Int) < (n : Int) := by omega
      have hsz := hbel.size
      have hll := lowL_length (ds.take k)
      rcases (by omega : k < 16 ∨ k = 16 ∨ 16 < k) with h16 | rfl | h16
      · have HE : Hid (lowL (ds.take (k + 1)) = lowL (ds.take k) ++ [ds.getD k 0]) := low_less ds k hkd h16
        have i3 : (k : Int) < 16 := by omega
        obtain ⟨D, hD⟩ : ∃ D, ds.getD k 0 = D := ⟨_, rfl⟩
        rw [hD] at c1 HE hD0
        generalize lowL (ds.take k) = Q at hown HE hll
        clear hc hD hkd
        go_wp2_with (at_builtin; refine wpList_append_own _ rfl _ _ 135 rfl w.heap.size 3 i0 (.int .i64 0) 1 8 Tryz.underlying135 hi hz0 hz1 hz2 rfl (by decide) _ _ _ rfl (hown.alloc _) ⟨wr.heap.size, 0, none⟩ 1 1 [.int .i64 D] rfl rfl ?c1 ?c2 ?c3 ?c4 ?c5 ?_)
        try case c1 => exact one_new _ _ _
        case c2 => first | rfl | (intro u hu; simp at hu; subst hu; rfl)
        case c3 => unfold maxLen; omega
        case c4 => omega
        case c5 => first | omega | (simp; omega)
        · intro v' w1 hown' hgrow _
          have R := ownN_more hbel hown hown' hgrow
          clear hown' hgrow hown hbel c1
          go_wp2_with fail
          exact ⟨⟨k + 1, by omega, by go_num, by rw [HE.out]; exact R.1, R.2⟩, by simp [intOf]; omega⟩
      · have HE : Hid (lowL (ds.take (16 + 1)) = lowL (ds.take 16) ++ [ds.getD 16 0 % 4]) := low_at ds hkd
        obtain ⟨D, hD⟩ : ∃ D, ds.getD 16 0 = D := ⟨_, rfl⟩
        rw [hD] at c1 HE hD0
        have q2 := (tq4 D hD0.1).2
        generalize lowL (ds.take 16) = Q at hown HE hll
        clear hc hD hkd
        go_wp2_with (at_builtin; refine wpList_append_own _ rfl _ _ 135 rfl w.heap.size 3 i0 (.int .i64 0) 1 8 Tryz.underlying135 hi hz0 hz1 hz2 rfl (by decide) _ _ _ rfl (hown.alloc _) ⟨wr.heap.size, 0, none⟩ 1 1 [.int .i64 (D % 4)] rfl rfl ?c1 ?c2 ?c3 ?c4 ?c5 ?_)
        try case c1 => exact one_new _ _ _
        case c2 => first | rfl | (intro u hu; simp at hu; subst hu; rfl)
        case c3 => unfold maxLen; omega
        case c4 => omega
        case c5 => first | omega | (simp; omega)
        · intro v' w1 hown' hgrow _
          have R := ownN_more hbel hown hown' hgrow
          clear hown' hgrow hown hbel c1
          go_wp2_with fail
          exact ⟨⟨16 + 1, by omega, by go_num, by rw [HE.out]; exact R.1, R.2⟩, by simp [intOf]; omega⟩
      · have HE : Hid (lowL (ds.take (k + 1)) = lowL (ds.take k)) := low_more ds k hkd h16
        have i3 : ¬ (k : Int) < 16 := by omega
        have i4 : ((k : Int) == 16) = false := by rw [beq_eq_false_iff_ne]; omega
        have HO : Hid (wr.ownsRow w.heap.size 3 1 u5 (lowL (ds.take k)).length (i64s (lowL (ds.take k))) ∧ Below w.heap.size w wr) := ⟨hown, hbel⟩
        clear hc hkd hown hbel c1
        go_wp2_with fail
        exact ⟨⟨k + 1, by omega, by go_num, by rw [HE.out]; exact HO.out.1, HO.out.2⟩, by simp [intOf]; omega⟩
    · obtain rfl : n = k := by omega
      have e : ds.take n = ds := List.take_of_length_le (by rw [HX.out.2.2]; omega)
      rw [e] at hown
      have HO : Hid (isN (lowL ds) u5 wr ∧ Below w.heap.size w wr) := ⟨isN_own rfl (by have := lowL_length ds; omega) (small_of_bytes (lowL_bytes ds HX.out.2.1)) hown, hbel⟩
      clear hown hbel e
      go_wp2_with fail
      go_ret
      exact ⟨_, rfl, HO.out⟩
end Go.Proofs.YtcimiajkbgabiaaGreat

namespace Go.Proofs.YtcimiajkbgabiaaGreat
open Go.RowKit
set_option linter.unusedVariables false
set_option linter.unusedSimpArgs false

def hiP (ds : List Int) (k : Nat) : List Int := highL ((ds.take k).drop 16)
theorem hiP_length (ds : List Int) (k : Nat) (hk : k ≤ ds.length) : (hiP ds k).length = k - 16 := by
  rw [hiP, highL_length, List.length_drop, List.length_take, Nat.min_eq_left hk]
theorem hiP_bytes (ds : List Int) (k : Nat) (h : Bytes ds) : Bytes (hiP ds k) := highL_bytes _ (bytes_drop (bytes_take h _) _)
theorem hiP_less (ds : List Int) (k : Nat) (h : k ≤ 16) : hiP ds k = [] := by
  rw [hiP, List.drop_eq_nil_of_le (by rw [List.length_take]; omega)]; rfl
theorem hiP_at (ds : List Int) (hk : 16 < ds.length) : hiP ds (16 + 1) = hiP ds 16 ++ [ds.getD 16 0 / 4] := by
  rw [hiP_less ds 16 (by omega), hiP, List.take_succ_eq_append_getElem hk, List.drop_append_of_le_length (by rw [List.length_take]; omega), List.drop_eq_nil_of_le (by rw [List.length_take]; omega)]
  simp [highL, List.getD, hk]
theorem hiP_more (ds : List Int) (k : Nat) (hk : k < ds.length) (h : 16 < k) : hiP ds (k + 1) = (hiP ds k).set (k - 17) ((hiP ds k).getD (k - 17) 0 + ds.getD k 0 % 4 * 64) ++ [ds.getD k 0 / 4] := by
  have e : ds.getD k 0 = ds[k] := by simp [List.getD, hk]
  have hl : ((ds.take k).drop 16).length = k - 16 := by rw [List.length_drop, List.length_take, Nat.min_eq_left (by omega)]
  rw [hiP, List.take_succ_eq_append_getElem hk, List.drop_append_of_le_length (by rw [List.length_take]; omega), highL_snoc _ _ (by omega), hl, e]
  rfl
set_option maxHeartbeats 2000000 in
set_option maxRecDepth 20000 in
theorem part_high (ao : Option Addr) (n c : Nat) (ds : List Int) (w : World) (hx : SeenN w ao n ds) (hb : Bytes ds) :
    Calls Tryz.prog 109 #[.slice ao n c, .bool true] w fun e w' => ∃ v, e = .returned v ∧ isN (highL (ds.drop 16)) v w' ∧ Below w.heap.size w w' := by
  have ht := hx.top
  have HX : Hid (SeenN w ao n ds ∧ Bytes ds ∧ ds.length = n) := ⟨hx, hb, hx.len⟩
  obtain ⟨i0, hi, hz0, hz1, hz2⟩ := info_parts info_int
  clear hx hb
  go_enter Tryz.func109, Tryz.ntmps109
  go_wp2_with fail
  go_loopw [5, 6] (fun v i wr => ∃ k : Nat, k ≤ n ∧ i = .int .i64 k ∧ wr.ownsRow w.heap.size 3 1 v (hiP ds k).length (i64s (hiP ds k)) ∧ Below w.heap.size w wr) (fun _ i _ => n - (intOf i).toNat)
  case atStart => exact ⟨0, Nat.zero_le _, rfl, by rw [hiP_less ds 0 (by omega)]; exact World.ownsRow_nil _ _ _ _, Below.refl _ _⟩
  case round =>
    obtain ⟨k, hk, rfl, hown, hbel⟩ := hrel
    by_cases hlt : k < n
    · obtain ⟨b, o, rfl, hb, hc⟩ := HX.out.1.cells (by omega)
      have c1 := (hbel.cell (p := ⟨b, o + k, none⟩) hb).trans (hc k hlt)
      have hkd : k < ds.length := by rw [HX.out.2.2]; exact hlt
      have hD0 := HX.out.2.1.at k hkd
      have i1 : (0 : Int) ≤ (k : Int) := by omega
      have i2 : (k : Int) < (n : Int) := by omega
      have hsz := hbel.size
      have hll := hiP_length ds k (by omega)
      rcases (by omega : k < 16 ∨ k = 16 ∨ 16 < k) with h16 | rfl | h16
      · have HE : Hid (hiP ds (k + 1) = hiP ds k) := by
          show _ = _
          rw [hiP_less ds k (by omega), hiP_less ds (k + 1) (by omega)]
        have i3 : (k : Int) < 16 := by omega
        have i4 : ((k : Int) == 16) = false := by rw [beq_eq_false_iff_ne]; omega
        have i5 : ¬ (16 : Int) < (k : Int) := by omega
        have HO : Hid (wr.ownsRow w.heap.size 3 1 u5 (hiP ds k).length (i64s (hiP ds k)) ∧ Below w.heap.size w wr) := ⟨hown, hbel⟩
        clear hc hkd hown hbel c1 hll
        go_wp2_with fail
        exact ⟨⟨k + 1, by omega, by go_num, by rw [HE.out]; exact HO.out.1, HO.out.2⟩, by simp [intOf]; omega⟩
      · have HE : Hid (hiP ds (16 + 1) = hiP ds 16 ++ [ds.getD 16 0 / 4]) := hiP_at ds hkd
        obtain ⟨D, hD⟩ : ∃ D, ds.getD 16 0 = D := ⟨_, rfl⟩
        rw [hD] at c1 HE hD0
        have q2 := (tq4 D hD0.1).1
        generalize hiP ds 16 = Q at hown HE hll
        have HLL : Hid (Q.length = 16 - 16) := hll
        clear hc hD hkd hll
        go_wp2_with (at_builtin; refine wpList_append_own _ rfl _ _ 135 rfl w.heap.size 3 i0 (.int .i64 0) 1 8 Tryz.underlying135 hi hz0 hz1 hz2 rfl (by decide) _ _ _ rfl (hown.alloc _) ⟨wr.heap.size, 0, none⟩ 1 1 [.int .i64 (D / 4)] rfl rfl ?c1 ?c2 ?c3 ?c4 ?c5 ?_)
        try case c1 => exact one_new _ _ _
        case c2 => first | rfl | (intro u hu; simp at hu; subst hu; rfl)
        case c3 => have := HLL.out; unfold maxLen; omega
        case c4 => have := HLL.out; omega
        case c5 => have := HLL.out; first | omega | (simp; omega)
        · intro v' w1 hown' hgrow _
          have R := ownN_more hbel hown hown' hgrow
          clear hown' hgrow hown hbel c1
          go_wp2_with fail
          exact ⟨⟨16 + 1, by omega, by go_num, by rw [HE.out]; exact R.1, R.2⟩, by simp [intOf]; omega⟩
      · have HE := hiP_more ds k hkd h16
        obtain ⟨D, hD⟩ : ∃ D, ds.getD k 0 = D := ⟨_, rfl⟩
        rw [hD] at c1 HE hD0
        have HQ : Hid (Bytes (hiP ds k)) := hiP_bytes ds k HX.out.2.1
        obtain ⟨Q, hQ⟩ : ∃ Q, hiP ds k = Q := ⟨_, rfl⟩
        rw [hQ] at hown HE hll HQ
        rcases ownN rfl hown with ⟨_, h0, _⟩ | ⟨g, cap, rfl, hr, hg, hcap, hmax⟩
        · exfalso; omega
        obtain ⟨P, hP⟩ : ∃ P, k = P + 17 := ⟨k - 17, by omega⟩
        have hkP : k - 17 = P := by omega
        rw [hkP] at HE
        have hPl : P < Q.length := by omega
        have cQ := hr.cell P hPl
        have fQ := hr.frozen P
        have bQ := HQ.out.at P hPl
        have hgl := hr.lt
        obtain ⟨Z, hZ⟩ : ∃ Z, Q.getD P 0 = Z := ⟨_, rfl⟩
        rw [hZ] at cQ HE bQ
        have q1 := (tq4 D hD0.1).1
        have q2 := (tq4 D hD0.1).2
        have i3 : ¬ (k : Int) < 16 := by omega
        have i4 : ((k : Int) == 16) = false := by rw [beq_eq_false_iff_ne]; omega
        have i5 : (16 : Int) < (k : Int) := by omega
        have i6 : (k : Int) - 17 = (P : Int) := by omega
        have i7 : (0 : Int) ≤ (P : Int) := by omega
        have i8 : (P : Int) < (Q.length : Int) := by omega
        have w0' : IntKind.i64.wrap ((k : Int) - 17) = (P : Int) := by rw [IntKind.wrap_i64]; omega
        have w1' : IntKind.i64.wrap (D % 4 * 64) = D % 4 * 64 := by rw [IntKind.wrap_i64]; omega
        have w2' : IntKind.i64.wrap (Z + D % 4 * 64) = Z + D % 4 * 64 := by rw [IntKind.wrap_i64]; omega
        have hrs := (hr.set P hPl (Z + D % 4 * 64)).drew
        have hbs : Below w.heap.size w (wr.setCell ⟨g, P, none⟩ (.int .i64 (Z + D % 4 * 64))).drew := below_kept hbel (((Kept.refl (fun x => x = g) wr).setCell (p := ⟨g, P, none⟩) rfl _).drew) hbel.size (fun j hj => by omega)
        have cD : (wr.setCell ⟨g, P, none⟩ (.int .i64 (Z + D % 4 * 64))).drew.cell? ⟨b, o + k, none⟩ = some (.int .i64 D) := by
          refine Eq.trans ?_ c1
          exact (((Kept.refl (fun x => x = g) wr).setCell (p := ⟨g, P, none⟩) rfl _).drew).cell (p := ⟨b, o + k, none⟩) (by show b < _; omega) (by show ¬ b = g; omega)
        obtain ⟨W, hW⟩ : ∃ W, (wr.setCell ⟨g, P, none⟩ (.int .i64 (Z + D % 4 * 64))).drew = W := ⟨_, rfl⟩
        rw [hW] at hrs hbs cD
        have HW : Hid ((wr.setCell ⟨g, P, none⟩ (.int .i64 (Z + D % 4 * 64))).drew = W) := hW
        have hown2 := hrs.own (base := w.heap.size) (n := (Q.set P (Z + D % 4 * 64)).length) rfl hg hmax
        rw [show (Q.set P (Z + D % 4 * 64)).length = Q.length by simp] at hown2
        have HE2 : Hid (hiP ds (k + 1) = Q.set P (Z + D % 4 * 64) ++ [D / 4] ∧ hiP ds k = Q ∧ k = P + 17) := ⟨HE, hQ, hP⟩
        have HLL : Hid (Q.length = k - 16) := hll
        clear hc hkd hown hD hQ HE hr hW hZ hP hkP hgl hll
        go_wp2_with fail
        go_region
        all_goals
          rw [HW.out]
          have hsW := hbs.size
          go_wp2_with (at_builtin; refine wpList_append_own _ rfl _ _ 135 rfl w.heap.size 3 i0 (.int .i64 0) 1 8 Tryz.underlying135 hi hz0 hz1 hz2 rfl (by decide) _ _ _ rfl (hown2.alloc _) ⟨W.heap.size, 0, none⟩ 1 1 [.int .i64 (D / 4)] rfl rfl ?c1 ?c2 ?c3 ?c4 ?c5 ?_)
          try case c1 => exact one_new _ _ _
          case c2 => first | rfl | (intro u hu; simp at hu; subst hu; rfl)
          case c3 => have := HLL.out; unfold maxLen; omega
          case c4 => have := HLL.out; omega
          case c5 => have := HLL.out; first | omega | (simp; omega)
          · intro v' w1 hown' hgrow _
            rw [show Q.length = (Q.set P (Z + D % 4 * 64)).length by simp] at hown2 hown'
            have R := ownN_more hbs hown2 hown' hgrow
            clear hown' hgrow hown2 hbel c1 hbs
            go_wp2_with fail
            exact ⟨⟨k + 1, by omega, by go_num, by rw [HE2.out.1]; exact R.1, R.2⟩, by simp [intOf]; omega⟩
    · obtain rfl : n = k := by omega
      have hll := hiP_length ds n (by rw [HX.out.2.2]; omega)
      have e : hiP ds n = highL (ds.drop 16) := by rw [hiP, List.take_of_length_le (by rw [HX.out.2.2]; omega)]
      have hby := hiP_bytes ds n HX.out.2.1
      rw [e] at hown hby hll
      have HO : Hid (isN (highL (ds.drop 16)) u5 wr ∧ Below w.heap.size w wr) := ⟨isN_own rfl (by omega) (small_of_bytes hby) hown, hbel⟩
      clear hown hbel e hby hll
      go_wp2_with fail
      go_ret
      exact ⟨_, rfl, HO.out⟩
end Go.Proofs.YtcimiajkbgabiaaGreat
