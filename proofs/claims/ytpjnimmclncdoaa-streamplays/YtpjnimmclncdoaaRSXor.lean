/- The document's streams: New, Xor. -/
import Derived.Test.YtpjnimmclncdoaaRSBlock
import Derived.Test.YtpjnimmclncdoaaLOver
import Derived.Test.YtpjnimmclncdoaaDHeld
import Derived.Test.YtpjnimmclncdoaaTRows
namespace Go.Proofs.Ytpjnimmclncdoaa
open Go.RowKit
set_option linter.unusedVariables false
set_option linter.unusedSimpArgs false

/-- A stream in block g: its key, its nonce, its place. -/
structure RtAt (w : World) (g : Nat) (key nonce : List Int) (P : Nat) : Prop where
  blk : Blk w g 39 (sCells key nonce P)
  k32 : key.length = 32
  n12 : nonce.length = 12
  kb : Bytes key
  nb : Bytes nonce
  top : P ≤ 274877906944
theorem rbuild_s0 (f g : Nat → Int) (P : Int) (w : World) : (Instr.build 39 #[(0, .agg (u8s ((List.range 32).map f)).toArray), (1, .agg (u8s ((List.range 12).map g)).toArray), (2, .int .u64 P)]).run Try.prog w = .ok (.agg (sCells ((List.range 32).map f) ((List.range 12).map g) P).toArray) w := by kernel_rfl
theorem rbuild_s (key nonce : List Int) (hk : key.length = 32) (hn : nonce.length = 12) (P : Int) (w : World) : (Instr.build 39 #[(0, .agg (u8s key).toArray), (1, .agg (u8s nonce).toArray), (2, .int .u64 P)]).run Try.prog w = .ok (.agg (sCells key nonce P).toArray) w := by
  rw [list_range key 32 hk, list_range nonce 12 hn]
  exact rbuild_s0 _ _ P w
set_option maxRecDepth 20000 in
set_option maxHeartbeats 1000000 in
theorem rsnew_any (key : List Int) (ctr : Nat) (nonce : List Int) (hk : key.length = 32) (hn : nonce.length = 12) (hkb : Bytes key) (hnb : Bytes nonce) (hc : ctr < 4294967296) (w : World) :
    Calls Try.prog 5 #[.agg (u8s key).toArray, .agg (u8s nonce).toArray, .int .u32 ctr] w fun e w' => ∃ g, e = .returned (.pointer (some ⟨g, 0, none⟩)) ∧ w.heap.size ≤ g ∧ RtAt w' g key nonce (64 * ctr) ∧ Below w.heap.size w w' := by
  have HS : Hid (key.length = 32 ∧ nonce.length = 12 ∧ Bytes key ∧ Bytes nonce) := ⟨hk, hn, hkb, hnb⟩
  clear hk hn hkb hnb
  have v1 : IntKind.u64.wrap (ctr : Int) = (ctr : Int) := by simp only [IntKind.wrap, IntKind.bits, IntKind.signed]; simp; omega
  have v2 : IntKind.u64.wrap (64 * (ctr : Int)) = 64 * (ctr : Int) := by simp only [IntKind.wrap, IntKind.bits, IntKind.signed]; simp; omega
  go_enter Try.func5, Try.ntmps5
  go_wp2_with (first | ((with_reducible show wpList _ _ _ ({ dst := some 12, op := _, type := _, pos := _, after := _, guard := _ } :: _) _ _); refine Hid.out ?_) | (refine wpList_box_new rfl 23 _ rfl (u8s key) rfl ?_; intro w1 b1 s1 l1) | (refine wpList_box_new rfl 25 _ rfl (u8s nonce) rfl ?_; intro w2 b2 s2 l2) | (refine wpList_load_blk rfl 23 _ rfl _ rfl (u8s key) _ (by first | exact b1.later l2 (by omega)) Try.underlying23 rfl (by rw [u8s_length, HS.out.1]; exact sizeKey) ?_) | (refine wpList_load_blk rfl 25 _ rfl _ rfl (u8s nonce) _ (by first | exact b2 | (rw [← s1]; exact b2)) Try.underlying25 rfl (by rw [u8s_length, HS.out.2.1]; exact sizeNonce) ?_) | ((with_reducible show wpList _ _ _ ({ dst := some 9, op := _, type := _, pos := _, after := _, guard := _ } :: _) _ _); refine wpList_yield rfl (.int .u32 (ctr : Int)) rfl ?_) | ((with_reducible show wpList _ _ _ ({ dst := some 10, op := _, type := _, pos := _, after := _, guard := _ } :: _) _ _); refine wpList_yield rfl (.int .u64 (ctr : Int)) (by go_simp) ?_) | ((with_reducible show wpList _ _ _ ({ dst := some 11, op := _, type := _, pos := _, after := _, guard := _ } :: _) _ _); refine wpList_yield rfl (.int .u64 (64 * (ctr : Int))) (by go_simp) ?_) | (refine wpList_build rfl 39 _ rfl #[(0, .agg (u8s key).toArray), (1, .agg (u8s nonce).toArray), (2, .int .u64 (64 * (ctr : Int)))] rfl _ (rbuild_s key nonce HS.out.1 HS.out.2.1 _ _) ?_) | (refine wpList_box_new rfl 39 _ rfl (sCells key nonce (64 * (ctr : Int))) rfl ?_; intro w3 b3 s3 l3) | (refine wpList_alloc_new rfl 39 rfl 45 _ zeroStrm ?_; intro w4 b4 s4 l4) | (refine wpList_store_blk rfl 39 39 _ _ rfl _ rfl _ (sCells key nonce (64 * (ctr : Int))) rfl b4 (by rw [sCells_length _ _ _ HS.out.1 HS.out.2.1]; rfl) (by rw [sCells_length _ _ _ HS.out.1 HS.out.2.1]; exact sizeStrm) (sCells_one _ _ _) ?_; intro w5 b5 s5 k5))
  change wpList _ _ _ _ _ _
  refine wpList_build rfl 39 _ rfl #[(0, .agg (u8s key).toArray), (1, .agg (u8s nonce).toArray), (2, .int .u64 (64 * (ctr : Int)))] (by simp [Act.eval]) _ (rbuild_s key nonce HS.out.1 HS.out.2.1 _ _) ?_
  go_wp2_with (first | (refine wpList_box_new rfl 39 _ rfl (sCells key nonce (64 * (ctr : Int))) rfl ?_; intro w3 b3 s3 l3))
  go_ret
  refine ⟨w2.heap.size, by simp [s1, s2], by omega, ⟨by simpa using b3, HS.out.1, HS.out.2.1, HS.out.2.2.1, HS.out.2.2.2, by omega⟩, below_chain (below_chain l1 l2 (by omega)) l3 (by omega)⟩
theorem RtAt.place {w : World} {g : Nat} {key nonce : List Int} {P : Nat} (h : RtAt w g key nonce P) : w.cell? ⟨g, 44, none⟩ = some (.int .u64 P) := by
  rw [h.blk.cell, sCells, List.getElem?_append_right (by rw [u8s_length, h.k32]; decide), u8s_length, h.k32, List.getElem?_append_right (by rw [u8s_length, h.n12]; decide), u8s_length, h.n12]; rfl
theorem RtAt.frozen {w : World} {g : Nat} {key nonce : List Int} {P : Nat} (h : RtAt w g key nonce P) (j : Nat) : w.frozen? ⟨g, j, none⟩ = false := h.blk.frozen j
theorem RtAt.lt {w : World} {g : Nat} {key nonce : List Int} {P : Nat} (h : RtAt w g key nonce P) : g < w.heap.size := h.blk.lt
theorem RtAt.later {w w' : World} {g : Nat} {key nonce : List Int} {P : Nat} (h : RtAt w g key nonce P) {B : Nat} (hb : Below B w w') (hB : g < B) : RtAt w' g key nonce P := ⟨h.blk.later hb hB, h.k32, h.n12, h.kb, h.nb, h.top⟩
theorem RtAt.kept {S : Nat → Prop} {w w' : World} {g : Nat} {key nonce : List Int} {P : Nat} (h : RtAt w g key nonce P) (hk : Kept S w w') (hS : ¬ S g) : RtAt w' g key nonce P := ⟨h.blk.kept hk hS, h.k32, h.n12, h.kb, h.nb, h.top⟩
theorem RtAt.drew {w : World} {g : Nat} {key nonce : List Int} {P : Nat} (h : RtAt w g key nonce P) : RtAt w.drew g key nonce P := ⟨h.blk.drew, h.k32, h.n12, h.kb, h.nb, h.top⟩
theorem RtAt.drewN {w : World} {g : Nat} {key nonce : List Int} {P : Nat} (h : RtAt w g key nonce P) (n : Nat) : RtAt (w.drewN n) g key nonce P := ⟨h.blk.drewN n, h.k32, h.n12, h.kb, h.nb, h.top⟩
theorem RtAt.move {w : World} {g : Nat} {key nonce : List Int} {P : Nat} (h : RtAt w g key nonce P) (P' : Nat) (ht : P' ≤ 274877906944) : RtAt (w.setCell ⟨g, 44, none⟩ (.int .u64 P')) g key nonce P' := by
  refine ⟨?_, h.k32, h.n12, h.kb, h.nb, ht⟩
  have h1 := h.blk.set 44 (.int .u64 P')
  have e : (sCells key nonce P).set 44 (.int .u64 P') = sCells key nonce P' := by
    rw [sCells, List.set_append_right _ _ (by rw [u8s_length, h.k32]; decide), u8s_length, h.k32, List.set_append_right _ _ (by rw [u8s_length, h.n12]; decide), u8s_length, h.n12]; rfl
  rwa [e] at h1
theorem RtAt.key {w : World} {g : Nat} {key nonce : List Int} {P : Nat} (h : RtAt w g key nonce P) : w.rangeAt g 0 (u8s key) := by
  have := Blk.range (xs := []) (ys := u8s key) (zs := u8s nonce ++ [Value.int .u64 P]) h.blk
  simpa using this
theorem RtAt.nonce {w : World} {g : Nat} {key nonce : List Int} {P : Nat} (h : RtAt w g key nonce P) : w.rangeAt g 32 (u8s nonce) := by
  have := Blk.range (xs := u8s key) (ys := u8s nonce) (zs := [Value.int .u64 P]) h.blk
  rwa [u8s_length, h.k32] at this
theorem rstep_append {ops : Array Oper} {o : Oper} {a : Act} {K : Act → World → Prop} {Q : Exit → Act → World → Prop} {E : Prop} {w : World} (hgd : o.guard = none) (s x : Operand)
    (ho : o.op = .call { callee := .builtin .append, args := #[s, x], argTypes := #[41, 41] }) (base : Nat) (v : Value) (n : Nat) (xs : List Value) (hs : a.eval s = v) (hown : w.ownsRow base 5 1 v n xs)
    (ao : Option Addr) (m c : Nat) (zs : List Int) (hx : a.eval x = .slice ao m c) (hsn : Seen w ao m zs) (hc : ao = none → c = 0) (hb : n + m ≤ 140737488355328) (hbase : base ≤ w.heap.size)
    (h : ∀ v' w', w'.ownsRow base 5 1 v' (n + m) (xs ++ zs.map (Value.int .u8)) → w.grownBy w' v.ownBlock → K (a.put o.dst v') w') :
    if Region.wanted o (yielded ops a.tmps) = true then Oper.wp Try.prog o a w K Q else E := by
  have hw : Region.wanted o (yielded ops a.tmps) = true := by simp [Region.wanted, hgd]
  rw [if_pos hw]
  obtain ⟨i0, hi, hz0, hz1, hz2⟩ := info_parts info_byte
  cases ao with
  | none =>
    obtain ⟨rfl, rfl⟩ := seen_nil hsn
    obtain rfl := hc rfl
    have hrun := run_append_owned_none (P := Try.prog) (w := w) base 41 o.type 5 i0 1 Try.underlying41 hi v n xs hown
    have h' := h v w (by simpa using hown) ⟨rfl, rfl, rfl, Nat.le_refl _, fun _ _ _ => rfl⟩
    unfold Oper.wp
    simp [execOp, ho, resolve, invoke, builtin, hs, hx, hrun, Result.andThen]
    exact h'
  | some ad =>
    refine wp_append_own w s x 41 ho base 5 i0 (.int .u8 0) 1 1 Try.underlying41 hi hz0 hz1 hz2 rfl (by decide) v n xs hs hown ad m c (zs.map (Value.int .u8)) hx ?_ (seen_news hsn rfl) (one_bytes zs) ?_ ?_ hbase (fun v' w' h1 h2 _ => h v' w' h1 h2)
    · rw [List.length_map, hsn.len, Nat.mul_one]
    · unfold maxLen; omega
    · omega
/-- The document's bytes laid over. -/
theorem kept_below {S : Nat → Prop} {a b c : World} {B : Nat} (hk : Kept S a b) (hb : Below B b c) (hB : a.heap.size ≤ B) : Kept S a c :=
  ⟨hb.os.trans hk.os, hb.tape.trans hk.tape, hb.output.trans hk.output, Nat.le_trans hk.size hb.size, fun j hj hs => (hb.block j (Nat.lt_of_lt_of_le hj hB)).trans (hk.block j hj hs)⟩
theorem getD_get {xs : List Int} {k : Nat} {d : Int} (h : xs.getD k 0 = d) (hk : k < xs.length) : xs[k] = d := by
  rw [← h, List.getD, List.getElem?_eq_getElem hk]; rfl
theorem xor32_8 (a b : Int) (ha : 0 ≤ a ∧ a < 256) (hb : 0 ≤ b ∧ b < 256) : bits .xor .u32 a b = bits .xor .u8 a b ∧ (0 ≤ bits .xor .u8 a b ∧ bits .xor .u8 a b < 256) := by
  have h1 : a.toNat ^^^ b.toNat < 2 ^ 8 := Nat.xor_lt_two_pow (by omega) (by omega)
  rw [u8_xor a b ha.1 ha.2 hb.1 hb.2, u32_xor a b ha.1 (by omega) hb.1 (by omega)]
  exact ⟨rfl, by omega, by omega⟩
set_option maxRecDepth 20000 in
set_option maxHeartbeats 1000000 in
theorem rsxor_bad (g : Nat) (key nonce : List Int) (P n c : Nat) (ao : Option Addr) (hn : n ≤ 140737488355328) (hc : 274877906944 < n + P) (w : World) (h : RtAt w g key nonce P) :
    Calls Try.prog 10 #[.pointer (some ⟨g, 0, none⟩), .slice ao n c] w fun e w' => e = .returned (.tuple #[.slice none 0 0, .int .i64 50]) ∧ w = w' := by
  have c1 := h.place
  have ht := h.top
  have v1 : IntKind.u64.wrap (n : Int) = (n : Int) := by simp only [IntKind.wrap, IntKind.bits, IntKind.signed]; simp; omega
  have v2 : IntKind.u64.wrap (274877906944 - (P : Int)) = 274877906944 - (P : Int) := by simp only [IntKind.wrap, IntKind.bits, IntKind.signed]; simp; omega
  have i1 : 274877906944 - (P : Int) < (n : Int) := by omega
  clear h
  go_enter Try.func10, Try.ntmps10
  go_wp2_with fail
  go_ret2
  exact ⟨rfl, rfl⟩
theorem own_keptG {w w' : World} {base n G : Nat} {v : Value} {xs : List Value} (h : w.ownsRow base 5 1 v n xs) (hk : Kept (fun x => x = G) w w') (hp : ∀ j, v.ownBlock = some j → j ≠ G) : w'.ownsRow base 5 1 v n xs := by
  refine ⟨h.1, ?_⟩
  rcases h.2 with h2 | ⟨g, cap, cur, rfl, hg, hh, r⟩
  · exact .inl h2
  · exact .inr ⟨g, cap, cur, rfl, hg, by rw [hk.block g (lt_of_block hh) (hp g rfl)]; exact hh, r⟩
theorem own_other {w : World} {base n : Nat} {v : Value} {xs : List Value} (h : w.ownsRow base 5 1 v n xs) {p : Addr} (hp : ∀ j, v.ownBlock = some j → p.block ≠ j) (u : Value) : (w.setCell p u).ownsRow base 5 1 v n xs := by
  refine ⟨h.1, ?_⟩
  rcases h.2 with h2 | ⟨g, cap, cur, rfl, hg, hh, r⟩
  · exact .inl h2
  · exact .inr ⟨g, cap, cur, rfl, hg, by rw [Below.heap_setCell _ _ _ _ (fun e => hp g rfl e.symm)]; exact hh, r⟩
set_option maxRecDepth 20000 in
set_option maxHeartbeats 4000000 in
theorem rsxor_any (g : Nat) (key nonce : List Int) (P n c : Nat) (ao : Option Addr) (zs : List Int) (hc : n + P ≤ 274877906944) (w : World) (h : RtAt w g key nonce P) (hx : Seen w ao n zs) :
    Calls Try.prog 10 #[.pointer (some ⟨g, 0, none⟩), .slice ao n c] w fun e w' => ∃ v, e = .returned (.tuple #[v, .int .i64 0]) ∧ w'.ownsRow w.heap.size 5 1 v n ((over key nonce P zs).map (Value.int .u8)) ∧ RtAt w' g key nonce (P + n) ∧ Kept (fun b => b = g) w w' := by
  have ht := h.top
  have hgl := h.lt
  have v1 : IntKind.u64.wrap (n : Int) = (n : Int) := by simp only [IntKind.wrap, IntKind.bits, IntKind.signed]; simp; omega
  have v2 : IntKind.u64.wrap (274877906944 - (P : Int)) = 274877906944 - (P : Int) := by simp only [IntKind.wrap, IntKind.bits, IntKind.signed]; simp; omega
  have i0 : ¬ 274877906944 - (P : Int) < (n : Int) := by omega
  have c0 := h.place
  have HX : Hid (RtAt w g key nonce P ∧ Seen w ao n zs ∧ zs.length = n ∧ Bytes zs) := ⟨h, hx, hx.len, hx.bytes⟩
  obtain ⟨V, hV⟩ : ∃ V, over key nonce P zs = V := ⟨_, rfl⟩
  have HV : Hid (V.length = n ∧ ∀ k, k < n → V.getD k 0 = bits .xor .u8 (zs.getD k 0) (ks key nonce (P + k))) := ⟨by rw [← hV, over_length, hx.len], fun k hk => by rw [← hV]; exact over_at _ _ _ _ _ (by rw [hx.len]; exact hk)⟩
  rw [hV]
  clear h hx hV
  have uK : (Try.prog.info? 23).map (·.size) = some (u8s key).length := by rw [u8s_length, HX.out.1.k32]; exact sizeKey
  have uN : (Try.prog.info? 25).map (·.size) = some (u8s nonce).length := by rw [u8s_length, HX.out.1.n12]; exact sizeNonce
  have uB : (Try.prog.info? 57).map (·.size) = some 64 := by kernel_rfl
  go_enter Try.func10, Try.ntmps10
  go_wp2_with (first | (refine wpList_alloc_new rfl 57 rfl 64 _ zero64b ?_; intro w1 b1 s1 l1))
  obtain ⟨G, hG⟩ : ∃ G, w.heap.size = G := ⟨_, rfl⟩
  have H1 : Hid (RtAt w1 g key nonce P ∧ Seen w1 ao n zs ∧ Blk w1 G 57 (u8s (zs0 64)) ∧ Below w.heap.size w w1 ∧ w1.heap.size = G + 1 ∧ g < G ∧ w.heap.size = G) := by
    rw [← hG]
    exact ⟨HX.out.1.later l1 hgl, HX.out.2.1.later l1 (Nat.le_refl _), b1, l1, s1, hgl, rfl⟩
  rw [hG]
  clear b1 s1 l1 hG c0 hgl
  go_loopw [6, 8] (fun v i wr => ∃ k : Nat, k ≤ n ∧ i = .int .i64 k ∧ wr.ownsRow (G + 1) 5 1 v k ((V.map (Value.int .u8)).take k) ∧ (∃ X, X.length = 64 ∧ Bytes X ∧ Blk wr G 57 (u8s X) ∧ (0 < k → X = blkB key (((P + k - 1) / 64 : Nat) : Int) nonce)) ∧ Kept (fun x => x = G) w1 wr) (fun _ i _ => n - (intOf i).toNat)
  case atStart => exact ⟨0, Nat.zero_le _, rfl, World.ownsRow_nil _ _ _ _, ⟨zs0 64, by rw [zs0_length], zs0_bytes _, H1.out.2.2.1, fun h => by omega⟩, Kept.refl _ _⟩
  case round =>
    obtain ⟨k, hk, rfl, hown, ⟨X, hXl, hXb, hXB, hXk⟩, hkp⟩ := hrel
    have hlo := H1.out.2.2.2.2.2.1
    have hs1 := H1.out.2.2.2.2.1
    have hR := H1.out.1.kept hkp (by omega)
    have hsz := hkp.size
    by_cases hlt : k < n
    · obtain ⟨b, o, rfl, hb, hcl⟩ := HX.out.2.1.cells (by omega)
      have c1 : wr.cell? ⟨b, o + k, none⟩ = some (.int .u8 (zs.getD k 0)) := (hkp.cell (p := ⟨b, o + k, none⟩) (by show b < _; have := H1.out.2.2.2.2.2.2; omega) (by show ¬ b = G; have := H1.out.2.2.2.2.2.2; omega)).trans ((H1.out.2.2.2.1.cell (p := ⟨b, o + k, none⟩) hb).trans (hcl k hlt))
      have cP := hR.place
      have bZ := HX.out.2.2.2.at k (by rw [HX.out.2.2.1]; exact hlt)
      have hVk := HV.out.2 k hlt
      obtain ⟨Z, hZ⟩ : ∃ Z, zs.getD k 0 = Z := ⟨_, rfl⟩
      rw [hZ] at c1 bZ hVk
      obtain ⟨A, hA⟩ : ∃ A, P + k = A := ⟨_, rfl⟩
      have hA2 : (P : Int) + (k : Int) = (A : Int) := by omega
      have u1 : IntKind.u64.wrap (k : Int) = (k : Int) := by simp only [IntKind.wrap, IntKind.bits, IntKind.signed]; simp; omega
      have u2 : IntKind.u64.wrap ((P : Int) + (k : Int)) = (A : Int) := by simp only [IntKind.wrap, IntKind.bits, IntKind.signed]; simp; omega
      have u3 : ((P : Int) + (k : Int)) % 18446744073709551616 = (A : Int) := by omega
      obtain ⟨q, hq⟩ : ∃ q, A / 64 = q := ⟨_, rfl⟩
      obtain ⟨r, hr⟩ : ∃ r, A % 64 = r := ⟨_, rfl⟩
      have hr64 : r < 64 := by omega
      have t1 : (A : Int).tdiv 64 = (q : Int) := by rw [Int.tdiv_eq_ediv_of_nonneg (by omega)]; omega
      have t2 : (A : Int).tmod 64 = (r : Int) := by rw [Int.tmod_eq_emod_of_nonneg (by omega)]; omega
      have t3 : (A : Int) / 64 = (q : Int) := by omega
      have t4 : (A : Int) % 64 = (r : Int) := by omega
      have hq32 : (q : Int) < 4294967296 := by omega
      have u4 : IntKind.u32.wrap (q : Int) = (q : Int) := by simp only [IntKind.wrap, IntKind.bits, IntKind.signed]; simp; omega
      have u5 : IntKind.u64.wrap (q : Int) = (q : Int) := by simp only [IntKind.wrap, IntKind.bits, IntKind.signed]; simp; omega
      have hks : ks key nonce A = (blkB key (q : Int) nonce).getD r 0 := by rw [ks, hq, hr]
      rw [hA, hks] at hVk
      have i1 : (k : Int) < (n : Int) := by omega
      have i2 : (0 : Int) ≤ (k : Int) := by omega
      have i3 : (0 : Int) ≤ (r : Int) := by omega
      have i4 : (r : Int) < 64 := by omega
      have HN : Hid (V.getD k 0 = bits .xor .u8 Z ((blkB key (q : Int) nonce).getD r 0) ∧ k < V.length) := ⟨hVk, by rw [HV.out.1]; exact hlt⟩
      have HO : Hid (wr.ownsRow (G + 1) 5 1 u6 k ((V.map (Value.int .u8)).take k) ∧ Kept (fun x => x = G) w1 wr ∧ RtAt wr g key nonce P) := ⟨hown, hkp, hR⟩
      obtain ⟨Y, HYY⟩ : ∃ Y, Hid (blkB key (q : Int) nonce = Y ∧ Y.length = 64 ∧ Bytes Y) := ⟨_, ⟨rfl, blkB_length _ _ _, blkB_bytes _ _ _⟩⟩
      have HAA : Hid (P + k = A ∧ A / 64 = q ∧ A % 64 = r) := ⟨hA, hq, hr⟩
      clear hA hq hr hZ hks hVk hcl
      by_cases hk0 : k = 0
      · have f0 : ((k : Int) == 0) = true := by rw [hk0]; rfl
        have HK0 : Hid (k = 0) := hk0
        clear hk0
        have HRr : Hid (RtAt wr g key nonce P) := hR
        have HXB : Hid (Blk wr G 57 (u8s X) ∧ X.length = 64) := ⟨hXB, hXl⟩
        clear hXB hXl hXb hXk hR hown hkp
        go_wp2_with fail
        try simp only [Act.put, List.setIfInBounds_toArray, List.set_cons_zero, List.set_cons_succ]
        refine region_inv [.val (.pointer (some ⟨g, 0, none⟩)), .val (.pointer (some ⟨g, 0, none⟩)), .val (.pointer (some ⟨g, 0, none⟩)), .val (.agg (u8s key).toArray), .val (.int .u64 (A : Int)), .val (.int .u64 (q : Int)), .val (.int .u32 (q : Int)), .val (.pointer (some ⟨g, 0, none⟩)), .val (.pointer (some ⟨g, 0, none⟩)), .val (.pointer (some ⟨g, 32, none⟩)), .val (.agg (u8s nonce).toArray), .val (.agg (u8s Y).toArray)] (by kernel_rfl) (by kernel_rfl) (by kernel_rfl) ?_ ?_
        · refine Steps'.cons ?_ (Steps'.cons ?_ (Steps'.cons ?_ (Steps'.cons ?_ (Steps'.cons ?_ (Steps'.cons ?_ (Steps'.cons ?_ (Steps'.cons ?_ (Steps'.cons ?_ (Steps'.cons ?_ (Steps'.cons ?_ (Steps'.cons ?_ (Steps'.one _ _ _ _ _ _ _))))))))))))
          · intro ax wx hb hs hd
            have h0 : ax.tmps.getD 0 undef = (.pointer (some ⟨g, 0, none⟩)) := hs 0 (by kernel_rfl)
            refine Does.value (.pointer (some ⟨g, 0, none⟩)) ?_ rfl
            go_simp
          · intro ax wx hb hs hd
            have h39 : ax.tmps.getD 39 undef = (.pointer (some ⟨g, 0, none⟩)) := hd 0 39 rfl (by kernel_rfl) (by decide)
            refine Does.value (.pointer (some ⟨g, 0, none⟩)) ?_ rfl
            go_simp
          · intro ax wx hb hs hd
            have h40 : ax.tmps.getD 40 undef = (.pointer (some ⟨g, 0, none⟩)) := hd 1 40 rfl (by kernel_rfl) (by decide)
            refine Does.value (.pointer (some ⟨g, 0, none⟩)) ?_ rfl
            go_simp
          · intro ax wx hb hs hd
            have h41 : ax.tmps.getD 41 undef = (.pointer (some ⟨g, 0, none⟩)) := hd 2 41 rfl (by kernel_rfl) (by decide)
            exact Does.load 23 (.tmp 41) rfl g 0 h41 (u8s key) _ ((HRr.out.later hb HRr.out.lt).key) Try.underlying23 rfl uK
          · intro ax wx hb hs hd
            have h9 : ax.tmps.getD 9 undef = (.int .u64 (A : Int)) := hs 9 (by kernel_rfl)
            refine Does.value (.int .u64 (A : Int)) ?_ rfl
            go_simp
          · intro ax wx hb hs hd
            have h43 : ax.tmps.getD 43 undef = (.int .u64 (A : Int)) := hd 4 43 rfl (by kernel_rfl) (by decide)
            refine Does.value (.int .u64 (q : Int)) ?_ rfl
            go_simp
          · intro ax wx hb hs hd
            have h44 : ax.tmps.getD 44 undef = (.int .u64 (q : Int)) := hd 5 44 rfl (by kernel_rfl) (by decide)
            refine Does.value (.int .u32 (q : Int)) ?_ rfl
            go_simp
          · intro ax wx hb hs hd
            have h0 : ax.tmps.getD 0 undef = (.pointer (some ⟨g, 0, none⟩)) := hs 0 (by kernel_rfl)
            refine Does.value (.pointer (some ⟨g, 0, none⟩)) ?_ rfl
            go_simp
          · intro ax wx hb hs hd
            have h46 : ax.tmps.getD 46 undef = (.pointer (some ⟨g, 0, none⟩)) := hd 7 46 rfl (by kernel_rfl) (by decide)
            refine Does.value (.pointer (some ⟨g, 0, none⟩)) ?_ rfl
            go_simp
          · intro ax wx hb hs hd
            have h47 : ax.tmps.getD 47 undef = (.pointer (some ⟨g, 0, none⟩)) := hd 8 47 rfl (by kernel_rfl) (by decide)
            refine Does.value (.pointer (some ⟨g, 32, none⟩)) ?_ rfl
            go_simp
          · intro ax wx hb hs hd
            have h48 : ax.tmps.getD 48 undef = (.pointer (some ⟨g, 32, none⟩)) := hd 9 48 rfl (by kernel_rfl) (by decide)
            exact Does.load 25 (.tmp 48) rfl g 32 h48 (u8s nonce) _ ((HRr.out.later hb HRr.out.lt).nonce) Try.underlying25 rfl uN
          · intro ax wx hb hs hd
            have h42 : ax.tmps.getD 42 undef = (.agg (u8s key).toArray) := hd 3 42 rfl (by kernel_rfl) (by decide)
            have h45 : ax.tmps.getD 45 undef = (.int .u32 (q : Int)) := hd 6 45 rfl (by kernel_rfl) (by decide)
            have h49 : ax.tmps.getD 49 undef = (.agg (u8s nonce).toArray) := hd 10 49 rfl (by kernel_rfl) (by decide)
            refine Does.call 18 #[(.agg (u8s key).toArray), (.int .u32 (q : Int)), (.agg (u8s nonce).toArray)] (by go_simp) ?_
            have qq := rblock_any key (q : Int) nonce HX.out.1.k32 HX.out.1.n12 HX.out.1.kb HX.out.1.nb ⟨by omega, hq32⟩ wx
            rw [HYY.out.1] at qq
            refine qq.mono ?_
            rintro e w' ⟨rfl, l⟩
            exact ⟨_, rfl, rfl, l⟩
        · intro wx hb
          refine @Ends.val _ _ _ _ _ _ _ _ _ (.pointer (some ⟨g, 0, none⟩)) rfl ?_
          refine @Ends.val _ _ _ _ _ _ _ _ _ (.pointer (some ⟨g, 0, none⟩)) rfl ?_
          refine @Ends.val _ _ _ _ _ _ _ _ _ (.pointer (some ⟨g, 0, none⟩)) rfl ?_
          refine @Ends.val _ _ _ _ _ _ _ _ _ (.agg (u8s key).toArray) rfl ?_
          refine @Ends.val _ _ _ _ _ _ _ _ _ (.int .u64 (A : Int)) rfl ?_
          refine @Ends.val _ _ _ _ _ _ _ _ _ (.int .u64 (q : Int)) rfl ?_
          refine @Ends.val _ _ _ _ _ _ _ _ _ (.int .u32 (q : Int)) rfl ?_
          refine @Ends.val _ _ _ _ _ _ _ _ _ (.pointer (some ⟨g, 0, none⟩)) rfl ?_
          refine @Ends.val _ _ _ _ _ _ _ _ _ (.pointer (some ⟨g, 0, none⟩)) rfl ?_
          refine @Ends.val _ _ _ _ _ _ _ _ _ (.pointer (some ⟨g, 32, none⟩)) rfl ?_
          refine @Ends.val _ _ _ _ _ _ _ _ _ (.agg (u8s nonce).toArray) rfl ?_
          refine @Ends.val _ _ _ _ _ _ _ _ _ (.agg (u8s Y).toArray) rfl ?_
          refine @Ends.one _ _ _ _ _ _ _ ?_
          simp only [Act.put, List.setIfInBounds_toArray, List.set_cons_zero, List.set_cons_succ]
          refine last_store 57 (.tmp 7) (.tmp 50) rfl rfl G rfl 57 _ (u8s Y) rfl (HXB.out.1.later hb HXB.out.1.lt) (by rw [u8s_length, u8s_length, HXB.out.2, HYY.out.2.1]) (by rw [u8s_length, HYY.out.2.1]; exact uB) (u8s_one _) ?_
          intro w5 hBY s5 k5
          have L5 : Below wr.heap.size wr wx := hb
          have HO2 : Hid (w5.ownsRow (G + 1) 5 1 u6 k ((V.map (Value.int .u8)).take k) ∧ Kept (fun x => x = G) w1 w5) := by
            refine ⟨?_, ?_⟩
            · have o1 := ownsRow_below HO.out.1 L5
              exact own_keptG o1 k5 (fun j hj => by have := (o1.lt j hj).1; omega)
            · exact (kept_below HO.out.2.1 L5 hsz).trans k5
          replace c1 : w5.cell? ⟨b, o + k, none⟩ = some (.int .u8 Z) := (k5.cell (p := ⟨b, o + k, none⟩) (Nat.lt_of_lt_of_le (World.block_lt_of_cell? _ _ c1) L5.size) (by show ¬ b = G; have := H1.out.2.2.2.2.2.2; omega)).trans ((L5.cell (p := ⟨b, o + k, none⟩) (World.block_lt_of_cell? _ _ c1)).trans c1)
          have hGW : G + 1 ≤ w5.heap.size := by rw [← hs1]; exact Nat.le_trans hsz (Nat.le_trans L5.size k5.size)
          clear hb s5 k5 L5
          go_wp2_with fail
          have HB : Hid (Blk w5 G 57 (u8s Y)) := hBY
          have cB := u8s_cell hBY r (by rw [HYY.out.2.1]; exact hr64)
          obtain ⟨B, hB⟩ : ∃ B, Y.getD r 0 = B := ⟨_, rfl⟩
          have bB : 0 ≤ B ∧ B < 256 := by rw [← hB]; exact HYY.out.2.2.at r (by rw [HYY.out.2.1]; exact hr64)
          rw [hB] at cB
          have hx32 := xor32_8 Z B bZ bB
          obtain ⟨D, hD⟩ : ∃ D, bits .xor .u8 Z B = D := ⟨_, rfl⟩
          rw [hD] at hx32
          have HD : Hid (V.getD k 0 = D ∧ k < V.length) := ⟨by rw [HN.out.1, HYY.out.1, hB, hD], HN.out.2⟩
          have y1 : IntKind.u64.wrap Z = Z := by simp only [IntKind.wrap, IntKind.bits, IntKind.signed]; simp; omega
          have y2 : IntKind.u64.wrap B = B := by simp only [IntKind.wrap, IntKind.bits, IntKind.signed]; simp; omega
          have y3 : IntKind.u8.wrap D = D := by simp only [IntKind.wrap, IntKind.bits, IntKind.signed]; simp; omega
          have HX3 : Hid (bits .xor .u32 Z B = D) := hx32.1
          have hDb := hx32.2
          clear hB hD hx32 hBY
          refine wp_region_noPanic (wp_region_held_drew (S := fun W => W.cell? ⟨b, o + k, none⟩ = some (.int .u8 Z) ∧ W.cell? ⟨G, r, none⟩ = some (.int .u8 B)) (by kernel_rfl) ⟨c1, cB⟩ (fun hH => ?_))
          refine hTake 0 (some 51) u6 rfl rfl (by kernel_rfl) (by kernel_rfl) (by kernel_rfl) (fun _ _ _ h => h) (by rfl) (fun _ _ => by rfl) hH ?_
          simp only [Act.put, List.setIfInBounds_toArray, List.set_cons_zero, List.set_cons_succ]
          refine hTake 1 (some 52) (.slice (some ⟨b, o, none⟩) n c) rfl rfl (by kernel_rfl) (by kernel_rfl) (by kernel_rfl) (fun _ _ _ h => h) (by rfl) (fun _ _ => by rfl) hH ?_
          simp only [Act.put, List.setIfInBounds_toArray, List.set_cons_zero, List.set_cons_succ]
          refine hTake 2 (some 53) (.int .i64 (k : Int)) rfl rfl (by kernel_rfl) (by kernel_rfl) (by kernel_rfl) (fun _ _ _ h => h) (by rfl) (fun _ _ => by rfl) hH ?_
          simp only [Act.put, List.setIfInBounds_toArray, List.set_cons_zero, List.set_cons_succ]
          refine hTake 3 (some 54) (.pointer (some ⟨b, o + k, none⟩)) rfl rfl (by kernel_rfl) (by kernel_rfl) (by kernel_rfl) (fun _ _ _ h => h) (by rfl) (fun _ _ => by go_simp) hH ?_
          simp only [Act.put, List.setIfInBounds_toArray, List.set_cons_zero, List.set_cons_succ]
          refine hTake 4 (some 55) (.int .u8 Z) rfl rfl (by kernel_rfl) (by kernel_rfl) (by kernel_rfl) (fun _ _ _ h => h) (by rfl) (fun _ hs => by (obtain ⟨z1, z2⟩ := hs; go_simp)) hH ?_
          simp only [Act.put, List.setIfInBounds_toArray, List.set_cons_zero, List.set_cons_succ]
          refine hTake 5 (some 56) (.int .u64 Z) rfl rfl (by kernel_rfl) (by kernel_rfl) (by kernel_rfl) (fun _ _ _ h => h) (by rfl) (fun _ _ => by go_simp) hH ?_
          simp only [Act.put, List.setIfInBounds_toArray, List.set_cons_zero, List.set_cons_succ]
          refine hTake 6 (some 57) (.int .u64 (A : Int)) rfl rfl (by kernel_rfl) (by kernel_rfl) (by kernel_rfl) (fun _ _ _ h => h) (by rfl) (fun _ _ => by rfl) hH ?_
          simp only [Act.put, List.setIfInBounds_toArray, List.set_cons_zero, List.set_cons_succ]
          refine hTake 7 (some 58) (.int .u64 (r : Int)) rfl rfl (by kernel_rfl) (by kernel_rfl) (by kernel_rfl) (fun _ _ _ h => h) (by rfl) (fun _ _ => by go_simp) hH ?_
          simp only [Act.put, List.setIfInBounds_toArray, List.set_cons_zero, List.set_cons_succ]
          refine hTake 8 (some 59) (.pointer (some ⟨G, r, none⟩)) rfl rfl (by kernel_rfl) (by kernel_rfl) (by kernel_rfl) (fun _ _ _ h => h) (by rfl) (fun _ _ => by go_simp) hH ?_
          simp only [Act.put, List.setIfInBounds_toArray, List.set_cons_zero, List.set_cons_succ]
          refine hTake 9 (some 60) (.int .u8 B) rfl rfl (by kernel_rfl) (by kernel_rfl) (by kernel_rfl) (fun _ _ _ h => h) (by rfl) (fun _ hs => by (obtain ⟨z1, z2⟩ := hs; go_simp)) hH ?_
          simp only [Act.put, List.setIfInBounds_toArray, List.set_cons_zero, List.set_cons_succ]
          refine hTake 10 (some 61) (.int .u64 B) rfl rfl (by kernel_rfl) (by kernel_rfl) (by kernel_rfl) (fun _ _ _ h => h) (by rfl) (fun _ _ => by go_simp) hH ?_
          simp only [Act.put, List.setIfInBounds_toArray, List.set_cons_zero, List.set_cons_succ]
          refine wpAnyH_ready (rs := [11]) (by kernel_rfl) (by simp) (AllReadyH.cons rfl (fun K hK => ?_) AllReadyH.nil)
          rw [if_pos (by rfl)]
          go_simp
          go_wp2_with (go_at_call 19; refine (ragainst_any Z B ⟨by omega, by omega⟩ ⟨by omega, by omega⟩ _).mono ?_; rintro e wA ⟨rfl, rfl⟩; rw [HX3.out])
          refine hK.out _ _ ⟨c1, cB⟩ (fun hH => ?_)
          clear hK K
          refine hTake 12 (some 63) (.int .u8 D) rfl rfl (by kernel_rfl) (by kernel_rfl) (by kernel_rfl) (fun _ _ _ h => h) (by rfl) (fun _ _ => by go_simp) hH ?_
          simp only [Act.put, List.setIfInBounds_toArray, List.set_cons_zero, List.set_cons_succ]
          refine wpAnyH_ready (rs := [13]) (by kernel_rfl) (by simp) (AllReadyH.cons rfl (fun K hK => ?_) AllReadyH.nil)
          rw [if_pos (by rfl)]
          go_simp
          have LA : Below w5.heap.size w5 (w5.drew.alloc (.cells #[.int .u8 D] 5)) := (below_dn (Below.refl _ _) 1).alloc (Nat.le_refl _) _
          have cb2 : b < w5.heap.size := World.block_lt_of_cell? _ _ c1
          have cG2 : G < w5.heap.size := HB.out.lt
          refine hK.out _ _ ⟨(LA.cell (p := ⟨b, o + k, none⟩) cb2).trans c1, (LA.cell (p := ⟨G, r, none⟩) cG2).trans cB⟩ (fun hH => ?_)
          clear hK K
          have sD : Seen (w5.drew.alloc (.cells #[.int .u8 D] 5)) (some ⟨w5.heap.size, 0, none⟩) 1 [D] := by
            have hb0 : Blk (w5.drew.alloc (.cells #[.int .u8 D] 5)) w5.heap.size 5 (u8s [D]) := heap_alloc_new w5.drew _
            exact seen_blk hb0 (fun z hz => by simp at hz; subst hz; exact hDb) (by simp)
          have oA : (w5.drew.alloc (.cells #[.int .u8 D] 5)).ownsRow (G + 1) 5 1 u6 k ((V.map (Value.int .u8)).take k) := ownsRow_below HO2.out.1 LA
          refine wpAnyH_ready (rs := [14]) (by kernel_rfl) (by simp) (AllReadyH.cons rfl (fun K hK => ?_) AllReadyH.nil)
          refine rstep_append (by rfl) (.tmp 51) (.tmp 64) (by rfl) (G + 1) u6 k _ (by rfl) oA (some ⟨w5.heap.size, 0, none⟩) 1 1 [D] (by rfl) sD (fun h => by cases h) (by omega) (Nat.le_trans hGW LA.size) ?_
          intro v2 w2 o2 g2
          have BG : Below (G + 1) w5 w2 := ((below_dn (Below.refl (G + 1) w5) 1).alloc hGW _).grown g2 (Nat.le_trans hGW LA.size) (fun j hj => (oA.lt j hj).1)
          have hbG : b < G + 1 := by have := H1.out.2.2.2.2.2.2; omega
          refine hK.out _ _ ⟨(BG.cell (p := ⟨b, o + k, none⟩) hbG).trans c1, (BG.cell (p := ⟨G, r, none⟩) (Nat.lt_succ_self _)).trans cB⟩ (fun hH => ?_)
          clear hK K
          refine hTake 15 (some 6) v2 rfl rfl (by kernel_rfl) (by kernel_rfl) (by kernel_rfl) (fun _ _ _ h => h) (by rfl) (fun _ _ => by rfl) hH ?_
          simp only [Act.put, List.setIfInBounds_toArray, List.set_cons_zero, List.set_cons_succ]
          refine wpAnyH_done (by kernel_rfl) (NoPanic.normal ?_) _
          have HF : Hid (w2.ownsRow (G + 1) 5 1 v2 (k + 1) ((V.map (Value.int .u8)).take (k + 1)) ∧ Blk w2 G 57 (u8s Y) ∧ Kept (fun x => x = G) w1 w2) := by
            refine ⟨?_, HB.out.later BG (Nat.lt_succ_self _), kept_below HO2.out.2 BG (by omega)⟩
            rw [List.take_succ_eq_append_getElem (by simpa using HD.out.2), List.getElem_map, getD_get HD.out.1 HD.out.2]
            exact o2
          clear o2 g2 BG hH sD oA LA c1 cB
          go_wp2_with fail
          exact ⟨⟨k + 1, by omega, by go_num, HF.out.1, ⟨Y, HYY.out.2.1, HYY.out.2.2, HF.out.2.1, fun _ => by rw [← HYY.out.1]; congr 2; have := HAA.out; omega⟩, HF.out.2.2⟩, by simp [intOf]; omega⟩
      · have f0 : ((k : Int) == 0) = false := by rw [beq_eq_false_iff_ne]; omega
        by_cases hr0 : r = 0
        · have f1 : ((r : Int) == 0) = true := by rw [hr0]; rfl
          have HR0 : Hid (r = 0) := hr0
          clear hr0
          have HRr : Hid (RtAt wr g key nonce P) := hR
          have HXB : Hid (Blk wr G 57 (u8s X) ∧ X.length = 64) := ⟨hXB, hXl⟩
          clear hXB hXl hXb hXk hR hown hkp
          go_wp2_with fail
          try simp only [Act.put, List.setIfInBounds_toArray, List.set_cons_zero, List.set_cons_succ]
          refine region_inv [.val (.pointer (some ⟨g, 0, none⟩)), .val (.pointer (some ⟨g, 0, none⟩)), .val (.pointer (some ⟨g, 0, none⟩)), .val (.agg (u8s key).toArray), .val (.int .u64 (A : Int)), .val (.int .u64 (q : Int)), .val (.int .u32 (q : Int)), .val (.pointer (some ⟨g, 0, none⟩)), .val (.pointer (some ⟨g, 0, none⟩)), .val (.pointer (some ⟨g, 32, none⟩)), .val (.agg (u8s nonce).toArray), .val (.agg (u8s Y).toArray)] (by kernel_rfl) (by kernel_rfl) (by kernel_rfl) ?_ ?_
          · refine Steps'.cons ?_ (Steps'.cons ?_ (Steps'.cons ?_ (Steps'.cons ?_ (Steps'.cons ?_ (Steps'.cons ?_ (Steps'.cons ?_ (Steps'.cons ?_ (Steps'.cons ?_ (Steps'.cons ?_ (Steps'.cons ?_ (Steps'.cons ?_ (Steps'.one _ _ _ _ _ _ _))))))))))))
            · intro ax wx hb hs hd
              have h0 : ax.tmps.getD 0 undef = (.pointer (some ⟨g, 0, none⟩)) := hs 0 (by kernel_rfl)
              refine Does.value (.pointer (some ⟨g, 0, none⟩)) ?_ rfl
              go_simp
            · intro ax wx hb hs hd
              have h39 : ax.tmps.getD 39 undef = (.pointer (some ⟨g, 0, none⟩)) := hd 0 39 rfl (by kernel_rfl) (by decide)
              refine Does.value (.pointer (some ⟨g, 0, none⟩)) ?_ rfl
              go_simp
            · intro ax wx hb hs hd
              have h40 : ax.tmps.getD 40 undef = (.pointer (some ⟨g, 0, none⟩)) := hd 1 40 rfl (by kernel_rfl) (by decide)
              refine Does.value (.pointer (some ⟨g, 0, none⟩)) ?_ rfl
              go_simp
            · intro ax wx hb hs hd
              have h41 : ax.tmps.getD 41 undef = (.pointer (some ⟨g, 0, none⟩)) := hd 2 41 rfl (by kernel_rfl) (by decide)
              exact Does.load 23 (.tmp 41) rfl g 0 h41 (u8s key) _ ((HRr.out.later hb HRr.out.lt).key) Try.underlying23 rfl uK
            · intro ax wx hb hs hd
              have h9 : ax.tmps.getD 9 undef = (.int .u64 (A : Int)) := hs 9 (by kernel_rfl)
              refine Does.value (.int .u64 (A : Int)) ?_ rfl
              go_simp
            · intro ax wx hb hs hd
              have h43 : ax.tmps.getD 43 undef = (.int .u64 (A : Int)) := hd 4 43 rfl (by kernel_rfl) (by decide)
              refine Does.value (.int .u64 (q : Int)) ?_ rfl
              go_simp
            · intro ax wx hb hs hd
              have h44 : ax.tmps.getD 44 undef = (.int .u64 (q : Int)) := hd 5 44 rfl (by kernel_rfl) (by decide)
              refine Does.value (.int .u32 (q : Int)) ?_ rfl
              go_simp
            · intro ax wx hb hs hd
              have h0 : ax.tmps.getD 0 undef = (.pointer (some ⟨g, 0, none⟩)) := hs 0 (by kernel_rfl)
              refine Does.value (.pointer (some ⟨g, 0, none⟩)) ?_ rfl
              go_simp
            · intro ax wx hb hs hd
              have h46 : ax.tmps.getD 46 undef = (.pointer (some ⟨g, 0, none⟩)) := hd 7 46 rfl (by kernel_rfl) (by decide)
              refine Does.value (.pointer (some ⟨g, 0, none⟩)) ?_ rfl
              go_simp
            · intro ax wx hb hs hd
              have h47 : ax.tmps.getD 47 undef = (.pointer (some ⟨g, 0, none⟩)) := hd 8 47 rfl (by kernel_rfl) (by decide)
              refine Does.value (.pointer (some ⟨g, 32, none⟩)) ?_ rfl
              go_simp
            · intro ax wx hb hs hd
              have h48 : ax.tmps.getD 48 undef = (.pointer (some ⟨g, 32, none⟩)) := hd 9 48 rfl (by kernel_rfl) (by decide)
              exact Does.load 25 (.tmp 48) rfl g 32 h48 (u8s nonce) _ ((HRr.out.later hb HRr.out.lt).nonce) Try.underlying25 rfl uN
            · intro ax wx hb hs hd
              have h42 : ax.tmps.getD 42 undef = (.agg (u8s key).toArray) := hd 3 42 rfl (by kernel_rfl) (by decide)
              have h45 : ax.tmps.getD 45 undef = (.int .u32 (q : Int)) := hd 6 45 rfl (by kernel_rfl) (by decide)
              have h49 : ax.tmps.getD 49 undef = (.agg (u8s nonce).toArray) := hd 10 49 rfl (by kernel_rfl) (by decide)
              refine Does.call 18 #[(.agg (u8s key).toArray), (.int .u32 (q : Int)), (.agg (u8s nonce).toArray)] (by go_simp) ?_
              have qq := rblock_any key (q : Int) nonce HX.out.1.k32 HX.out.1.n12 HX.out.1.kb HX.out.1.nb ⟨by omega, hq32⟩ wx
              rw [HYY.out.1] at qq
              refine qq.mono ?_
              rintro e w' ⟨rfl, l⟩
              exact ⟨_, rfl, rfl, l⟩
          · intro wx hb
            refine @Ends.val _ _ _ _ _ _ _ _ _ (.pointer (some ⟨g, 0, none⟩)) rfl ?_
            refine @Ends.val _ _ _ _ _ _ _ _ _ (.pointer (some ⟨g, 0, none⟩)) rfl ?_
            refine @Ends.val _ _ _ _ _ _ _ _ _ (.pointer (some ⟨g, 0, none⟩)) rfl ?_
            refine @Ends.val _ _ _ _ _ _ _ _ _ (.agg (u8s key).toArray) rfl ?_
            refine @Ends.val _ _ _ _ _ _ _ _ _ (.int .u64 (A : Int)) rfl ?_
            refine @Ends.val _ _ _ _ _ _ _ _ _ (.int .u64 (q : Int)) rfl ?_
            refine @Ends.val _ _ _ _ _ _ _ _ _ (.int .u32 (q : Int)) rfl ?_
            refine @Ends.val _ _ _ _ _ _ _ _ _ (.pointer (some ⟨g, 0, none⟩)) rfl ?_
            refine @Ends.val _ _ _ _ _ _ _ _ _ (.pointer (some ⟨g, 0, none⟩)) rfl ?_
            refine @Ends.val _ _ _ _ _ _ _ _ _ (.pointer (some ⟨g, 32, none⟩)) rfl ?_
            refine @Ends.val _ _ _ _ _ _ _ _ _ (.agg (u8s nonce).toArray) rfl ?_
            refine @Ends.val _ _ _ _ _ _ _ _ _ (.agg (u8s Y).toArray) rfl ?_
            refine @Ends.one _ _ _ _ _ _ _ ?_
            simp only [Act.put, List.setIfInBounds_toArray, List.set_cons_zero, List.set_cons_succ]
            refine last_store 57 (.tmp 7) (.tmp 50) rfl rfl G rfl 57 _ (u8s Y) rfl (HXB.out.1.later hb HXB.out.1.lt) (by rw [u8s_length, u8s_length, HXB.out.2, HYY.out.2.1]) (by rw [u8s_length, HYY.out.2.1]; exact uB) (u8s_one _) ?_
            intro w5 hBY s5 k5
            have L5 : Below wr.heap.size wr wx := hb
            have HO2 : Hid (w5.ownsRow (G + 1) 5 1 u6 k ((V.map (Value.int .u8)).take k) ∧ Kept (fun x => x = G) w1 w5) := by
              refine ⟨?_, ?_⟩
              · have o1 := ownsRow_below HO.out.1 L5
                exact own_keptG o1 k5 (fun j hj => by have := (o1.lt j hj).1; omega)
              · exact (kept_below HO.out.2.1 L5 hsz).trans k5
            replace c1 : w5.cell? ⟨b, o + k, none⟩ = some (.int .u8 Z) := (k5.cell (p := ⟨b, o + k, none⟩) (Nat.lt_of_lt_of_le (World.block_lt_of_cell? _ _ c1) L5.size) (by show ¬ b = G; have := H1.out.2.2.2.2.2.2; omega)).trans ((L5.cell (p := ⟨b, o + k, none⟩) (World.block_lt_of_cell? _ _ c1)).trans c1)
            have hGW : G + 1 ≤ w5.heap.size := by rw [← hs1]; exact Nat.le_trans hsz (Nat.le_trans L5.size k5.size)
            clear hb s5 k5 L5
            go_wp2_with fail
            have HB : Hid (Blk w5 G 57 (u8s Y)) := hBY
            have cB := u8s_cell hBY r (by rw [HYY.out.2.1]; exact hr64)
            obtain ⟨B, hB⟩ : ∃ B, Y.getD r 0 = B := ⟨_, rfl⟩
            have bB : 0 ≤ B ∧ B < 256 := by rw [← hB]; exact HYY.out.2.2.at r (by rw [HYY.out.2.1]; exact hr64)
            rw [hB] at cB
            have hx32 := xor32_8 Z B bZ bB
            obtain ⟨D, hD⟩ : ∃ D, bits .xor .u8 Z B = D := ⟨_, rfl⟩
            rw [hD] at hx32
            have HD : Hid (V.getD k 0 = D ∧ k < V.length) := ⟨by rw [HN.out.1, HYY.out.1, hB, hD], HN.out.2⟩
            have y1 : IntKind.u64.wrap Z = Z := by simp only [IntKind.wrap, IntKind.bits, IntKind.signed]; simp; omega
            have y2 : IntKind.u64.wrap B = B := by simp only [IntKind.wrap, IntKind.bits, IntKind.signed]; simp; omega
            have y3 : IntKind.u8.wrap D = D := by simp only [IntKind.wrap, IntKind.bits, IntKind.signed]; simp; omega
            have HX3 : Hid (bits .xor .u32 Z B = D) := hx32.1
            have hDb := hx32.2
            clear hB hD hx32 hBY
            refine wp_region_noPanic (wp_region_held_drew (S := fun W => W.cell? ⟨b, o + k, none⟩ = some (.int .u8 Z) ∧ W.cell? ⟨G, r, none⟩ = some (.int .u8 B)) (by kernel_rfl) ⟨c1, cB⟩ (fun hH => ?_))
            refine hTake 0 (some 51) u6 rfl rfl (by kernel_rfl) (by kernel_rfl) (by kernel_rfl) (fun _ _ _ h => h) (by rfl) (fun _ _ => by rfl) hH ?_
            simp only [Act.put, List.setIfInBounds_toArray, List.set_cons_zero, List.set_cons_succ]
            refine hTake 1 (some 52) (.slice (some ⟨b, o, none⟩) n c) rfl rfl (by kernel_rfl) (by kernel_rfl) (by kernel_rfl) (fun _ _ _ h => h) (by rfl) (fun _ _ => by rfl) hH ?_
            simp only [Act.put, List.setIfInBounds_toArray, List.set_cons_zero, List.set_cons_succ]
            refine hTake 2 (some 53) (.int .i64 (k : Int)) rfl rfl (by kernel_rfl) (by kernel_rfl) (by kernel_rfl) (fun _ _ _ h => h) (by rfl) (fun _ _ => by rfl) hH ?_
            simp only [Act.put, List.setIfInBounds_toArray, List.set_cons_zero, List.set_cons_succ]
            refine hTake 3 (some 54) (.pointer (some ⟨b, o + k, none⟩)) rfl rfl (by kernel_rfl) (by kernel_rfl) (by kernel_rfl) (fun _ _ _ h => h) (by rfl) (fun _ _ => by go_simp) hH ?_
            simp only [Act.put, List.setIfInBounds_toArray, List.set_cons_zero, List.set_cons_succ]
            refine hTake 4 (some 55) (.int .u8 Z) rfl rfl (by kernel_rfl) (by kernel_rfl) (by kernel_rfl) (fun _ _ _ h => h) (by rfl) (fun _ hs => by (obtain ⟨z1, z2⟩ := hs; go_simp)) hH ?_
            simp only [Act.put, List.setIfInBounds_toArray, List.set_cons_zero, List.set_cons_succ]
            refine hTake 5 (some 56) (.int .u64 Z) rfl rfl (by kernel_rfl) (by kernel_rfl) (by kernel_rfl) (fun _ _ _ h => h) (by rfl) (fun _ _ => by go_simp) hH ?_
            simp only [Act.put, List.setIfInBounds_toArray, List.set_cons_zero, List.set_cons_succ]
            refine hTake 6 (some 57) (.int .u64 (A : Int)) rfl rfl (by kernel_rfl) (by kernel_rfl) (by kernel_rfl) (fun _ _ _ h => h) (by rfl) (fun _ _ => by rfl) hH ?_
            simp only [Act.put, List.setIfInBounds_toArray, List.set_cons_zero, List.set_cons_succ]
            refine hTake 7 (some 58) (.int .u64 (r : Int)) rfl rfl (by kernel_rfl) (by kernel_rfl) (by kernel_rfl) (fun _ _ _ h => h) (by rfl) (fun _ _ => by go_simp) hH ?_
            simp only [Act.put, List.setIfInBounds_toArray, List.set_cons_zero, List.set_cons_succ]
            refine hTake 8 (some 59) (.pointer (some ⟨G, r, none⟩)) rfl rfl (by kernel_rfl) (by kernel_rfl) (by kernel_rfl) (fun _ _ _ h => h) (by rfl) (fun _ _ => by go_simp) hH ?_
            simp only [Act.put, List.setIfInBounds_toArray, List.set_cons_zero, List.set_cons_succ]
            refine hTake 9 (some 60) (.int .u8 B) rfl rfl (by kernel_rfl) (by kernel_rfl) (by kernel_rfl) (fun _ _ _ h => h) (by rfl) (fun _ hs => by (obtain ⟨z1, z2⟩ := hs; go_simp)) hH ?_
            simp only [Act.put, List.setIfInBounds_toArray, List.set_cons_zero, List.set_cons_succ]
            refine hTake 10 (some 61) (.int .u64 B) rfl rfl (by kernel_rfl) (by kernel_rfl) (by kernel_rfl) (fun _ _ _ h => h) (by rfl) (fun _ _ => by go_simp) hH ?_
            simp only [Act.put, List.setIfInBounds_toArray, List.set_cons_zero, List.set_cons_succ]
            refine wpAnyH_ready (rs := [11]) (by kernel_rfl) (by simp) (AllReadyH.cons rfl (fun K hK => ?_) AllReadyH.nil)
            rw [if_pos (by rfl)]
            go_simp
            go_wp2_with (go_at_call 19; refine (ragainst_any Z B ⟨by omega, by omega⟩ ⟨by omega, by omega⟩ _).mono ?_; rintro e wA ⟨rfl, rfl⟩; rw [HX3.out])
            refine hK.out _ _ ⟨c1, cB⟩ (fun hH => ?_)
            clear hK K
            refine hTake 12 (some 63) (.int .u8 D) rfl rfl (by kernel_rfl) (by kernel_rfl) (by kernel_rfl) (fun _ _ _ h => h) (by rfl) (fun _ _ => by go_simp) hH ?_
            simp only [Act.put, List.setIfInBounds_toArray, List.set_cons_zero, List.set_cons_succ]
            refine wpAnyH_ready (rs := [13]) (by kernel_rfl) (by simp) (AllReadyH.cons rfl (fun K hK => ?_) AllReadyH.nil)
            rw [if_pos (by rfl)]
            go_simp
            have LA : Below w5.heap.size w5 (w5.drew.alloc (.cells #[.int .u8 D] 5)) := (below_dn (Below.refl _ _) 1).alloc (Nat.le_refl _) _
            have cb2 : b < w5.heap.size := World.block_lt_of_cell? _ _ c1
            have cG2 : G < w5.heap.size := HB.out.lt
            refine hK.out _ _ ⟨(LA.cell (p := ⟨b, o + k, none⟩) cb2).trans c1, (LA.cell (p := ⟨G, r, none⟩) cG2).trans cB⟩ (fun hH => ?_)
            clear hK K
            have sD : Seen (w5.drew.alloc (.cells #[.int .u8 D] 5)) (some ⟨w5.heap.size, 0, none⟩) 1 [D] := by
              have hb0 : Blk (w5.drew.alloc (.cells #[.int .u8 D] 5)) w5.heap.size 5 (u8s [D]) := heap_alloc_new w5.drew _
              exact seen_blk hb0 (fun z hz => by simp at hz; subst hz; exact hDb) (by simp)
            have oA : (w5.drew.alloc (.cells #[.int .u8 D] 5)).ownsRow (G + 1) 5 1 u6 k ((V.map (Value.int .u8)).take k) := ownsRow_below HO2.out.1 LA
            refine wpAnyH_ready (rs := [14]) (by kernel_rfl) (by simp) (AllReadyH.cons rfl (fun K hK => ?_) AllReadyH.nil)
            refine rstep_append (by rfl) (.tmp 51) (.tmp 64) (by rfl) (G + 1) u6 k _ (by rfl) oA (some ⟨w5.heap.size, 0, none⟩) 1 1 [D] (by rfl) sD (fun h => by cases h) (by omega) (Nat.le_trans hGW LA.size) ?_
            intro v2 w2 o2 g2
            have BG : Below (G + 1) w5 w2 := ((below_dn (Below.refl (G + 1) w5) 1).alloc hGW _).grown g2 (Nat.le_trans hGW LA.size) (fun j hj => (oA.lt j hj).1)
            have hbG : b < G + 1 := by have := H1.out.2.2.2.2.2.2; omega
            refine hK.out _ _ ⟨(BG.cell (p := ⟨b, o + k, none⟩) hbG).trans c1, (BG.cell (p := ⟨G, r, none⟩) (Nat.lt_succ_self _)).trans cB⟩ (fun hH => ?_)
            clear hK K
            refine hTake 15 (some 6) v2 rfl rfl (by kernel_rfl) (by kernel_rfl) (by kernel_rfl) (fun _ _ _ h => h) (by rfl) (fun _ _ => by rfl) hH ?_
            simp only [Act.put, List.setIfInBounds_toArray, List.set_cons_zero, List.set_cons_succ]
            refine wpAnyH_done (by kernel_rfl) (NoPanic.normal ?_) _
            have HF : Hid (w2.ownsRow (G + 1) 5 1 v2 (k + 1) ((V.map (Value.int .u8)).take (k + 1)) ∧ Blk w2 G 57 (u8s Y) ∧ Kept (fun x => x = G) w1 w2) := by
              refine ⟨?_, HB.out.later BG (Nat.lt_succ_self _), kept_below HO2.out.2 BG (by omega)⟩
              rw [List.take_succ_eq_append_getElem (by simpa using HD.out.2), List.getElem_map, getD_get HD.out.1 HD.out.2]
              exact o2
            clear o2 g2 BG hH sD oA LA c1 cB
            go_wp2_with fail
            exact ⟨⟨k + 1, by omega, by go_num, HF.out.1, ⟨Y, HYY.out.2.1, HYY.out.2.2, HF.out.2.1, fun _ => by rw [← HYY.out.1]; congr 2; have := HAA.out; omega⟩, HF.out.2.2⟩, by simp [intOf]; omega⟩
        · have f1 : ((r : Int) == 0) = false := by rw [beq_eq_false_iff_ne]; omega
          have hXq : X = blkB key (q : Int) nonce := by
            rw [hXk (by omega)]
            congr 2
            have := HAA.out
            omega
          have hBY : Blk wr G 57 (u8s Y) := by rw [← HYY.out.1, ← hXq]; exact hXB
          have HO2 : Hid (wr.ownsRow (G + 1) 5 1 u6 k ((V.map (Value.int .u8)).take k) ∧ Kept (fun x => x = G) w1 wr) := ⟨hown, hkp⟩
          have hGW : G + 1 ≤ wr.heap.size := by rw [← hs1]; exact hsz
          clear hXB hXl hXb hXk hR hown hkp hXq
          go_wp2_with fail
          have HB : Hid (Blk wr G 57 (u8s Y)) := hBY
          have cB := u8s_cell hBY r (by rw [HYY.out.2.1]; exact hr64)
          obtain ⟨B, hB⟩ : ∃ B, Y.getD r 0 = B := ⟨_, rfl⟩
          have bB : 0 ≤ B ∧ B < 256 := by rw [← hB]; exact HYY.out.2.2.at r (by rw [HYY.out.2.1]; exact hr64)
          rw [hB] at cB
          have hx32 := xor32_8 Z B bZ bB
          obtain ⟨D, hD⟩ : ∃ D, bits .xor .u8 Z B = D := ⟨_, rfl⟩
          rw [hD] at hx32
          have HD : Hid (V.getD k 0 = D ∧ k < V.length) := ⟨by rw [HN.out.1, HYY.out.1, hB, hD], HN.out.2⟩
          have y1 : IntKind.u64.wrap Z = Z := by simp only [IntKind.wrap, IntKind.bits, IntKind.signed]; simp; omega
          have y2 : IntKind.u64.wrap B = B := by simp only [IntKind.wrap, IntKind.bits, IntKind.signed]; simp; omega
          have y3 : IntKind.u8.wrap D = D := by simp only [IntKind.wrap, IntKind.bits, IntKind.signed]; simp; omega
          have HX3 : Hid (bits .xor .u32 Z B = D) := hx32.1
          have hDb := hx32.2
          clear hB hD hx32 hBY
          refine wp_region_noPanic (wp_region_held_drew (S := fun W => W.cell? ⟨b, o + k, none⟩ = some (.int .u8 Z) ∧ W.cell? ⟨G, r, none⟩ = some (.int .u8 B)) (by kernel_rfl) ⟨c1, cB⟩ (fun hH => ?_))
          refine hTake 0 (some 51) u6 rfl rfl (by kernel_rfl) (by kernel_rfl) (by kernel_rfl) (fun _ _ _ h => h) (by rfl) (fun _ _ => by rfl) hH ?_
          simp only [Act.put, List.setIfInBounds_toArray, List.set_cons_zero, List.set_cons_succ]
          refine hTake 1 (some 52) (.slice (some ⟨b, o, none⟩) n c) rfl rfl (by kernel_rfl) (by kernel_rfl) (by kernel_rfl) (fun _ _ _ h => h) (by rfl) (fun _ _ => by rfl) hH ?_
          simp only [Act.put, List.setIfInBounds_toArray, List.set_cons_zero, List.set_cons_succ]
          refine hTake 2 (some 53) (.int .i64 (k : Int)) rfl rfl (by kernel_rfl) (by kernel_rfl) (by kernel_rfl) (fun _ _ _ h => h) (by rfl) (fun _ _ => by rfl) hH ?_
          simp only [Act.put, List.setIfInBounds_toArray, List.set_cons_zero, List.set_cons_succ]
          refine hTake 3 (some 54) (.pointer (some ⟨b, o + k, none⟩)) rfl rfl (by kernel_rfl) (by kernel_rfl) (by kernel_rfl) (fun _ _ _ h => h) (by rfl) (fun _ _ => by go_simp) hH ?_
          simp only [Act.put, List.setIfInBounds_toArray, List.set_cons_zero, List.set_cons_succ]
          refine hTake 4 (some 55) (.int .u8 Z) rfl rfl (by kernel_rfl) (by kernel_rfl) (by kernel_rfl) (fun _ _ _ h => h) (by rfl) (fun _ hs => by (obtain ⟨z1, z2⟩ := hs; go_simp)) hH ?_
          simp only [Act.put, List.setIfInBounds_toArray, List.set_cons_zero, List.set_cons_succ]
          refine hTake 5 (some 56) (.int .u64 Z) rfl rfl (by kernel_rfl) (by kernel_rfl) (by kernel_rfl) (fun _ _ _ h => h) (by rfl) (fun _ _ => by go_simp) hH ?_
          simp only [Act.put, List.setIfInBounds_toArray, List.set_cons_zero, List.set_cons_succ]
          refine hTake 6 (some 57) (.int .u64 (A : Int)) rfl rfl (by kernel_rfl) (by kernel_rfl) (by kernel_rfl) (fun _ _ _ h => h) (by rfl) (fun _ _ => by rfl) hH ?_
          simp only [Act.put, List.setIfInBounds_toArray, List.set_cons_zero, List.set_cons_succ]
          refine hTake 7 (some 58) (.int .u64 (r : Int)) rfl rfl (by kernel_rfl) (by kernel_rfl) (by kernel_rfl) (fun _ _ _ h => h) (by rfl) (fun _ _ => by go_simp) hH ?_
          simp only [Act.put, List.setIfInBounds_toArray, List.set_cons_zero, List.set_cons_succ]
          refine hTake 8 (some 59) (.pointer (some ⟨G, r, none⟩)) rfl rfl (by kernel_rfl) (by kernel_rfl) (by kernel_rfl) (fun _ _ _ h => h) (by rfl) (fun _ _ => by go_simp) hH ?_
          simp only [Act.put, List.setIfInBounds_toArray, List.set_cons_zero, List.set_cons_succ]
          refine hTake 9 (some 60) (.int .u8 B) rfl rfl (by kernel_rfl) (by kernel_rfl) (by kernel_rfl) (fun _ _ _ h => h) (by rfl) (fun _ hs => by (obtain ⟨z1, z2⟩ := hs; go_simp)) hH ?_
          simp only [Act.put, List.setIfInBounds_toArray, List.set_cons_zero, List.set_cons_succ]
          refine hTake 10 (some 61) (.int .u64 B) rfl rfl (by kernel_rfl) (by kernel_rfl) (by kernel_rfl) (fun _ _ _ h => h) (by rfl) (fun _ _ => by go_simp) hH ?_
          simp only [Act.put, List.setIfInBounds_toArray, List.set_cons_zero, List.set_cons_succ]
          refine wpAnyH_ready (rs := [11]) (by kernel_rfl) (by simp) (AllReadyH.cons rfl (fun K hK => ?_) AllReadyH.nil)
          rw [if_pos (by rfl)]
          go_simp
          go_wp2_with (go_at_call 19; refine (ragainst_any Z B ⟨by omega, by omega⟩ ⟨by omega, by omega⟩ _).mono ?_; rintro e wA ⟨rfl, rfl⟩; rw [HX3.out])
          refine hK.out _ _ ⟨c1, cB⟩ (fun hH => ?_)
          clear hK K
          refine hTake 12 (some 63) (.int .u8 D) rfl rfl (by kernel_rfl) (by kernel_rfl) (by kernel_rfl) (fun _ _ _ h => h) (by rfl) (fun _ _ => by go_simp) hH ?_
          simp only [Act.put, List.setIfInBounds_toArray, List.set_cons_zero, List.set_cons_succ]
          refine wpAnyH_ready (rs := [13]) (by kernel_rfl) (by simp) (AllReadyH.cons rfl (fun K hK => ?_) AllReadyH.nil)
          rw [if_pos (by rfl)]
          go_simp
          have LA : Below wr.heap.size wr (wr.drew.alloc (.cells #[.int .u8 D] 5)) := (below_dn (Below.refl _ _) 1).alloc (Nat.le_refl _) _
          have cb2 : b < wr.heap.size := World.block_lt_of_cell? _ _ c1
          have cG2 : G < wr.heap.size := HB.out.lt
          refine hK.out _ _ ⟨(LA.cell (p := ⟨b, o + k, none⟩) cb2).trans c1, (LA.cell (p := ⟨G, r, none⟩) cG2).trans cB⟩ (fun hH => ?_)
          clear hK K
          have sD : Seen (wr.drew.alloc (.cells #[.int .u8 D] 5)) (some ⟨wr.heap.size, 0, none⟩) 1 [D] := by
            have hb0 : Blk (wr.drew.alloc (.cells #[.int .u8 D] 5)) wr.heap.size 5 (u8s [D]) := heap_alloc_new wr.drew _
            exact seen_blk hb0 (fun z hz => by simp at hz; subst hz; exact hDb) (by simp)
          have oA : (wr.drew.alloc (.cells #[.int .u8 D] 5)).ownsRow (G + 1) 5 1 u6 k ((V.map (Value.int .u8)).take k) := ownsRow_below HO2.out.1 LA
          refine wpAnyH_ready (rs := [14]) (by kernel_rfl) (by simp) (AllReadyH.cons rfl (fun K hK => ?_) AllReadyH.nil)
          refine rstep_append (by rfl) (.tmp 51) (.tmp 64) (by rfl) (G + 1) u6 k _ (by rfl) oA (some ⟨wr.heap.size, 0, none⟩) 1 1 [D] (by rfl) sD (fun h => by cases h) (by omega) (Nat.le_trans hGW LA.size) ?_
          intro v2 w2 o2 g2
          have BG : Below (G + 1) wr w2 := ((below_dn (Below.refl (G + 1) wr) 1).alloc hGW _).grown g2 (Nat.le_trans hGW LA.size) (fun j hj => (oA.lt j hj).1)
          have hbG : b < G + 1 := by have := H1.out.2.2.2.2.2.2; omega
          refine hK.out _ _ ⟨(BG.cell (p := ⟨b, o + k, none⟩) hbG).trans c1, (BG.cell (p := ⟨G, r, none⟩) (Nat.lt_succ_self _)).trans cB⟩ (fun hH => ?_)
          clear hK K
          refine hTake 15 (some 6) v2 rfl rfl (by kernel_rfl) (by kernel_rfl) (by kernel_rfl) (fun _ _ _ h => h) (by rfl) (fun _ _ => by rfl) hH ?_
          simp only [Act.put, List.setIfInBounds_toArray, List.set_cons_zero, List.set_cons_succ]
          refine wpAnyH_done (by kernel_rfl) (NoPanic.normal ?_) _
          have HF : Hid (w2.ownsRow (G + 1) 5 1 v2 (k + 1) ((V.map (Value.int .u8)).take (k + 1)) ∧ Blk w2 G 57 (u8s Y) ∧ Kept (fun x => x = G) w1 w2) := by
            refine ⟨?_, HB.out.later BG (Nat.lt_succ_self _), kept_below HO2.out.2 BG (by omega)⟩
            rw [List.take_succ_eq_append_getElem (by simpa using HD.out.2), List.getElem_map, getD_get HD.out.1 HD.out.2]
            exact o2
          clear o2 g2 BG hH sD oA LA c1 cB
          go_wp2_with fail
          exact ⟨⟨k + 1, by omega, by go_num, HF.out.1, ⟨Y, HYY.out.2.1, HYY.out.2.2, HF.out.2.1, fun _ => by rw [← HYY.out.1]; congr 2; have := HAA.out; omega⟩, HF.out.2.2⟩, by simp [intOf]; omega⟩
    · obtain rfl : n = k := by omega
      have cP := hR.place
      have fP := hR.frozen 44
      have i1 : ¬ (n : Int) < (n : Int) := by omega
      have u2 : IntKind.u64.wrap ((P : Int) + (n : Int)) = (P : Int) + (n : Int) := by simp only [IntKind.wrap, IntKind.bits, IntKind.signed]; simp; omega
      have u3 : ((P : Int) + (n : Int)) % 18446744073709551616 = (P : Int) + (n : Int) := by omega
      rw [List.take_of_length_le (by simp [HV.out.1])] at hown
      have HO : Hid (wr.ownsRow (G + 1) 5 1 u6 n (V.map (Value.int .u8)) ∧ Kept (fun x => x = G) w1 wr ∧ RtAt wr g key nonce P) := ⟨hown, hkp, hR⟩
      clear hown hkp hR hXB hXk hXb hXl
      go_wp2_with fail
      go_ret2
      have hm := HO.out.2.2.move (P + n) (by omega)
      rw [show ((P + n : Nat) : Int) = (P : Int) + (n : Int) by omega] at hm
      have e := H1.out
      refine ⟨_, rfl, ?_, hm, ?_⟩
      · have hg' : ∀ j, u6.ownBlock = some j → g ≠ j := fun j hj => by have := (HO.out.1.lt j hj).1; omega
        rw [e.2.2.2.2.2.2]
        exact ownsRow_base (own_other HO.out.1 hg' _) (by omega)
      · have k1 := HO.out.2.1
        refine ⟨?_, ?_, ?_, ?_, fun j hj hne => ?_⟩
        · show wr.os = w.os; rw [k1.os, e.2.2.2.1.os]
        · show wr.tape = w.tape; rw [k1.tape, e.2.2.2.1.tape]
        · show wr.output = w.output; rw [k1.output, e.2.2.2.1.output]
        · have := k1.size; have := e.2.2.2.1.size; simp [World.setCell]; omega
        · rw [Below.heap_setCell _ _ _ _ (show j ≠ g from hne), k1.block j (by omega) (by omega), e.2.2.2.1.block j hj]
end Go.Proofs.Ytpjnimmclncdoaa
