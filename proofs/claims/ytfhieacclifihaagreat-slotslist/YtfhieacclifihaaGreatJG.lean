/- Joined by program: what the theorem reaches. -/
import Derived.Test.YtfhieacclifihaaGreatJA
import Derived.Test.YtfhieacclifihaaGreatJC
import Derived.Test.YtfhieacclifihaaGreatJF
namespace Go.Proofs.YtfhieacclifihaaGreat
open Go.RowKit
set_option linter.unusedVariables false
set_option linter.unusedSimpArgs false

/-- What a page's first bytes tell. -/
def tellR (zs : List Int) : Int := le (zs.take 8)
def tellC (zs : List Int) : Int := le ((zs.drop 8).take 4)
set_option maxRecDepth 20000 in
set_option maxHeartbeats 1000000 in
theorem phead_any (ao : Option Addr) (n c : Nat) (zs : List Int) (w : World) (hx : Seen w ao n zs) (h28 : 28 ≤ n) (hc : n ≤ c) :
    Calls Tryz.prog 84 #[.slice ao n c] w fun e w' => e = .returned (.tuple #[.int .u64 (tellR zs), .int .u32 (tellC zs), .int .i64 0]) ∧ Below w.heap.size w w' := by
  have i1 : ¬ (n : Int) < 28 := by omega
  have t1 := hx.top
  have S12 : ∀ W, (Instr.sliceAt 66 (.slice ao n c) none (some (.int .i64 12)) none).run Tryz.prog W = .ok (.slice (subA ao 0 c) 12 c) W := fun W => sl_h ao n c 12 (by omega) W
  obtain ⟨T, hT⟩ : ∃ T, zs.take 12 = T := ⟨_, rfl⟩
  have hs : Seen w (subA ao 0 c) 12 T := by
    have h := hx.sub 0 12 c (by omega) (by omega) hc
    rwa [List.drop_zero, Nat.sub_zero, hT] at h
  have HT : Hid (T.length = 12 ∧ T.take 8 = zs.take 8 ∧ (T.drop 8).take 4 = (zs.drop 8).take 4) := ⟨hs.len, by rw [← hT, List.take_take]; rfl, by rw [← hT, List.drop_take, List.take_take]; rfl⟩
  have HS : Hid (Seen w (subA ao 0 c) 12 T) := hs
  have N1 : nxL T 0 0 8 = T.take 8 ∧ nxP T 0 0 8 = 8 ∧ nxE T 0 0 8 = 0 := by
    have h := nx_ok (zs := T) (p := 0) (m := 8) (by have := HT.out.1; omega)
    rw [List.drop_zero, Nat.zero_add] at h; exact h
  have N2 : nxL T 8 0 4 = (T.drop 8).take 4 ∧ nxP T 8 0 4 = 12 ∧ nxE T 8 0 4 = 0 := nx_ok (zs := T) (p := 8) (m := 4) (by have := HT.out.1; omega)
  have HN : Hid ((nxL T 0 0 8 = T.take 8 ∧ nxP T 0 0 8 = 8 ∧ nxE T 0 0 8 = 0) ∧ (nxL T 8 0 4 = (T.drop 8).take 4 ∧ nxP T 8 0 4 = 12 ∧ nxE T 8 0 4 = 0)) := ⟨N1, N2⟩
  have HV : Hid (leV 8 (nxL T 0 0 8).length (nxL T 0 0 8) = tellR zs ∧ leV 4 (nxL T 8 0 4).length (nxL T 8 0 4) = tellC zs ∧ endE T.length 12 0 = 0) := by
    have hl := HT.out.1
    refine ⟨?_, ?_, ?_⟩
    · rw [N1.1, List.length_take, hl]; show leV 8 8 _ = _; rw [leV_ok, HT.out.2.1]; rfl
    · rw [N2.1, List.length_take, List.length_drop, hl]; show leV 4 4 _ = _; rw [leV_ok, HT.out.2.2]; rfl
    · rw [hl]; rfl
  clear hx hT hs N1 N2
  go_enter Tryz.func84, Tryz.ntmps84
  go_wp2_with fail
  refine (newReader_any (subA ao 0 c) 12 c T w HS.out).mono ?_
  rintro e w1 ⟨r, ao', c', rfl, d1, g1, g2, l1⟩
  have D1 : Hid (Rd w1 r ao' c' T 0 0 ∧ w.heap.size ≤ r ∧ Below w.heap.size w w1) := ⟨d1, g1, l1⟩
  clear d1 g1 g2 l1
  go_wp2_with fail
  refine (ru_64 r ao' c' T 0 0 w1 D1.out.1).mono ?_
  rintro e w2 ⟨rfl, d2, k2⟩
  rw [HV.out.1]
  rw [HN.out.1.2.1, HN.out.1.2.2] at d2
  have D2 : Hid (Rd w2 r ao' c' T 8 0 ∧ Below w.heap.size w w2) := ⟨d2, below_kept D1.out.2.2 k2 D1.out.2.2.size (fun j hj => by have := D1.out.2.1; omega)⟩
  clear d2 k2
  go_wp2_with fail
  refine (ru_32 r ao' c' T 8 0 w2 D2.out.1).mono ?_
  rintro e w3 ⟨rfl, d3, k3⟩
  rw [HV.out.2.1]
  rw [HN.out.2.2.1, HN.out.2.2.2] at d3
  have D3 : Hid (Rd w3 r ao' c' T 12 0 ∧ Below w.heap.size w w3) := ⟨d3, below_kept D2.out.2 k3 D2.out.2.size (fun j hj => by have := D1.out.2.1; omega)⟩
  clear d3 k3
  go_wp2_with fail
  refine (end_any r ao' c' T 12 0 w3 D3.out.1).mono ?_
  rintro e w4 ⟨rfl, q, rfl⟩
  rw [HV.out.2.2]
  go_wp2_with fail
  go_ret3
  exact ⟨rfl, below_dn D3.out.2 q⟩

/-- The page of a text. -/
def pageL (key : List Int) (r c p q : Int) (zs : List Int) : List Int := hdL r c ++ boxL key (hdL r c) (moL p q) zs
theorem pageL_length (key : List Int) (r c p q : Int) (zs : List Int) : (pageL key r c p q zs).length = zs.length + 28 := by rw [pageL, List.length_append, hdL_length, boxL_length]; omega
theorem pageL_bytes (key : List Int) (r c p q : Int) {zs : List Int} (h : Bytes zs) : Bytes (pageL key r c p q zs) := bytes_app' (hdL_bytes _ _) (boxL_bytes _ _ _ h)
theorem pageL_head (key : List Int) (r c p q : Int) (zs : List Int) : (pageL key r c p q zs).take 12 = hdL r c := by rw [pageL, List.take_append_of_le_length (by rw [hdL_length]; omega), List.take_of_length_le (by rw [hdL_length]; omega)]
theorem pageL_box (key : List Int) (r c p q : Int) (zs : List Int) : (pageL key r c p q zs).drop 12 = boxL key (hdL r c) (moL p q) zs := by rw [pageL]; exact List.drop_left' (hdL_length r c)
/-- A tuple of bytes of the call's own and a number. -/
def isT (base n : Nat) (zs : List Int) (E : Int) (v : Value) (w : World) : Prop := ∃ u, v = .tuple #[u, .int .i64 E] ∧ isO base n zs u w
theorem isT_later (base n : Nat) (zs : List Int) (E : Int) : ∀ v w w', Below w.heap.size w w' → isT base n zs E v w → isT base n zs E v w' := fun _ _ _ hb ⟨u, h1, h2⟩ => ⟨u, h1, isO_later _ _ _ _ _ _ hb h2⟩
theorem grow_seen {w : World} {b : Addr} {xs : List Int} {n : Nat} (hX : Seen w (some b) n xs) {ao : Option Addr} {m c : Nat} {zs : List Int} (hZ : Seen w ao m zs) (hm : 0 < m) (hb : n + m ≤ 1000000) : ∃ v w', (Builtin.append_ #[66, 66] 66 #[.slice (some b) n n, .slice ao m c]).run Tryz.prog w = .ok v w' ∧ isO w.heap.size (n + m) (xs ++ zs) v w' ∧ Below w.heap.size w w' := by
  obtain ⟨i0, hi, hz0, hz1, hz2⟩ := info_parts info_byte
  obtain ⟨g, o, rfl, _, _⟩ := hZ.cells hm
  have hr := run_append_grow (P := Tryz.prog) (w := w) 66 66 5 i0 (.int .u8 0) Tryz.underlying66 hi hz0 b n n (xs.map (Value.int .u8)) (by rw [List.length_map, hX.len, hz1, Nat.mul_one]) (seen_news hX rfl) ⟨g, o, none⟩ m c (zs.map (Value.int .u8)) (by rw [List.length_map, hZ.len, hz1, Nat.mul_one]) (seen_news hZ rfl) (by omega) (by omega) (growslice_fits (by omega) (by rw [hz2]; omega))
  have hge := grownCap_ge w (n + m) n 5
  have hle := grownCap_le_maxLen w (n + m) n 5 (by unfold maxLen; omega)
  refine ⟨_, _, hr, ⟨by rw [List.length_map, List.length_append, hX.len, hZ.len, Nat.mul_one], .inr ⟨w.heap.size, _, _, rfl, Nat.le_refl _, heap_alloc_new w.drew _, hge, hle, ?_, ?_⟩⟩, below_ahead (k := 1) ((Below.refl _ (w.drewN 1)).alloc (Nat.le_refl _) _)⟩
  · simp [Builtin.zeroCells, Value.cells, hX.len, hZ.len]; omega
  · rw [Nat.mul_one, Array.toList_append, Array.toList_append, List.map_append]
    exact List.take_left' (by simp [hX.len, hZ.len])
theorem pown_sl {w : World} {B n : Nat} {v : Value} {zs : List Int} (hl : zs.length = n) (hb : Bytes zs) (ht : n ≤ 140737488355328) (o : isO B n zs v w) : ∃ vo cap, v = .slice vo n cap ∧ Seen w vo n zs ∧ n ≤ cap ∧ (vo = none → cap = 0) := by
  subst hl
  obtain ⟨a1, a2, a3, a4, a5, a6, _⟩ := own_data hb ht o
  exact ⟨a1, a2, a3, a4, a5, a6⟩
theorem wpList_append_go {ops : Array Oper} {rest : List Oper} {o : Oper} {a : Act} {Q : Exit → Act → World → Prop} {w : World} (hgd : o.guard = none) (s x : Operand) (t ty : TypeId) (ho : o.op = .call { callee := .builtin .append, args := #[s, x], argTypes := #[t, t] }) (hty : o.type = ty)
    (va vb : Value) (hs : a.eval s = va) (hx : a.eval x = vb) (v' : Value) (w' : World) (hr : (Builtin.append_ #[t, t] ty #[va, vb]).run Tryz.prog w = .ok v' w') (h : wpList Tryz.prog ops Q rest (a.put o.dst v') w') : wpList Tryz.prog ops Q (o :: rest) a w := by
  refine wpList_plain hgd fun K hK => ?_
  subst hty
  unfold Oper.wp execOp
  simp only [ho, resolve, invoke, builtin, Sem.run_bind, Sem.run_pure, Result.andThen_ok, List.map_toArray, List.map_cons, List.map_nil, hs, hx, hr]
  exact hK _ _ h
theorem seen12 {w : World} {g : Nat} {H : List Int} (b : Blk w g 124 (u8s H)) (hl : H.length = 12) (hb : Bytes H) : Seen w (some ⟨g, 0, none⟩) 12 H := by
  have h := seen_blk b hb (by omega)
  rwa [hl] at h
theorem sl_arr12 (g : Nat) (w : World) : (Instr.sliceAt 124 (.pointer (some ⟨g, 0, none⟩)) none none none).run Tryz.prog w = .ok (.slice (some ⟨g, 0, none⟩) 12 12) w := by kernel_rfl
theorem pzKey : (Tryz.prog.info? 150).map (·.size) = some 4 := by kernel_rfl
theorem placeC_one (r c p q : Int) : ∀ v ∈ placeC r c p q, v.oneCell' = true := by intro v hv; simp [placeC] at hv; rcases hv with rfl | rfl | rfl | rfl <;> rfl

set_option maxRecDepth 20000 in
set_option maxHeartbeats 1000000 in
theorem pseal_any (key : List Int) (r c p q : Int) (bo : Option Addr) (m d : Nat) (zs : List Int) (hk : key.length = 32) (hkb : Bytes key) (hr : Word r) (hc : U32 c) (hp : U32 p) (hq : U32 q) (hm : m ≤ 4096) (w : World) (hy : Seen w bo m zs) (hd : m ≤ d) :
    Calls Tryz.prog 78 #[.agg (u8s key).toArray, .agg (placeC r c p q).toArray, .slice bo m d] w fun e w' => ∃ v, e = .returned (.tuple #[v, .int .i64 0]) ∧ isO w.heap.size (m + 28) (pageL key r c p q zs) v w' ∧ Below w.heap.size w w' := by
  have i1 : ¬ (4096 : Int) < (m : Int) := by omega
  obtain ⟨H, hH⟩ : ∃ H, hdL r c = H := ⟨_, rfl⟩
  obtain ⟨M, hM⟩ : ∃ H, moL p q = H := ⟨_, rfl⟩
  obtain ⟨X, hX⟩ : ∃ X, boxL key H M zs = X := ⟨_, rfl⟩
  have HH : Hid (hdL r c = H ∧ H.length = 12 ∧ Bytes H) := ⟨hH, by rw [← hH]; exact hdL_length r c, by rw [← hH]; exact hdL_bytes r c⟩
  have HM : Hid (moL p q = M ∧ M.length = 8 ∧ Bytes M) := ⟨hM, by rw [← hM]; exact moL_length p q, by rw [← hM]; exact moL_bytes p q⟩
  have HX : Hid (boxL key H M zs = X ∧ X.length = m + 16 ∧ Bytes X ∧ pageL key r c p q zs = H ++ X) := ⟨hX, by rw [← hX, boxL_length, hy.len], by rw [← hX]; exact boxL_bytes _ _ _ hy.bytes, by rw [pageL, hH, hM, hX]⟩
  have HK : Hid (key.length = 32 ∧ Bytes key ∧ Word r ∧ U32 c ∧ U32 p ∧ U32 q ∧ m ≤ 4096 ∧ m ≤ d) := ⟨hk, hkb, hr, hc, hp, hq, hm, hd⟩
  have HY : Hid (Seen w bo m zs) := hy
  clear hH hM hX hk hkb hr hc hp hq hy hd
  go_enter Tryz.func78, Tryz.ntmps78
  go_wp2_with (first | (refine wpList_box_new rfl 41 _ rfl (u8s key) rfl ?_; intro w1 b1 s1 l1) | (refine wpList_box_new rfl 150 _ rfl (placeC r c p q) rfl ?_; intro w2 b2 s2 l2) | (refine wpList_load_blk rfl 150 _ rfl _ rfl (placeC r c p q) _ (by first | exact b2 | (rw [← s1]; exact b2)) Tryz.underlying150 rfl pzKey ?_))
  refine (headOf_any r c p q HK.out.2.2.1 HK.out.2.2.2.1 w2).mono ?_
  rintro e w3 ⟨rfl, l3⟩
  rw [HH.out.1]
  have q3 := l3.size
  go_wp2_with (first | (refine wpList_alloc_new rfl 124 rfl 12 _ pzNonce ?_; intro w4 b4 s4 l4) | (refine wpList_store_blk rfl 124 124 _ _ rfl _ rfl _ (u8s H) rfl b4 (by rw [u8s_length, HH.out.2.1]; rfl) (by rw [u8s_length, HH.out.2.1]; exact sizeNonce) (u8s_one _) ?_; intro w5 b5 s5 k5))
  rw [s1] at b2
  have V : Hid (Blk w5 w.heap.size 41 (u8s key) ∧ Blk w5 (w.heap.size + 1) 150 (placeC r c p q) ∧ Blk w5 w3.heap.size 124 (u8s H) ∧ Below w.heap.size w w5 ∧ Seen w5 bo m zs) := by
    have L4 : Below w2.heap.size w2 w4 := below_chain l3 l4 (by omega)
    have L5 : Below w2.heap.size w2 w5 := below_kept L4 k5 (by omega) (fun j hj => by omega)
    have L : Below w.heap.size w w5 := below_chain (below_chain l1 l2 (by omega)) L5 (by omega)
    exact ⟨(b1.later l2 (by omega)).later L5 (by omega), b2.later L5 (by omega), b5, L, HY.out.later L (Nat.le_refl _)⟩
  clear b1 b2 b4 b5 l1 l2 l3 l4 k5 s2 s4 s5 q3 s1
  simp only [Act.put, List.setIfInBounds_toArray, List.set_cons_zero, List.set_cons_succ]
  refine region_inv [.val (.agg (u8s key).toArray), .val (.agg (u8s H).toArray), .val (.agg (placeC r c p q).toArray), .any (isO w.heap.size 8 M) (isO_later _ _ _), .val (.slice bo m d), .any (isT w.heap.size (m + 16) X 0) (isT_later _ _ _ _), .any (isT w.heap.size (m + 16) X 0) (isT_later _ _ _ _), .any (isO w.heap.size (m + 16) X) (isO_later _ _ _), .val (.int .i64 0), .any (isO w.heap.size (m + 16) X) (isO_later _ _ _)] (by kernel_rfl) (by kernel_rfl) (by kernel_rfl) ?_ ?_
  · refine Steps'.cons ?_ (Steps'.cons ?_ (Steps'.cons ?_ (Steps'.cons ?_ (Steps'.cons ?_ (Steps'.cons ?_ (Steps'.cons ?_ (Steps'.cons ?_ (Steps'.cons ?_ (Steps'.cons ?_ (Steps'.one _ _ _ _ _ _ _))))))))))
    · intro ax wx hb hs hd
      have h3 : ax.tmps.getD 3 undef = (.pointer (some ⟨w.heap.size, 0, none⟩)) := hs 3 (by kernel_rfl)
      exact Does.load 41 (.tmp 3) rfl w.heap.size 0 h3 (u8s key) _ ((V.out.1).later hb (V.out.1).lt).all Tryz.underlying41 rfl (by rw [u8s_length, HK.out.1]; exact sizeKey)
    · intro ax wx hb hs hd
      have h8 : ax.tmps.getD 8 undef = (.pointer (some ⟨w3.heap.size, 0, none⟩)) := hs 8 (by kernel_rfl)
      exact Does.load 124 (.tmp 8) rfl w3.heap.size 0 h8 (u8s H) _ ((V.out.2.2.1).later hb (V.out.2.2.1).lt).all Tryz.underlying124 rfl (by rw [u8s_length, HH.out.2.1]; exact sizeNonce)
    · intro ax wx hb hs hd
      have h4 : ax.tmps.getD 4 undef = (.pointer (some ⟨w.heap.size + 1, 0, none⟩)) := hs 4 (by kernel_rfl)
      exact Does.load 150 (.tmp 4) rfl (w.heap.size + 1) 0 h4 (placeC r c p q) _ ((V.out.2.1).later hb (V.out.2.1).lt).all Tryz.underlying150 rfl pzKey
    · intro ax wx hb hs hd
      have h19 : ax.tmps.getD 19 undef = (.agg (placeC r c p q).toArray) := hd 2 19 rfl (by kernel_rfl) (by decide)
      refine Does.call 82 #[.agg (placeC r c p q).toArray] (by clear hs hd; go_simp) ?_
      refine (vouch_any r c p q HK.out.2.2.2.2.1 HK.out.2.2.2.2.2.1 wx).mono ?_
      rintro e w' ⟨v, rfl, o, l⟩
      rw [HM.out.1] at o
      exact ⟨_, rfl, ownsRow_base o (by have := hb.size; have := V.out.2.2.2.1.size; omega), l⟩
    · intro ax wx hb hs hd
      have h2 : ax.tmps.getD 2 undef = (.slice bo m d) := hs 2 (by kernel_rfl)
      refine Does.value (.slice bo m d) ?_ rfl
      clear hs hd
      go_simp
    · intro ax wx hb hs hd
      have h17 : ax.tmps.getD 17 undef = (.agg (u8s key).toArray) := hd 0 17 rfl (by kernel_rfl) (by decide)
      have h18 : ax.tmps.getD 18 undef = (.agg (u8s H).toArray) := hd 1 18 rfl (by kernel_rfl) (by decide)
      have p20 : (isO w.heap.size 8 M) (ax.tmps.getD 20 undef) wx := hd 3 20 rfl (by kernel_rfl) (by decide)
      have h21 : ax.tmps.getD 21 undef = (.slice bo m d) := hd 4 21 rfl (by kernel_rfl) (by decide)
      obtain ⟨mo, mc, h20, s20, c20, _⟩ := pown_sl HM.out.2.1 HM.out.2.2 (by decide) p20
      clear p20
      refine Does.call 81 #[.agg (u8s key).toArray, .agg (u8s H).toArray, .slice mo 8 mc, .slice bo m d] (by clear hs hd; go_simp) ?_
      refine (seal_any key H 8 mc m d mo bo M zs HK.out.1 HH.out.2.1 HK.out.2.1 HH.out.2.2 (by decide) (by have := HK.out.2.2.2.2.2.2.1; omega) wx s20 (V.out.2.2.2.2.later hb (Nat.le_refl _)) c20 HK.out.2.2.2.2.2.2.2).mono ?_
      rintro e w' ⟨v, rfl, o, l⟩
      rw [HX.out.1] at o
      exact ⟨_, rfl, ⟨v, rfl, ownsRow_base o (by have := hb.size; have := V.out.2.2.2.1.size; omega)⟩, l⟩
    · intro ax wx hb hs hd
      have p22 : (isT w.heap.size (m + 16) X 0) (ax.tmps.getD 22 undef) wx := hd 5 22 rfl (by kernel_rfl) (by decide)
      obtain ⟨u, h22, o⟩ := p22
      refine Does.value (.tuple #[u, .int .i64 0]) ?_ ⟨u, rfl, o⟩
      clear hs hd
      go_simp
    · intro ax wx hb hs hd
      have p16 : (isT w.heap.size (m + 16) X 0) (ax.tmps.getD 16 undef) wx := hd 6 16 rfl (by kernel_rfl) (by decide)
      obtain ⟨u, h16, o⟩ := p16
      refine Does.value u ?_ o
      clear hs hd
      go_simp
    · intro ax wx hb hs hd
      have p16 : (isT w.heap.size (m + 16) X 0) (ax.tmps.getD 16 undef) wx := hd 6 16 rfl (by kernel_rfl) (by decide)
      obtain ⟨u, h16, o⟩ := p16
      refine Does.value (.int .i64 0) ?_ rfl
      clear hs hd
      go_simp
    · intro ax wx hb hs hd
      have p23 : (isO w.heap.size (m + 16) X) (ax.tmps.getD 23 undef) wx := hd 7 23 rfl (by kernel_rfl) (by decide)
      obtain ⟨u, h23⟩ : ∃ u, ax.tmps.getD 23 undef = u := ⟨_, rfl⟩
      rw [h23] at p23
      refine Does.value u ?_ p23
      clear hs hd
      go_simp
  · intro wx hb
    refine @Ends.val _ _ _ _ _ _ _ _ _ (.agg (u8s key).toArray) rfl ?_
    refine @Ends.val _ _ _ _ _ _ _ _ _ (.agg (u8s H).toArray) rfl ?_
    refine @Ends.val _ _ _ _ _ _ _ _ _ (.agg (placeC r c p q).toArray) rfl ?_
    refine @Ends.any _ _ _ _ _ _ _ _ _ (isO w.heap.size 8 M) (isO_later _ _ _) rfl ?_
    intro v20 p20
    refine @Ends.val _ _ _ _ _ _ _ _ _ (.slice bo m d) rfl ?_
    refine @Ends.any _ _ _ _ _ _ _ _ _ (isT w.heap.size (m + 16) X 0) (isT_later _ _ _ _) rfl ?_
    intro v22 p22
    refine @Ends.any _ _ _ _ _ _ _ _ _ (isT w.heap.size (m + 16) X 0) (isT_later _ _ _ _) rfl ?_
    intro v16 p16
    refine @Ends.any _ _ _ _ _ _ _ _ _ (isO w.heap.size (m + 16) X) (isO_later _ _ _) rfl ?_
    intro v23 p23
    refine @Ends.val _ _ _ _ _ _ _ _ _ (.int .i64 0) rfl ?_
    refine @Ends.any _ _ _ _ _ _ _ _ _ (isO w.heap.size (m + 16) X) (isO_later _ _ _) rfl ?_
    intro v9 p9
    refine @Ends.one _ _ _ _ _ _ _ ?_
    simp only [Act.put, List.setIfInBounds_toArray, List.set_cons_zero, List.set_cons_succ]
    obtain ⟨xo, xc, rfl, sx, cx, nx⟩ := pown_sl HX.out.2.1 HX.out.2.2.1 (by omega) p9
    have W1 : Hid (Blk wx w3.heap.size 124 (u8s H) ∧ Below w.heap.size w wx ∧ Seen wx xo (m + 16) X) := ⟨V.out.2.2.1.later hb V.out.2.2.1.lt, below_chain V.out.2.2.2.1 hb V.out.2.2.2.1.size, sx⟩
    clear p9 p23 p22 p20 p16 sx nx
    refine last_assign (.tmp 24) rfl (some 10) rfl (.int .i64 0) rfl ?_
    simp only [Act.put, List.setIfInBounds_toArray, List.set_cons_zero, List.set_cons_succ]
    have SA := sl_arr12 w3.heap.size
    obtain ⟨v7, w7, hr7, o7, l7⟩ := grow_seen (c := xc) (seen12 W1.out.1 HH.out.2.1 HH.out.2.2) W1.out.2.2 (by omega) (by omega)
    have G7 : Hid (isO wx.heap.size (12 + (m + 16)) (H ++ X) v7 w7 ∧ Below wx.heap.size wx w7) := ⟨o7, l7⟩
    clear o7 l7
    go_wp2_with (first | (go_at_call 83; refine (is_any 0 _).mono ?_; rintro e w' ⟨rfl, rfl⟩; rw [show ((0 : Int) == 0) = true from rfl]) | (at_builtin; refine wpList_append_go rfl _ _ 66 66 rfl rfl _ _ rfl rfl v7 w7 hr7 ?_))
    go_ret2
    exact ⟨_, rfl, by rw [HX.out.2.2.2, show m + 28 = 12 + (m + 16) by omega]; exact ownsRow_base G7.out.1 W1.out.2.1.size, below_chain W1.out.2.1 G7.out.2 W1.out.2.1.size⟩
end Go.Proofs.YtfhieacclifihaaGreat
namespace Go.Proofs.YtfhieacclifihaaGreat
open Go.RowKit
set_option linter.unusedVariables false
set_option linter.unusedSimpArgs false

theorem neq_place (r c p q r' c' : Int) (w : World) : (binOp .neq 150 (.agg (placeC r c p q).toArray) (.agg (placeC r' c' p q).toArray)).run Tryz.prog w = .ok (.bool (!(r == r' && c == c'))) w := by
  have hf : Tryz.prog.underlying 150 = some (.struct (Tryz.prog.fieldsOf 150)) := by kernel_rfl
  have hp : Tryz.prog.stoodInHeld 150 = false := by kernel_rfl
  have hl : (Tryz.prog.fieldsOf 150).toList = [{ name := "Round", type := 42, offset := 0, embedded := false, tag := "", pkgPath := "", byteOffset := 0 }, { name := "Counter", type := 92, offset := 1, embedded := false, tag := "", pkgPath := "", byteOffset := 8 }, { name := "Page", type := 92, offset := 2, embedded := false, tag := "", pkgPath := "", byteOffset := 12 }, { name := "Version", type := 92, offset := 3, embedded := false, tag := "", pkgPath := "", byteOffset := 16 }] := by kernel_rfl
  rw [run_neq_struct, run_equalIn_struct w 9999 150 _ _ hf hp, hl]
  have p0 : ∀ r c : Int, (Go.part 42 (placeC r c p q).toArray 0).run Tryz.prog w = .ok (.int .u64 r) w := fun r c => by simp [Go.part, isAgg, run_underlying Tryz.underlying42, placeC]
  have p1 : ∀ r c : Int, (Go.part 92 (placeC r c p q).toArray 1).run Tryz.prog w = .ok (.int .u32 c) w := fun r c => by simp [Go.part, isAgg, run_underlying Tryz.underlying92, placeC]
  have p2 : ∀ r c : Int, (Go.part 92 (placeC r c p q).toArray 2).run Tryz.prog w = .ok (.int .u32 p) w := fun r c => by simp [Go.part, isAgg, run_underlying Tryz.underlying92, placeC]
  have p3 : ∀ r c : Int, (Go.part 92 (placeC r c p q).toArray 3).run Tryz.prog w = .ok (.int .u32 q) w := fun r c => by simp [Go.part, isAgg, run_underlying Tryz.underlying92, placeC]
  have q0 : ∀ x y : Int, (Op.equalIn 9999 42 (.int .u64 x) (.int .u64 y)).run Tryz.prog w = .ok (x == y) w := fun x y => by rw [run_equalIn_int w 9998 42 .u64 .u64 _ _ Tryz.underlying42]
  have q1 : ∀ x y : Int, (Op.equalIn 9999 92 (.int .u32 x) (.int .u32 y)).run Tryz.prog w = .ok (x == y) w := fun x y => by rw [run_equalIn_int w 9998 92 .u32 .u32 _ _ Tryz.underlying92]
  cases h0 : (r == r') <;> cases h1 : (c == c') <;> simp [Op.eqFields, p0, p1, p2, p3, q0, q1, h0, h1]
theorem pbuild (r c p q : Int) (w : World) : (Instr.build 150 #[(0, .int .u64 r), (1, .int .u32 c), (2, .int .u32 p), (3, .int .u32 q)]).run Tryz.prog w = .ok (.agg (placeC r c p q).toArray) w := by kernel_rfl
theorem pzPlace : (Tryz.prog.info? 150).map (fun i => (i.zero, i.size)) = some (some (.agg (placeC 0 0 0 0).toArray), 4) := by kernel_rfl
/-- What a page's first bytes tell is its head. -/
theorem tell_head {zs : List Int} {r c : Int} (hb : Bytes zs) (hl : 12 ≤ zs.length) (hr : Word r) (hc : U32 c) : (tellR zs = r ∧ tellC zs = c) ↔ zs.take 12 = hdL r c := by
  have e8 : (zs.take 8).length = 8 := by simp; omega
  have e4 : ((zs.drop 8).take 4).length = 4 := by simp; omega
  have ex : zs.take 12 = zs.take 8 ++ (zs.drop 8).take 4 := by rw [show 12 = 8 + 4 from rfl, List.take_add]
  constructor
  · rintro ⟨rfl, rfl⟩
    have h8 := leB_le (zs.take 8) (fun z hz => hb z (List.mem_of_mem_take hz))
    have h4 := leB_le ((zs.drop 8).take 4) (fun z hz => hb z (List.mem_of_mem_drop (List.mem_of_mem_take hz)))
    rw [e8] at h8
    rw [e4] at h4
    rw [ex, hdL, tellR, tellC, h8, h4]
  · intro h
    rw [ex, hdL] at h
    have hh := List.append_inj h (by rw [e8, leB_length])
    rw [tellR, tellC, hh.1, hh.2, le_leB, le_leB]
    have h1 := hr.1
    have h2 := hr.2
    have h3 := hc.1
    have h4 := hc.2
    exact ⟨Int.emod_eq_of_lt h1 (by omega), Int.emod_eq_of_lt h3 (by omega)⟩

set_option maxRecDepth 20000 in
set_option maxHeartbeats 1000000 in
theorem popen_long (key : List Int) (r c p q : Int) (bo : Option Addr) (m d : Nat) (t1 : m ≤ 140737488355328) (hm : 4124 < m) (w : World) :
    Calls Tryz.prog 79 #[.agg (u8s key).toArray, .agg (placeC r c p q).toArray, .slice bo m d] w fun e w' => e = .returned (.tuple #[.slice none 0 0, .int .i64 120]) ∧ Below w.heap.size w w' := by
  have i1 : (4124 : Int) < (m : Int) := by omega
  go_enter Tryz.func79, Tryz.ntmps79
  go_wp2_with (first | (refine wpList_box_new rfl 41 _ rfl (u8s key) rfl ?_; intro w1 b1 s1 l1) | (refine wpList_box_new rfl 150 _ rfl (placeC r c p q) rfl ?_; intro w2 b2 s2 l2))
  go_ret2
  exact ⟨rfl, below_chain l1 l2 (by omega)⟩
set_option maxRecDepth 20000 in
set_option maxHeartbeats 1000000 in
theorem popen_else (key : List Int) (r c p q : Int) (bo : Option Addr) (m d : Nat) (zs : List Int) (h28 : 28 ≤ m) (hm : m ≤ 4124) (w : World) (hy : Seen w bo m zs) (hd : m ≤ d) (hne : (tellR zs == r && tellC zs == c) = false) :
    Calls Tryz.prog 79 #[.agg (u8s key).toArray, .agg (placeC r c p q).toArray, .slice bo m d] w fun e w' => e = .returned (.tuple #[.slice none 0 0, .int .i64 120]) ∧ Below w.heap.size w w' := by
  have i1 : ¬ (4124 : Int) < (m : Int) := by omega
  have HY : Hid (Seen w bo m zs) := hy
  have HD : Hid (m ≤ d) := hd
  obtain ⟨R, hR⟩ : ∃ R, tellR zs = R := ⟨_, rfl⟩
  obtain ⟨C, hC⟩ : ∃ C, tellC zs = C := ⟨_, rfl⟩
  have HT : Hid (tellR zs = R ∧ tellC zs = C) := ⟨hR, hC⟩
  have HE : Hid ((!(R == r && C == c)) = true) := by show (!(R == r && C == c)) = true; rw [← hR, ← hC, hne]; rfl
  clear hy hd hR hC hne
  go_enter Tryz.func79, Tryz.ntmps79
  go_wp2_with (first | (refine wpList_box_new rfl 41 _ rfl (u8s key) rfl ?_; intro w1 b1 s1 l1) | (refine wpList_box_new rfl 150 _ rfl (placeC r c p q) rfl ?_; intro w2 b2 s2 l2))
  refine (phead_any bo m d zs w2 (HY.out.later (below_chain l1 l2 (by omega)) (Nat.le_refl _)) h28 HD.out).mono ?_
  rintro e w3 ⟨rfl, l3⟩
  rw [HT.out.1, HT.out.2]
  have q3 := l3.size
  rw [s1] at b2
  have V3 : Hid (Blk w3 w.heap.size 41 (u8s key) ∧ Blk w3 (w.heap.size + 1) 150 (placeC r c p q) ∧ Below w.heap.size w w3) := ⟨(b1.later l2 (by omega)).later l3 (by omega), b2.later l3 (by omega), below_chain (below_chain l1 l2 (by omega)) l3 (by omega)⟩
  have cp : w3.cell? ⟨w.heap.size + 1, 2, none⟩ = some (.int .u32 p) := V3.out.2.1.cell 2
  have cq : w3.cell? ⟨w.heap.size + 1, 3, none⟩ = some (.int .u32 q) := V3.out.2.1.cell 3
  clear b1 b2 l1 l2 l3 s2 s1 q3
  have NP := neq_place R C p q r c
  rw [HE.out] at NP
  go_wp2_with (first | (refine wpList_build rfl 150 _ rfl #[(0, .int .u64 R), (1, .int .u32 C), (2, .int .u32 p), (3, .int .u32 q)] (by simp only [List.map_toArray, List.map_cons, List.map_nil]; rfl) _ (pbuild R C p q _) ?_) | (refine wpList_alloc_new rfl 150 rfl 4 _ pzPlace ?_; intro w4 b4 s4 l4) | (refine wpList_store_blk rfl 150 150 _ _ rfl _ rfl _ (placeC R C p q) rfl b4 rfl pzKey (placeC_one _ _ _ _) ?_; intro w5 b5 s5 k5; have V5 : Hid (Blk w5 w.heap.size 41 (u8s key) ∧ Blk w5 (w.heap.size + 1) 150 (placeC r c p q) ∧ Below w.heap.size w w5 ∧ Blk w5 w3.heap.size 150 (placeC R C p q)) := (by have L5 : Below w3.heap.size w3 w5 := below_kept l4 k5 (by omega) (fun j hj => by omega); exact ⟨V3.out.1.later L5 V3.out.1.lt, V3.out.2.1.later L5 V3.out.2.1.lt, below_chain V3.out.2.2 L5 V3.out.2.2.size, b5⟩)) | ((with_reducible show wpList _ _ _ (({ dst := some 31, op := _, type := _, pos := _, after := _, guard := _ } : Oper) :: _) _ _); refine wpList_load_blk rfl 150 _ rfl _ rfl (placeC R C p q) _ V5.out.2.2.2 Tryz.underlying150 rfl pzKey ?_) | ((with_reducible show wpList _ _ _ (({ dst := some 32, op := _, type := _, pos := _, after := _, guard := _ } : Oper) :: _) _ _); refine wpList_load_blk rfl 150 _ rfl _ rfl (placeC r c p q) _ V5.out.2.1 Tryz.underlying150 rfl pzKey ?_))
  go_ret2
  exact ⟨rfl, V5.out.2.2.1⟩
set_option maxRecDepth 20000 in
set_option maxHeartbeats 2000000 in
theorem popen_no (key : List Int) (r c p q : Int) (bo : Option Addr) (m d : Nat) (zs : List Int) (hk : key.length = 32) (hkb : Bytes key) (hr : Word r) (hc : U32 c) (hp : U32 p) (hq : U32 q) (h28 : 28 ≤ m) (hm : m ≤ 4124) (w : World) (hy : Seen w bo m zs) (hd : m ≤ d) (heq : (tellR zs == r && tellC zs == c) = true) (hO : opensL key (hdL r c) (moL p q) (zs.drop 12) = false) :
    Calls Tryz.prog 79 #[.agg (u8s key).toArray, .agg (placeC r c p q).toArray, .slice bo m d] w fun e w' => e = .returned (.tuple #[.slice none 0 0, .int .i64 120]) ∧ Below w.heap.size w w' := by
  have i1 : ¬ (4124 : Int) < (m : Int) := by omega
  have HY : Hid (Seen w bo m zs) := hy
  have HD : Hid (m ≤ d) := hd
  obtain ⟨R, hR⟩ : ∃ R, tellR zs = R := ⟨_, rfl⟩
  obtain ⟨C, hC⟩ : ∃ C, tellC zs = C := ⟨_, rfl⟩
  have HT : Hid (tellR zs = R ∧ tellC zs = C) := ⟨hR, hC⟩
  have HE : Hid ((!(R == r && C == c)) = false) := by show (!(R == r && C == c)) = false; rw [← hR, ← hC, heq]; rfl
  obtain ⟨H, hH⟩ : ∃ H, hdL r c = H := ⟨_, rfl⟩
  obtain ⟨M, hM⟩ : ∃ H, moL p q = H := ⟨_, rfl⟩
  obtain ⟨B, hB⟩ : ∃ B, zs.drop 12 = B := ⟨_, rfl⟩
  have HH : Hid (hdL r c = H ∧ H.length = 12 ∧ Bytes H) := ⟨hH, by rw [← hH]; exact hdL_length r c, by rw [← hH]; exact hdL_bytes r c⟩
  have HM : Hid (moL p q = M ∧ M.length = 8 ∧ Bytes M) := ⟨hM, by rw [← hM]; exact moL_length p q, by rw [← hM]; exact moL_bytes p q⟩
  have HB : Hid ((∀ W, (Instr.sliceAt 66 (.slice bo m d) (some (.int .i64 12)) none none).run Tryz.prog W = .ok (.slice (subA bo 12 d) (m - 12) (d - 12)) W) ∧ Seen w (subA bo 12 d) (m - 12) B ∧ opensL key H M B = false) := by
    refine ⟨fun W => sl_l bo m d 12 (by omega) W, ?_, by rw [← hH, ← hM, ← hB]; exact hO⟩
    have h := hy.sub 12 m d (by omega) (Nat.le_refl _) hd
    rwa [hB, List.take_of_length_le (by rw [← hB, List.length_drop, hy.len]; omega)] at h
  have HK : Hid (key.length = 32 ∧ Bytes key ∧ Word r ∧ U32 c ∧ U32 p ∧ U32 q) := ⟨hk, hkb, hr, hc, hp, hq⟩
  clear hy hd hR hC heq hH hM hB hk hkb hr hc hp hq hO
  go_enter Tryz.func79, Tryz.ntmps79
  go_wp2_with (first | (refine wpList_box_new rfl 41 _ rfl (u8s key) rfl ?_; intro w1 b1 s1 l1) | (refine wpList_box_new rfl 150 _ rfl (placeC r c p q) rfl ?_; intro w2 b2 s2 l2))
  refine (phead_any bo m d zs w2 (HY.out.later (below_chain l1 l2 (by omega)) (Nat.le_refl _)) h28 HD.out).mono ?_
  rintro e w3 ⟨rfl, l3⟩
  rw [HT.out.1, HT.out.2]
  have q3 := l3.size
  rw [s1] at b2
  have V3 : Hid (Blk w3 w.heap.size 41 (u8s key) ∧ Blk w3 (w.heap.size + 1) 150 (placeC r c p q) ∧ Below w.heap.size w w3) := ⟨(b1.later l2 (by omega)).later l3 (by omega), b2.later l3 (by omega), below_chain (below_chain l1 l2 (by omega)) l3 (by omega)⟩
  have cp : w3.cell? ⟨w.heap.size + 1, 2, none⟩ = some (.int .u32 p) := V3.out.2.1.cell 2
  have cq : w3.cell? ⟨w.heap.size + 1, 3, none⟩ = some (.int .u32 q) := V3.out.2.1.cell 3
  clear b1 b2 l1 l2 l3 s2 s1 q3
  have NP := neq_place R C p q r c
  rw [HE.out] at NP
  go_wp2_with (first | (refine wpList_build rfl 150 _ rfl #[(0, .int .u64 R), (1, .int .u32 C), (2, .int .u32 p), (3, .int .u32 q)] (by simp only [List.map_toArray, List.map_cons, List.map_nil]; rfl) _ (pbuild R C p q _) ?_) | (refine wpList_alloc_new rfl 150 rfl 4 _ pzPlace ?_; intro w4 b4 s4 l4) | (refine wpList_store_blk rfl 150 150 _ _ rfl _ rfl _ (placeC R C p q) rfl b4 rfl pzKey (placeC_one _ _ _ _) ?_; intro w5 b5 s5 k5; have V5 : Hid (Blk w5 w.heap.size 41 (u8s key) ∧ Blk w5 (w.heap.size + 1) 150 (placeC r c p q) ∧ Below w.heap.size w w5 ∧ Blk w5 w3.heap.size 150 (placeC R C p q)) := (by have L5 : Below w3.heap.size w3 w5 := below_kept l4 k5 (by omega) (fun j hj => by omega); exact ⟨V3.out.1.later L5 V3.out.1.lt, V3.out.2.1.later L5 V3.out.2.1.lt, below_chain V3.out.2.2 L5 V3.out.2.2.size, b5⟩)) | ((with_reducible show wpList _ _ _ (({ dst := some 31, op := _, type := _, pos := _, after := _, guard := _ } : Oper) :: _) _ _); refine wpList_load_blk rfl 150 _ rfl _ rfl (placeC R C p q) _ V5.out.2.2.2 Tryz.underlying150 rfl pzKey ?_) | ((with_reducible show wpList _ _ _ (({ dst := some 32, op := _, type := _, pos := _, after := _, guard := _ } : Oper) :: _) _ _); refine wpList_load_blk rfl 150 _ rfl _ rfl (placeC r c p q) _ V5.out.2.1 Tryz.underlying150 rfl pzKey ?_))
  clear NP cp cq b4 s4 l4 b5 s5 k5
  refine region_inv [.val (.agg (u8s key).toArray), .val (.agg (placeC r c p q).toArray), .val (.agg (u8s H).toArray), .val (.agg (placeC r c p q).toArray), .any (isO w.heap.size 8 M) (isO_later _ _ _), .val (.slice bo m d), .val (.slice (subA bo 12 d) (m - 12) (d - 12)), .val (.tuple #[.slice none 0 0, .int .i64 70]), .val (.tuple #[.slice none 0 0, .int .i64 70]), .val (.slice none 0 0), .val (.int .i64 70), .val (.slice none 0 0)] (by kernel_rfl) (by kernel_rfl) (by kernel_rfl) ?_ ?_
  · refine Steps'.cons ?_ (Steps'.cons ?_ (Steps'.cons ?_ (Steps'.cons ?_ (Steps'.cons ?_ (Steps'.cons ?_ (Steps'.cons ?_ (Steps'.cons ?_ (Steps'.cons ?_ (Steps'.cons ?_ (Steps'.cons ?_ (Steps'.cons ?_ (Steps'.one _ _ _ _ _ _ _))))))))))))
    · intro ax wx hb hs hd
      have h3 : ax.tmps.getD 3 undef = (.pointer (some ⟨w.heap.size, 0, none⟩)) := hs 3 (by kernel_rfl)
      exact Does.load 41 (.tmp 3) rfl w.heap.size 0 h3 (u8s key) _ ((V5.out.1).later hb (V5.out.1).lt).all Tryz.underlying41 rfl (by rw [u8s_length, HK.out.1]; exact sizeKey)
    · intro ax wx hb hs hd
      have h4 : ax.tmps.getD 4 undef = (.pointer (some ⟨w.heap.size + 1, 0, none⟩)) := hs 4 (by kernel_rfl)
      exact Does.load 150 (.tmp 4) rfl (w.heap.size + 1) 0 h4 (placeC r c p q) _ ((V5.out.2.1).later hb (V5.out.2.1).lt).all Tryz.underlying150 rfl pzKey
    · intro ax wx hb hs hd
      have h36 : ax.tmps.getD 36 undef = (.agg (placeC r c p q).toArray) := hd 1 36 rfl (by kernel_rfl) (by decide)
      refine Does.call 80 #[.agg (placeC r c p q).toArray] (by clear hs hd; go_simp) ?_
      refine (headOf_any r c p q HK.out.2.2.1 HK.out.2.2.2.1 wx).mono ?_
      rintro e w' ⟨rfl, l⟩
      rw [HH.out.1]
      exact ⟨_, rfl, rfl, l⟩
    · intro ax wx hb hs hd
      have h4 : ax.tmps.getD 4 undef = (.pointer (some ⟨w.heap.size + 1, 0, none⟩)) := hs 4 (by kernel_rfl)
      exact Does.load 150 (.tmp 4) rfl (w.heap.size + 1) 0 h4 (placeC r c p q) _ ((V5.out.2.1).later hb (V5.out.2.1).lt).all Tryz.underlying150 rfl pzKey
    · intro ax wx hb hs hd
      have h38 : ax.tmps.getD 38 undef = (.agg (placeC r c p q).toArray) := hd 3 38 rfl (by kernel_rfl) (by decide)
      refine Does.call 82 #[.agg (placeC r c p q).toArray] (by clear hs hd; go_simp) ?_
      refine (vouch_any r c p q HK.out.2.2.2.2.1 HK.out.2.2.2.2.2 wx).mono ?_
      rintro e w' ⟨v, rfl, o, l⟩
      rw [HM.out.1] at o
      exact ⟨_, rfl, ownsRow_base o (by have := hb.size; have := V5.out.2.2.1.size; omega), l⟩
    · intro ax wx hb hs hd
      have h2 : ax.tmps.getD 2 undef = (.slice bo m d) := hs 2 (by kernel_rfl)
      refine Does.value (.slice bo m d) ?_ rfl
      clear hs hd
      go_simp
    · intro ax wx hb hs hd
      have h40 : ax.tmps.getD 40 undef = (.slice bo m d) := hd 5 40 rfl (by kernel_rfl) (by decide)
      have S12 := HB.out.1
      refine Does.value (.slice (subA bo 12 d) (m - 12) (d - 12)) ?_ rfl
      clear hs hd
      go_simp
    · intro ax wx hb hs hd
      have h35 : ax.tmps.getD 35 undef = (.agg (u8s key).toArray) := hd 0 35 rfl (by kernel_rfl) (by decide)
      have h37 : ax.tmps.getD 37 undef = (.agg (u8s H).toArray) := hd 2 37 rfl (by kernel_rfl) (by decide)
      have p39 : (isO w.heap.size 8 M) (ax.tmps.getD 39 undef) wx := hd 4 39 rfl (by kernel_rfl) (by decide)
      have h41 : ax.tmps.getD 41 undef = (.slice (subA bo 12 d) (m - 12) (d - 12)) := hd 6 41 rfl (by kernel_rfl) (by decide)
      obtain ⟨mo, mc, h39, s39, c39, _⟩ := pown_sl HM.out.2.1 HM.out.2.2 (by decide) p39
      clear p39
      refine Does.call 85 #[.agg (u8s key).toArray, .agg (u8s H).toArray, .slice mo 8 mc, .slice (subA bo 12 d) (m - 12) (d - 12)] (by clear hs hd; go_simp) ?_
      refine (open_no key H 8 mc (m - 12) (d - 12) mo (subA bo 12 d) M B HK.out.1 HH.out.2.1 HK.out.2.1 HH.out.2.2 (by omega) (by omega) (by decide) wx s39 (HB.out.2.1.later (below_chain V5.out.2.2.1 hb V5.out.2.2.1.size) (Nat.le_refl _)) c39 (by have := HD.out; omega) HB.out.2.2).mono ?_
      rintro e w' ⟨rfl, l⟩
      exact ⟨_, rfl, rfl, l⟩
    · intro ax wx hb hs hd
      have h42 : ax.tmps.getD 42 undef = (.tuple #[.slice none 0 0, .int .i64 70]) := hd 7 42 rfl (by kernel_rfl) (by decide)
      refine Does.value (.tuple #[.slice none 0 0, .int .i64 70]) ?_ rfl
      clear hs hd
      go_simp
    · intro ax wx hb hs hd
      have h34 : ax.tmps.getD 34 undef = (.tuple #[.slice none 0 0, .int .i64 70]) := hd 8 34 rfl (by kernel_rfl) (by decide)
      refine Does.value (.slice none 0 0) ?_ rfl
      clear hs hd
      go_simp
    · intro ax wx hb hs hd
      have h34 : ax.tmps.getD 34 undef = (.tuple #[.slice none 0 0, .int .i64 70]) := hd 8 34 rfl (by kernel_rfl) (by decide)
      refine Does.value (.int .i64 70) ?_ rfl
      clear hs hd
      go_simp
    · intro ax wx hb hs hd
      have h43 : ax.tmps.getD 43 undef = (.slice none 0 0) := hd 9 43 rfl (by kernel_rfl) (by decide)
      refine Does.value (.slice none 0 0) ?_ rfl
      clear hs hd
      go_simp
  · intro wx hb
    refine @Ends.val _ _ _ _ _ _ _ _ _ (.agg (u8s key).toArray) rfl ?_
    refine @Ends.val _ _ _ _ _ _ _ _ _ (.agg (placeC r c p q).toArray) rfl ?_
    refine @Ends.val _ _ _ _ _ _ _ _ _ (.agg (u8s H).toArray) rfl ?_
    refine @Ends.val _ _ _ _ _ _ _ _ _ (.agg (placeC r c p q).toArray) rfl ?_
    refine @Ends.any _ _ _ _ _ _ _ _ _ (isO w.heap.size 8 M) (isO_later _ _ _) rfl ?_
    intro v39 p39
    refine @Ends.val _ _ _ _ _ _ _ _ _ (.slice bo m d) rfl ?_
    refine @Ends.val _ _ _ _ _ _ _ _ _ (.slice (subA bo 12 d) (m - 12) (d - 12)) rfl ?_
    refine @Ends.val _ _ _ _ _ _ _ _ _ (.tuple #[.slice none 0 0, .int .i64 70]) rfl ?_
    refine @Ends.val _ _ _ _ _ _ _ _ _ (.tuple #[.slice none 0 0, .int .i64 70]) rfl ?_
    refine @Ends.val _ _ _ _ _ _ _ _ _ (.slice none 0 0) rfl ?_
    refine @Ends.val _ _ _ _ _ _ _ _ _ (.int .i64 70) rfl ?_
    refine @Ends.val _ _ _ _ _ _ _ _ _ (.slice none 0 0) rfl ?_
    refine @Ends.one _ _ _ _ _ _ _ ?_
    simp only [Act.put, List.setIfInBounds_toArray, List.set_cons_zero, List.set_cons_succ]
    have W1 : Hid (Below w.heap.size w wx) := below_chain V5.out.2.2.1 hb V5.out.2.2.1.size
    clear p39
    refine last_assign (.tmp 44) rfl (some 10) rfl (.int .i64 70) rfl ?_
    simp only [Act.put, List.setIfInBounds_toArray, List.set_cons_zero, List.set_cons_succ]
    go_wp2_with (go_at_call 83; refine (is_any 70 _).mono ?_; rintro e w' ⟨rfl, rfl⟩; rw [show ((70 : Int) == 0) = false from rfl])
    go_ret2
    exact ⟨rfl, W1.out⟩
set_option maxRecDepth 20000 in
set_option maxHeartbeats 2000000 in
theorem popen_yes (key : List Int) (r c p q : Int) (bo : Option Addr) (m d : Nat) (zs : List Int) (hk : key.length = 32) (hkb : Bytes key) (hr : Word r) (hc : U32 c) (hp : U32 p) (hq : U32 q) (h28 : 28 ≤ m) (hm : m ≤ 4124) (w : World) (hy : Seen w bo m zs) (hd : m ≤ d) (heq : (tellR zs == r && tellC zs == c) = true) (hO : opensL key (hdL r c) (moL p q) (zs.drop 12) = true) :
    Calls Tryz.prog 79 #[.agg (u8s key).toArray, .agg (placeC r c p q).toArray, .slice bo m d] w fun e w' => ∃ v, e = .returned (.tuple #[v, .int .i64 0]) ∧ isO w.heap.size (m - 28) (textL key (hdL r c) (zs.drop 12)) v w' ∧ Below w.heap.size w w' := by
  have i1 : ¬ (4124 : Int) < (m : Int) := by omega
  have HY : Hid (Seen w bo m zs) := hy
  have HD : Hid (m ≤ d) := hd
  obtain ⟨R, hR⟩ : ∃ R, tellR zs = R := ⟨_, rfl⟩
  obtain ⟨C, hC⟩ : ∃ C, tellC zs = C := ⟨_, rfl⟩
  have HT : Hid (tellR zs = R ∧ tellC zs = C) := ⟨hR, hC⟩
  have HE : Hid ((!(R == r && C == c)) = false) := by show (!(R == r && C == c)) = false; rw [← hR, ← hC, heq]; rfl
  obtain ⟨H, hH⟩ : ∃ H, hdL r c = H := ⟨_, rfl⟩
  obtain ⟨M, hM⟩ : ∃ H, moL p q = H := ⟨_, rfl⟩
  obtain ⟨B, hB⟩ : ∃ B, zs.drop 12 = B := ⟨_, rfl⟩
  have HH : Hid (hdL r c = H ∧ H.length = 12 ∧ Bytes H) := ⟨hH, by rw [← hH]; exact hdL_length r c, by rw [← hH]; exact hdL_bytes r c⟩
  have HM : Hid (moL p q = M ∧ M.length = 8 ∧ Bytes M) := ⟨hM, by rw [← hM]; exact moL_length p q, by rw [← hM]; exact moL_bytes p q⟩
  have HB : Hid ((∀ W, (Instr.sliceAt 66 (.slice bo m d) (some (.int .i64 12)) none none).run Tryz.prog W = .ok (.slice (subA bo 12 d) (m - 12) (d - 12)) W) ∧ Seen w (subA bo 12 d) (m - 12) B ∧ opensL key H M B = true) := by
    refine ⟨fun W => sl_l bo m d 12 (by omega) W, ?_, by rw [← hH, ← hM, ← hB]; exact hO⟩
    have h := hy.sub 12 m d (by omega) (Nat.le_refl _) hd
    rwa [hB, List.take_of_length_le (by rw [← hB, List.length_drop, hy.len]; omega)] at h
  have HK : Hid (key.length = 32 ∧ Bytes key ∧ Word r ∧ U32 c ∧ U32 p ∧ U32 q) := ⟨hk, hkb, hr, hc, hp, hq⟩
  obtain ⟨X, hX⟩ : ∃ X, textL key H B = X := ⟨_, rfl⟩
  have HX : Hid (textL key H B = X) := hX
  rw [hH, hB, hX]
  clear hX
  clear hy hd hR hC heq hH hM hB hk hkb hr hc hp hq hO
  go_enter Tryz.func79, Tryz.ntmps79
  go_wp2_with (first | (refine wpList_box_new rfl 41 _ rfl (u8s key) rfl ?_; intro w1 b1 s1 l1) | (refine wpList_box_new rfl 150 _ rfl (placeC r c p q) rfl ?_; intro w2 b2 s2 l2))
  refine (phead_any bo m d zs w2 (HY.out.later (below_chain l1 l2 (by omega)) (Nat.le_refl _)) h28 HD.out).mono ?_
  rintro e w3 ⟨rfl, l3⟩
  rw [HT.out.1, HT.out.2]
  have q3 := l3.size
  rw [s1] at b2
  have V3 : Hid (Blk w3 w.heap.size 41 (u8s key) ∧ Blk w3 (w.heap.size + 1) 150 (placeC r c p q) ∧ Below w.heap.size w w3) := ⟨(b1.later l2 (by omega)).later l3 (by omega), b2.later l3 (by omega), below_chain (below_chain l1 l2 (by omega)) l3 (by omega)⟩
  have cp : w3.cell? ⟨w.heap.size + 1, 2, none⟩ = some (.int .u32 p) := V3.out.2.1.cell 2
  have cq : w3.cell? ⟨w.heap.size + 1, 3, none⟩ = some (.int .u32 q) := V3.out.2.1.cell 3
  clear b1 b2 l1 l2 l3 s2 s1 q3
  have NP := neq_place R C p q r c
  rw [HE.out] at NP
  go_wp2_with (first | (refine wpList_build rfl 150 _ rfl #[(0, .int .u64 R), (1, .int .u32 C), (2, .int .u32 p), (3, .int .u32 q)] (by simp only [List.map_toArray, List.map_cons, List.map_nil]; rfl) _ (pbuild R C p q _) ?_) | (refine wpList_alloc_new rfl 150 rfl 4 _ pzPlace ?_; intro w4 b4 s4 l4) | (refine wpList_store_blk rfl 150 150 _ _ rfl _ rfl _ (placeC R C p q) rfl b4 rfl pzKey (placeC_one _ _ _ _) ?_; intro w5 b5 s5 k5; have V5 : Hid (Blk w5 w.heap.size 41 (u8s key) ∧ Blk w5 (w.heap.size + 1) 150 (placeC r c p q) ∧ Below w.heap.size w w5 ∧ Blk w5 w3.heap.size 150 (placeC R C p q)) := (by have L5 : Below w3.heap.size w3 w5 := below_kept l4 k5 (by omega) (fun j hj => by omega); exact ⟨V3.out.1.later L5 V3.out.1.lt, V3.out.2.1.later L5 V3.out.2.1.lt, below_chain V3.out.2.2 L5 V3.out.2.2.size, b5⟩)) | ((with_reducible show wpList _ _ _ (({ dst := some 31, op := _, type := _, pos := _, after := _, guard := _ } : Oper) :: _) _ _); refine wpList_load_blk rfl 150 _ rfl _ rfl (placeC R C p q) _ V5.out.2.2.2 Tryz.underlying150 rfl pzKey ?_) | ((with_reducible show wpList _ _ _ (({ dst := some 32, op := _, type := _, pos := _, after := _, guard := _ } : Oper) :: _) _ _); refine wpList_load_blk rfl 150 _ rfl _ rfl (placeC r c p q) _ V5.out.2.1 Tryz.underlying150 rfl pzKey ?_))
  clear NP cp cq b4 s4 l4 b5 s5 k5
  refine region_inv [.val (.agg (u8s key).toArray), .val (.agg (placeC r c p q).toArray), .val (.agg (u8s H).toArray), .val (.agg (placeC r c p q).toArray), .any (isO w.heap.size 8 M) (isO_later _ _ _), .val (.slice bo m d), .val (.slice (subA bo 12 d) (m - 12) (d - 12)), .any (isT w.heap.size (m - 28) X 0) (isT_later _ _ _ _), .any (isT w.heap.size (m - 28) X 0) (isT_later _ _ _ _), .any (isO w.heap.size (m - 28) X) (isO_later _ _ _), .val (.int .i64 0), .any (isO w.heap.size (m - 28) X) (isO_later _ _ _)] (by kernel_rfl) (by kernel_rfl) (by kernel_rfl) ?_ ?_
  · refine Steps'.cons ?_ (Steps'.cons ?_ (Steps'.cons ?_ (Steps'.cons ?_ (Steps'.cons ?_ (Steps'.cons ?_ (Steps'.cons ?_ (Steps'.cons ?_ (Steps'.cons ?_ (Steps'.cons ?_ (Steps'.cons ?_ (Steps'.cons ?_ (Steps'.one _ _ _ _ _ _ _))))))))))))
    · intro ax wx hb hs hd
      have h3 : ax.tmps.getD 3 undef = (.pointer (some ⟨w.heap.size, 0, none⟩)) := hs 3 (by kernel_rfl)
      exact Does.load 41 (.tmp 3) rfl w.heap.size 0 h3 (u8s key) _ ((V5.out.1).later hb (V5.out.1).lt).all Tryz.underlying41 rfl (by rw [u8s_length, HK.out.1]; exact sizeKey)
    · intro ax wx hb hs hd
      have h4 : ax.tmps.getD 4 undef = (.pointer (some ⟨w.heap.size + 1, 0, none⟩)) := hs 4 (by kernel_rfl)
      exact Does.load 150 (.tmp 4) rfl (w.heap.size + 1) 0 h4 (placeC r c p q) _ ((V5.out.2.1).later hb (V5.out.2.1).lt).all Tryz.underlying150 rfl pzKey
    · intro ax wx hb hs hd
      have h36 : ax.tmps.getD 36 undef = (.agg (placeC r c p q).toArray) := hd 1 36 rfl (by kernel_rfl) (by decide)
      refine Does.call 80 #[.agg (placeC r c p q).toArray] (by clear hs hd; go_simp) ?_
      refine (headOf_any r c p q HK.out.2.2.1 HK.out.2.2.2.1 wx).mono ?_
      rintro e w' ⟨rfl, l⟩
      rw [HH.out.1]
      exact ⟨_, rfl, rfl, l⟩
    · intro ax wx hb hs hd
      have h4 : ax.tmps.getD 4 undef = (.pointer (some ⟨w.heap.size + 1, 0, none⟩)) := hs 4 (by kernel_rfl)
      exact Does.load 150 (.tmp 4) rfl (w.heap.size + 1) 0 h4 (placeC r c p q) _ ((V5.out.2.1).later hb (V5.out.2.1).lt).all Tryz.underlying150 rfl pzKey
    · intro ax wx hb hs hd
      have h38 : ax.tmps.getD 38 undef = (.agg (placeC r c p q).toArray) := hd 3 38 rfl (by kernel_rfl) (by decide)
      refine Does.call 82 #[.agg (placeC r c p q).toArray] (by clear hs hd; go_simp) ?_
      refine (vouch_any r c p q HK.out.2.2.2.2.1 HK.out.2.2.2.2.2 wx).mono ?_
      rintro e w' ⟨v, rfl, o, l⟩
      rw [HM.out.1] at o
      exact ⟨_, rfl, ownsRow_base o (by have := hb.size; have := V5.out.2.2.1.size; omega), l⟩
    · intro ax wx hb hs hd
      have h2 : ax.tmps.getD 2 undef = (.slice bo m d) := hs 2 (by kernel_rfl)
      refine Does.value (.slice bo m d) ?_ rfl
      clear hs hd
      go_simp
    · intro ax wx hb hs hd
      have h40 : ax.tmps.getD 40 undef = (.slice bo m d) := hd 5 40 rfl (by kernel_rfl) (by decide)
      have S12 := HB.out.1
      refine Does.value (.slice (subA bo 12 d) (m - 12) (d - 12)) ?_ rfl
      clear hs hd
      go_simp
    · intro ax wx hb hs hd
      have h35 : ax.tmps.getD 35 undef = (.agg (u8s key).toArray) := hd 0 35 rfl (by kernel_rfl) (by decide)
      have h37 : ax.tmps.getD 37 undef = (.agg (u8s H).toArray) := hd 2 37 rfl (by kernel_rfl) (by decide)
      have p39 : (isO w.heap.size 8 M) (ax.tmps.getD 39 undef) wx := hd 4 39 rfl (by kernel_rfl) (by decide)
      have h41 : ax.tmps.getD 41 undef = (.slice (subA bo 12 d) (m - 12) (d - 12)) := hd 6 41 rfl (by kernel_rfl) (by decide)
      obtain ⟨mo, mc, h39, s39, c39, _⟩ := pown_sl HM.out.2.1 HM.out.2.2 (by decide) p39
      clear p39
      refine Does.call 85 #[.agg (u8s key).toArray, .agg (u8s H).toArray, .slice mo 8 mc, .slice (subA bo 12 d) (m - 12) (d - 12)] (by clear hs hd; go_simp) ?_
      refine (open_yes key H 8 mc (m - 12) (d - 12) mo (subA bo 12 d) M B HK.out.1 HH.out.2.1 HK.out.2.1 HH.out.2.2 (by omega) (by omega) (by decide) wx s39 (HB.out.2.1.later (below_chain V5.out.2.2.1 hb V5.out.2.2.1.size) (Nat.le_refl _)) c39 (by have := HD.out; omega) HB.out.2.2).mono ?_
      rintro e w' ⟨v, rfl, o, l⟩
      rw [HX.out, show m - 12 - 16 = m - 28 by omega] at o
      exact ⟨_, rfl, ⟨v, rfl, ownsRow_base o (by have := hb.size; have := V5.out.2.2.1.size; omega)⟩, l⟩
    · intro ax wx hb hs hd
      have p42 : (isT w.heap.size (m - 28) X 0) (ax.tmps.getD 42 undef) wx := hd 7 42 rfl (by kernel_rfl) (by decide)
      obtain ⟨u, h42, o⟩ := p42
      refine Does.value (.tuple #[u, .int .i64 0]) ?_ ⟨u, rfl, o⟩
      clear hs hd
      go_simp
    · intro ax wx hb hs hd
      have p34 : (isT w.heap.size (m - 28) X 0) (ax.tmps.getD 34 undef) wx := hd 8 34 rfl (by kernel_rfl) (by decide)
      obtain ⟨u, h34, o⟩ := p34
      refine Does.value u ?_ o
      clear hs hd
      go_simp
    · intro ax wx hb hs hd
      have p34 : (isT w.heap.size (m - 28) X 0) (ax.tmps.getD 34 undef) wx := hd 8 34 rfl (by kernel_rfl) (by decide)
      obtain ⟨u, h34, o⟩ := p34
      refine Does.value (.int .i64 0) ?_ rfl
      clear hs hd
      go_simp
    · intro ax wx hb hs hd
      have p43 : (isO w.heap.size (m - 28) X) (ax.tmps.getD 43 undef) wx := hd 9 43 rfl (by kernel_rfl) (by decide)
      obtain ⟨u, h43⟩ : ∃ u, ax.tmps.getD 43 undef = u := ⟨_, rfl⟩
      rw [h43] at p43
      refine Does.value u ?_ p43
      clear hs hd
      go_simp
  · intro wx hb
    refine @Ends.val _ _ _ _ _ _ _ _ _ (.agg (u8s key).toArray) rfl ?_
    refine @Ends.val _ _ _ _ _ _ _ _ _ (.agg (placeC r c p q).toArray) rfl ?_
    refine @Ends.val _ _ _ _ _ _ _ _ _ (.agg (u8s H).toArray) rfl ?_
    refine @Ends.val _ _ _ _ _ _ _ _ _ (.agg (placeC r c p q).toArray) rfl ?_
    refine @Ends.any _ _ _ _ _ _ _ _ _ (isO w.heap.size 8 M) (isO_later _ _ _) rfl ?_
    intro v39 p39
    refine @Ends.val _ _ _ _ _ _ _ _ _ (.slice bo m d) rfl ?_
    refine @Ends.val _ _ _ _ _ _ _ _ _ (.slice (subA bo 12 d) (m - 12) (d - 12)) rfl ?_
    refine @Ends.any _ _ _ _ _ _ _ _ _ (isT w.heap.size (m - 28) X 0) (isT_later _ _ _ _) rfl ?_
    intro v42 p42
    refine @Ends.any _ _ _ _ _ _ _ _ _ (isT w.heap.size (m - 28) X 0) (isT_later _ _ _ _) rfl ?_
    intro v34 p34
    refine @Ends.any _ _ _ _ _ _ _ _ _ (isO w.heap.size (m - 28) X) (isO_later _ _ _) rfl ?_
    intro v43 p43
    refine @Ends.val _ _ _ _ _ _ _ _ _ (.int .i64 0) rfl ?_
    refine @Ends.any _ _ _ _ _ _ _ _ _ (isO w.heap.size (m - 28) X) (isO_later _ _ _) rfl ?_
    intro v12 p12
    refine @Ends.one _ _ _ _ _ _ _ ?_
    simp only [Act.put, List.setIfInBounds_toArray, List.set_cons_zero, List.set_cons_succ]
    have W1 : Hid (isO w.heap.size (m - 28) X v12 wx ∧ Below w.heap.size w wx) := ⟨p12, below_chain V5.out.2.2.1 hb V5.out.2.2.1.size⟩
    clear p12 p43 p42 p39 p34
    refine last_assign (.tmp 44) rfl (some 10) rfl (.int .i64 0) rfl ?_
    simp only [Act.put, List.setIfInBounds_toArray, List.set_cons_zero, List.set_cons_succ]
    go_wp2_with (go_at_call 83; refine (is_any 0 _).mono ?_; rintro e w' ⟨rfl, rfl⟩; rw [show ((0 : Int) == 0) = true from rfl])
    go_ret2
    exact ⟨_, rfl, W1.out.1, W1.out.2⟩
end Go.Proofs.YtfhieacclifihaaGreat
namespace Go.Proofs.YtfhieacclifihaaGreat
open Go.RowKit
set_option linter.unusedVariables false
set_option linter.unusedSimpArgs false

set_option maxRecDepth 20000 in
set_option maxHeartbeats 1000000 in
theorem reqb_any (ao bo : Option Addr) (n n' c c' : Nat) (xs ys : List Int) (w : World) (hx : Seen w ao n xs) (hy : Seen w bo n' ys) :
    Calls Tryz.prog 29 #[.slice ao n c, .slice bo n' c'] w fun e w' => e = .returned (.bool (decide (xs = ys))) ∧ ∃ q, w' = w.drewN q := by
  have t1 := hx.top
  have t2 := hy.top
  by_cases hne : n = n'
  · subst hne
    have HL : Hid (xs.length = n ∧ ys.length = n) := ⟨hx.len, hy.len⟩
    go_enter Tryz.func29, Tryz.ntmps29
    go_wp2
    go_loopw [5] (fun i wr => ∃ k : Nat, k ≤ n ∧ i = .int .i64 k ∧ xs.take k = ys.take k ∧ ∃ q, wr = w.drewN q) (fun i _ => n - (intOf i).toNat)
    case atStart => exact ⟨0, Nat.zero_le _, rfl, by simp, 0, rfl⟩
    case round =>
      obtain ⟨k, hk, rfl, hs, q, rfl⟩ := hrel
      by_cases hlt : k < n
      · obtain ⟨b, o, rfl, hb, hc⟩ := hx.cells (by omega)
        obtain ⟨b', o', rfl, hb', hc'⟩ := hy.cells (by omega)
        have c1 := hc k hlt
        have c2 := hc' k hlt
        have HT := take_same_succ xs ys k (by have := HL.out.1; omega) (by have := HL.out.2; omega)
        obtain ⟨X, hX⟩ : ∃ X, xs.getD k 0 = X := ⟨_, rfl⟩
        obtain ⟨Y, hY⟩ : ∃ Y, ys.getD k 0 = Y := ⟨_, rfl⟩
        rw [hX] at c1 HT
        rw [hY] at c2 HT
        have HS : Hid (xs.take k = ys.take k) := hs
        have HT' : Hid (xs.take (k + 1) = ys.take (k + 1) ↔ xs.take k = ys.take k ∧ X = Y) := HT
        have i1 : (0 : Int) ≤ (k : Int) := by omega
        have i2 : (k : Int) < (n : Int) := by omega
        clear hX hY hc hc' hx hy hs HT hb hb'
        by_cases e : X = Y
        · have hd : (X != Y) = false := by simp [e]
          have HE : Hid (X = Y) := e
          clear e
          go_wp2
          go_quiet (fail)
          go_wp2
          go_roundw
          case rel => exact ⟨k + 1, by omega, by go_num, HT'.out.2 ⟨HS.out, HE.out⟩, _, rfl⟩
          case measure => simp [intOf]; omega
        · have hd : (X != Y) = true := by simp [e]
          have HE : Hid (¬ X = Y) := e
          clear e
          have HN : Hid (decide (xs = ys) = false) := by
            show _ = _
            apply decide_eq_false
            intro h
            exact HE.out (HT'.out.1 (by rw [h])).2
          go_wp2
          go_quiet (fail)
          go_wp2
          go_ret
          exact ⟨ret_bool HN.out.symm, _, World.drewN_drewN _ _ _⟩
      · have HE : Hid (decide (xs = ys) = true) := by
          show _ = _
          apply decide_eq_true
          have e1 : xs.take k = xs := List.take_of_length_le (by have := HL.out.1; omega)
          have e2 : ys.take k = ys := List.take_of_length_le (by have := HL.out.2; omega)
          rw [← e1, ← e2]; exact hs
        clear hs
        go_wp2
        go_ret
        exact ⟨ret_bool HE.out.symm, _, rfl⟩
  · have h : ((n : Int) != (n' : Int)) = true := by simp; omega
    have HN : Hid (decide (xs = ys) = false) := by
      show _ = _
      apply decide_eq_false
      intro h
      exact hne (by rw [← hx.len, ← hy.len, h])
    go_enter Tryz.func29, Tryz.ntmps29
    go_wp2
    go_ret
    exact ⟨ret_bool HN.out.symm, 0, rfl⟩
end Go.Proofs.YtfhieacclifihaaGreat
namespace Go.Proofs.YtfhieacclifihaaGreat
open Go.RowKit
set_option linter.unusedVariables false
set_option linter.unusedSimpArgs false

/-- Does Open open it? -/
def pOpens (key : List Int) (r c p q : Int) (zs : List Int) : Bool := decide (28 ≤ zs.length) && decide (zs.length ≤ 4124) && ((tellR zs == r && tellC zs == c) && opensL key (hdL r c) (moL p q) (zs.drop 12))
/-- What Open answers then. -/
def pText (key : List Int) (r c : Int) (zs : List Int) : List Int := textL key (hdL r c) (zs.drop 12)
theorem pOpens_len {key : List Int} {r c p q : Int} {zs : List Int} (h : pOpens key r c p q zs = true) : 28 ≤ zs.length ∧ zs.length ≤ 4124 ∧ (tellR zs == r && tellC zs == c) = true ∧ opensL key (hdL r c) (moL p q) (zs.drop 12) = true := by
  simp only [pOpens, Bool.and_eq_true, decide_eq_true_eq] at h
  exact ⟨h.1.1, h.1.2, by rw [h.2.1.1, h.2.1.2]; rfl, h.2.2⟩
theorem popen_good (key : List Int) (r c p q : Int) (bo : Option Addr) (m d : Nat) (zs : List Int) (hk : key.length = 32) (hkb : Bytes key) (hr : Word r) (hc : U32 c) (hp : U32 p) (hq : U32 q) (w : World) (hy : Seen w bo m zs) (hd : m ≤ d) (hO : pOpens key r c p q zs = true) :
    Calls Tryz.prog 79 #[.agg (u8s key).toArray, .agg (placeC r c p q).toArray, .slice bo m d] w fun e w' => ∃ v, e = .returned (.tuple #[v, .int .i64 0]) ∧ isO w.heap.size (m - 28) (pText key r c zs) v w' ∧ Below w.heap.size w w' := by
  obtain ⟨h1, h2, h3, h4⟩ := pOpens_len hO
  have hl := hy.len
  exact popen_yes key r c p q bo m d zs hk hkb hr hc hp hq (by omega) (by omega) w hy hd h3 h4
theorem tell_page (key : List Int) (r c p q : Int) {zs : List Int} (hb : Bytes zs) (hr : Word r) (hc : U32 c) : tellR (pageL key r c p q zs) = r ∧ tellC (pageL key r c p q zs) = c :=
  (tell_head (pageL_bytes key r c p q hb) (by rw [pageL_length]; omega) hr hc).2 (pageL_head key r c p q zs)
theorem opens_page (key : List Int) (r c p q : Int) {zs : List Int} (hb : Bytes zs) (hl : zs.length ≤ 4096) (hr : Word r) (hc : U32 c) : pOpens key r c p q (pageL key r c p q zs) = true := by
  have h := tell_page key r c p q hb hr hc
  rw [pOpens, pageL_length, decide_eq_true (by omega), decide_eq_true (by omega), h.1, h.2, pageL_box, opens_box]
  simp
theorem text_page (key : List Int) (r c p q : Int) {zs : List Int} (hb : Bytes zs) : pText key r c (pageL key r c p q zs) = zs := by rw [pText, pageL_box, text_box _ _ _ hb]
def k7 : List Int := 7 :: List.replicate 31 0
end Go.Proofs.YtfhieacclifihaaGreat
namespace Go.Proofs.YtfhieacclifihaaGreat
open Go.RowKit
set_option linter.unusedVariables false
set_option linter.unusedSimpArgs false

theorem hc {w : World} {h : Nat} {s : HSt} {gl gm : Nat} {lg : Value} (b : Blk w h 104 (hostC s gl gm lg)) (j : Nat) : w.cell? ⟨h, j, none⟩ = (hostC s gl gm lg)[j]? := b.cell j
theorem pages_any (h : Nat) (s : HSt) (M : Nat → Prop) (w : World) (x : HostAt w M h s) : Calls Tryz.prog 167 #[.pointer (some ⟨h, 0, none⟩)] w fun e w' => e = .returned (.int .i64 s.pages) ∧ w = w' := by
  obtain ⟨gl, gm, lg, rws, n, D, x⟩ := x
  have c1 : w.cell? ⟨h, 1, none⟩ = some (.slice (some ⟨gl, 0, none⟩) s.pages s.pages) := x.blk.cell 1
  clear x
  go_enter Tryz.func167, Tryz.ntmps167
  go_wp2
  go_ret
  exact ⟨rfl, rfl⟩
theorem size_any (h : Nat) (s : HSt) (M : Nat → Prop) (w : World) (x : HostAt w M h s) : Calls Tryz.prog 170 #[.pointer (some ⟨h, 0, none⟩)] w fun e w' => e = .returned (.int .i64 s.size) ∧ w = w' := by
  obtain ⟨gl, gm, lg, rws, n, D, x⟩ := x
  have c0 : w.cell? ⟨h, 0, none⟩ = some (.int .i64 s.size) := x.blk.cell 0
  clear x
  go_enter Tryz.func170, Tryz.ntmps170
  go_wp2
  go_ret
  exact ⟨rfl, rfl⟩
def hasP (s : HSt) (p : Int) : Bool := decide (0 ≤ p ∧ p < s.pages)
theorem has_any (h : Nat) (s : HSt) (p : Int) (M : Nat → Prop) (w : World) (x : HostAt w M h s) : Calls Tryz.prog 179 #[.pointer (some ⟨h, 0, none⟩), .int .i64 p] w fun e w' => e = .returned (.bool (hasP s p)) ∧ w = w' := by
  obtain ⟨gl, gm, lg, rws, n, D, x⟩ := x
  have c1 : w.cell? ⟨h, 1, none⟩ = some (.slice (some ⟨gl, 0, none⟩) s.pages s.pages) := x.blk.cell 1
  clear x
  by_cases h0 : 0 ≤ p
  · by_cases h1 : p < s.pages
    · go_enter Tryz.func179, Tryz.ntmps179
      go_wp2
      go_ret
      exact ⟨ret_bool (by simp [hasP, h0, h1]), rfl⟩
    · go_enter Tryz.func179, Tryz.ntmps179
      go_wp2
      go_ret
      exact ⟨ret_bool (by simp [hasP, h0, h1]), rfl⟩
  · go_enter Tryz.func179, Tryz.ntmps179
    go_wp2
    go_ret
    exact ⟨ret_bool (by simp [hasP]; omega), rfl⟩
theorem checkH_any (h : Nat) (s : HSt) (p : Int) (M : Nat → Prop) (w : World) (x : HostAt w M h s) : Calls Tryz.prog 172 #[.pointer (some ⟨h, 0, none⟩), .int .i64 p] w fun e w' => e = .returned (.int .i64 (if hasP s p then 0 else 2)) ∧ w = w' := by
  have C := has_any h s p M w x
  cases hp : hasP s p
  · rw [hp] at C
    clear x hp
    go_enter Tryz.func172, Tryz.ntmps172
    go_wp2_with (go_at_call 179; refine C.mono ?_; rintro e _ ⟨rfl, rfl⟩)
    go_ret
    exact ⟨rfl, rfl⟩
  · rw [hp] at C
    clear x hp
    go_enter Tryz.func172, Tryz.ntmps172
    go_wp2_with (go_at_call 179; refine C.mono ?_; rintro e _ ⟨rfl, rfl⟩)
    go_ret
    exact ⟨rfl, rfl⟩
/-- The faults are of known kinds. -/
def known (fs : List Fl) : Bool := fs.all fun f => decide (0 ≤ f.k ∧ f.k ≤ 4)
theorem known_cut {fs : List Fl} {i : Nat} (hi : i < fs.length) (h : ¬ (0 ≤ (fs.getD i default).k ∧ (fs.getD i default).k ≤ 4)) : known fs = false := by
  have e : fs.getD i default = fs[i] := by simp [List.getD, hi]
  rw [e] at h
  cases hk : known fs with
  | false => rfl
  | true =>
    simp only [known, List.all_eq_true] at hk
    have := hk _ (List.getElem_mem hi)
    simp only [decide_eq_true_eq] at this
    exact absurd this h
set_option maxRecDepth 20000 in
set_option maxHeartbeats 1000000 in
theorem allKnown_any (v : Value) (fs : List Fl) (M : Nat → Prop) (w : World) (x : FlS w M v fs) : Calls Tryz.prog 49 #[v] w fun e w' => e = .returned (.bool (known fs)) ∧ Below w.heap.size w w' := by
  obtain ⟨ao, c, rfl, hx⟩ := x.ex
  have X : Hid (FlS w M (.slice ao fs.length c) fs) := x
  have HX : Hid (∀ i, i < fs.length → ∃ b o, ao = some ⟨b, o, none⟩ ∧ b < w.heap.size ∧ M b ∧ w.rangeAt b (o + i * 6) (flC (fs.getD i default))) := hx
  have ht := x.top
  clear x hx
  obtain ⟨n, hn⟩ : ∃ n, fs.length = n := ⟨_, rfl⟩
  rw [hn] at ht ⊢
  have HN : Hid (fs.length = n) := hn
  clear hn
  go_enter Tryz.func49, Tryz.ntmps49
  go_wp2
  go_loopw [7] (fun i wr => ∃ k : Nat, k ≤ n ∧ i = .int .i64 k ∧ Below w.heap.size w wr ∧ ∀ j, j < k → 0 ≤ (fs.getD j default).k ∧ (fs.getD j default).k ≤ 4) (fun i _ => n - (intOf i).toNat)
  case atStart => exact ⟨0, Nat.zero_le _, rfl, Below.refl _ _, fun j hj => by omega⟩
  case round =>
    obtain ⟨k, hk, rfl, hbel, hall⟩ := hrel
    by_cases hlt : k < n
    · obtain ⟨b, o, rfl, hbl, _, hrg⟩ := HX.out k (by rw [HN.out]; exact hlt)
      obtain ⟨f, hf⟩ : ∃ f, fs.getD k default = f := ⟨_, rfl⟩
      rw [hf] at hrg
      have hg : f.Good := by rw [← hf]; exact Fl.good_at X.out.good k (by rw [HN.out]; exact hlt)
      have HB : Hid (Below w.heap.size w wr ∧ wr.rangeAt b (o + k * 6) (flC f) ∧ (∀ j, j < k → 0 ≤ (fs.getD j default).k ∧ (fs.getD j default).k ≤ 4) ∧ fs.getD k default = f) := ⟨hbel, rangeAt_same hrg (hbel.block b hbl), hall, hf⟩
      have hk1 := hg.2.1
      have i1 : (0 : Int) ≤ (k : Int) := by omega
      have i2 : (k : Int) < (n : Int) := by omega
      clear hbl hrg hf hg hbel hall
      by_cases h0 : 0 ≤ f.k ∧ f.k ≤ 4
      · have h01 := h0.1
        have h02 := h0.2
        have HK : Hid (0 ≤ f.k ∧ f.k ≤ 4) := h0
        clear h0
        go_wp2_with (first | (refine wpList_load_mid rfl 109 (.tmp 9) rfl b (o + k * 6) rfl (flC f) _ HB.out.2.1 Tryz.underlying109 rfl (sizeFl f) ?_) | (refine wpList_alloc_new rfl 109 rfl 6 _ zeroFl ?_; intro w4 b4 s4 l4) | (refine wpList_store_blk rfl 109 109 (.tmp 4) _ rfl _ rfl _ (flC f) rfl b4 rfl (sizeFl f) (flC_one f) ?_; intro w5 b5 s5 k5; have c1 : w5.cell? ⟨wr.heap.size, 1, none⟩ = some (.int .i64 f.k) := b5.cell 1))
        have R : Hid (Below w.heap.size w w5) := below_chain HB.out.1 (below_kept l4 k5 (by omega) (fun j hj => by omega)) HB.out.1.size
        clear b4 s4 l4 b5 s5 k5 c1
        go_roundw
        case rel => exact ⟨k + 1, by omega, by go_num, R.out, fun j hj => by
          rcases Nat.lt_or_ge j k with h1 | h1
          · exact HB.out.2.2.1 j h1
          · obtain rfl : j = k := by omega
            rw [HB.out.2.2.2]; exact HK.out⟩
        case measure => simp [intOf] <;> omega
      · have HF : Hid (known fs = false) := known_cut (i := k) (by rw [HN.out]; exact hlt) (by rw [HB.out.2.2.2]; exact h0)
        rcases (show f.k < 0 ∨ (0 ≤ f.k ∧ 4 < f.k) by omega) with h1 | ⟨h1, h2⟩
        all_goals
          clear h0
          go_wp2_with (first | (refine wpList_load_mid rfl 109 (.tmp 9) rfl b (o + k * 6) rfl (flC f) _ HB.out.2.1 Tryz.underlying109 rfl (sizeFl f) ?_) | (refine wpList_alloc_new rfl 109 rfl 6 _ zeroFl ?_; intro w4 b4 s4 l4) | (refine wpList_store_blk rfl 109 109 (.tmp 4) _ rfl _ rfl _ (flC f) rfl b4 rfl (sizeFl f) (flC_one f) ?_; intro w5 b5 s5 k5; have c1 : w5.cell? ⟨wr.heap.size, 1, none⟩ = some (.int .i64 f.k) := b5.cell 1))
          have R : Hid (Below w.heap.size w w5) := below_chain HB.out.1 (below_kept l4 k5 (by omega) (fun j hj => by omega)) HB.out.1.size
          clear b4 s4 l4 b5 s5 k5 c1
          go_ret
          exact ⟨ret_bool HF.out.symm, R.out⟩
    · obtain rfl : k = n := by omega
      have HF : Hid (known fs = true ∧ Below w.heap.size w wr) := ⟨by
        simp only [known, List.all_eq_true, decide_eq_true_eq]
        intro f hf
        obtain ⟨j, hj, rfl⟩ := List.getElem_of_mem hf
        have := hall j (by have := HN.out; omega)
        simpa [List.getD, hj] using this, hbel⟩
      clear hbel hall hk
      go_wp2
      go_ret
      exact ⟨ret_bool HF.out.1.symm, HF.out.2⟩
/-- What the power does under these faults: 0 it stays, 1 it goes ahead, 2 behind. -/
def powL (fs : List Fl) : Int := if fs.any (fun f => f.k == 3) then 1 else if fs.any (fun f => f.k == 4) then 2 else 0
theorem powL_ahead {fs : List Fl} {i : Nat} (hi : i < fs.length) (h : (fs.getD i default).k = 3) : powL fs = 1 := by
  have e : fs.getD i default = fs[i] := by simp [List.getD, hi]
  rw [e] at h
  unfold powL
  rw [if_pos]
  exact List.any_eq_true.2 ⟨_, List.getElem_mem hi, by simp [h]⟩
theorem take_any_succ {fs : List Fl} {k : Nat} (hk : k < fs.length) (q : Fl → Bool) : (fs.take (k + 1)).any q = ((fs.take k).any q || q (fs.getD k default)) := by
  rw [List.take_succ_eq_append_getElem hk, List.any_append]
  simp [List.getD, hk]
set_option maxRecDepth 20000 in
set_option maxHeartbeats 1000000 in
theorem power_any (v : Value) (fs : List Fl) (M : Nat → Prop) (w : World) (x : FlS w M v fs) : Calls Tryz.prog 181 #[v] w fun e w' => e = .returned (.int .i64 (powL fs)) ∧ Below w.heap.size w w' := by
  obtain ⟨ao, c, rfl, hx⟩ := x.ex
  have X : Hid (FlS w M (.slice ao fs.length c) fs) := x
  have HX : Hid (∀ i, i < fs.length → ∃ b o, ao = some ⟨b, o, none⟩ ∧ b < w.heap.size ∧ M b ∧ w.rangeAt b (o + i * 6) (flC (fs.getD i default))) := hx
  have ht := x.top
  clear x hx
  obtain ⟨n, hn⟩ : ∃ n, fs.length = n := ⟨_, rfl⟩
  rw [hn] at ht ⊢
  have HN : Hid (fs.length = n) := hn
  clear hn
  go_enter Tryz.func181, Tryz.ntmps181
  go_wp2
  go_loopw [3, 8] (fun pw i wr => ∃ k : Nat, k ≤ n ∧ i = .int .i64 k ∧ Below w.heap.size w wr ∧ (fs.take k).any (fun f => f.k == 3) = false ∧ pw = .int .i64 (if (fs.take k).any (fun f => f.k == 4) then 2 else 0)) (fun _ i _ => n - (intOf i).toNat)
  case atStart => exact ⟨0, Nat.zero_le _, rfl, Below.refl _ _, by simp, by simp⟩
  case round =>
    obtain ⟨k, hk, rfl, hbel, hall, rfl⟩ := hrel
    obtain ⟨pw, hpw⟩ : ∃ q, (if (fs.take k).any (fun f => f.k == 4) then (2 : Int) else 0) = q := ⟨_, rfl⟩
    rw [hpw]
    have HP : Hid ((if (fs.take k).any (fun f => f.k == 4) then (2 : Int) else 0) = pw) := hpw
    clear hpw
    by_cases hlt : k < n
    · obtain ⟨b, o, rfl, hbl, _, hrg⟩ := HX.out k (by rw [HN.out]; exact hlt)
      have hlt' : k < fs.length := by rw [HN.out]; exact hlt
      obtain ⟨f, hf⟩ : ∃ f, fs.getD k default = f := ⟨_, rfl⟩
      rw [hf] at hrg
      have HB : Hid (Below w.heap.size w wr ∧ wr.rangeAt b (o + k * 6) (flC f) ∧ (fs.take k).any (fun f => f.k == 3) = false ∧ fs.getD k default = f ∧ k < fs.length) := ⟨hbel, rangeAt_same hrg (hbel.block b hbl), hall, hf, hlt'⟩
      have i1 : (0 : Int) ≤ (k : Int) := by omega
      have i2 : (k : Int) < (n : Int) := by omega
      clear hbl hrg hf hbel hall hlt'
      by_cases h3 : f.k = 3
      · have h3' : (f.k == 3) = true := by simp [h3]
        have HF : Hid (powL fs = 1) := powL_ahead (i := k) HB.out.2.2.2.2 (by rw [HB.out.2.2.2.1]; exact h3)
        clear h3
        go_wp2_with (first | (refine wpList_load_mid rfl 109 (.tmp 10) rfl b (o + k * 6) rfl (flC f) _ HB.out.2.1 Tryz.underlying109 rfl (sizeFl f) ?_) | (refine wpList_alloc_new rfl 109 rfl 6 _ zeroFl ?_; intro w4 b4 s4 l4) | (refine wpList_store_blk rfl 109 109 (.tmp 5) _ rfl _ rfl _ (flC f) rfl b4 rfl (sizeFl f) (flC_one f) ?_; intro w5 b5 s5 k5; have c1 : w5.cell? ⟨wr.heap.size, 1, none⟩ = some (.int .i64 f.k) := b5.cell 1))
        have R : Hid (Below w.heap.size w w5) := below_chain HB.out.1 (below_kept l4 k5 (by omega) (fun j hj => by omega)) HB.out.1.size
        clear b4 s4 l4 b5 s5 k5 c1
        go_ret
        exact ⟨ret_int HF.out.symm, R.out⟩
      · have h3' : (f.k == 3) = false := by simp [h3]
        rcases (show f.k = 4 ∨ f.k ≠ 4 by omega) with h4 | h4
        · have h4' : (f.k == 4) = true := by simp [h4]
          have HF : Hid ((fs.take (k + 1)).any (fun f => f.k == 3) = false ∧ (if (fs.take (k + 1)).any (fun f => f.k == 4) then (2 : Int) else 0) = 2) := ⟨by rw [take_any_succ HB.out.2.2.2.2, HB.out.2.2.1, HB.out.2.2.2.1, h3']; rfl, by rw [take_any_succ HB.out.2.2.2.2, HB.out.2.2.2.1, h4', Bool.or_true]; rfl⟩
          clear h3 h4
          go_wp2_with (first | (refine wpList_load_mid rfl 109 (.tmp 10) rfl b (o + k * 6) rfl (flC f) _ HB.out.2.1 Tryz.underlying109 rfl (sizeFl f) ?_) | (refine wpList_alloc_new rfl 109 rfl 6 _ zeroFl ?_; intro w4 b4 s4 l4) | (refine wpList_store_blk rfl 109 109 (.tmp 5) _ rfl _ rfl _ (flC f) rfl b4 rfl (sizeFl f) (flC_one f) ?_; intro w5 b5 s5 k5; have c1 : w5.cell? ⟨wr.heap.size, 1, none⟩ = some (.int .i64 f.k) := b5.cell 1))
          have R : Hid (Below w.heap.size w w5) := below_chain HB.out.1 (below_kept l4 k5 (by omega) (fun j hj => by omega)) HB.out.1.size
          clear b4 s4 l4 b5 s5 k5 c1
          go_roundw
          case rel => exact ⟨k + 1, by omega, by go_num, R.out, HF.out.1, by rw [HF.out.2]⟩
          case measure => simp [intOf] <;> omega
        · have h4' : (f.k == 4) = false := by simp [h4]
          have HF : Hid ((fs.take (k + 1)).any (fun f => f.k == 3) = false ∧ (if (fs.take (k + 1)).any (fun f => f.k == 4) then (2 : Int) else 0) = pw) := ⟨by rw [take_any_succ HB.out.2.2.2.2, HB.out.2.2.1, HB.out.2.2.2.1, h3']; rfl, by rw [take_any_succ HB.out.2.2.2.2, HB.out.2.2.2.1, h4', Bool.or_false]; exact HP.out⟩
          clear h3 h4
          go_wp2_with (first | (refine wpList_load_mid rfl 109 (.tmp 10) rfl b (o + k * 6) rfl (flC f) _ HB.out.2.1 Tryz.underlying109 rfl (sizeFl f) ?_) | (refine wpList_alloc_new rfl 109 rfl 6 _ zeroFl ?_; intro w4 b4 s4 l4) | (refine wpList_store_blk rfl 109 109 (.tmp 5) _ rfl _ rfl _ (flC f) rfl b4 rfl (sizeFl f) (flC_one f) ?_; intro w5 b5 s5 k5; have c1 : w5.cell? ⟨wr.heap.size, 1, none⟩ = some (.int .i64 f.k) := b5.cell 1))
          have R : Hid (Below w.heap.size w w5) := below_chain HB.out.1 (below_kept l4 k5 (by omega) (fun j hj => by omega)) HB.out.1.size
          clear b4 s4 l4 b5 s5 k5 c1
          go_roundw
          case rel => exact ⟨k + 1, by omega, by go_num, R.out, HF.out.1, by rw [HF.out.2]⟩
          case measure => simp [intOf] <;> omega
    · obtain rfl : k = n := by omega
      have HF : Hid (powL fs = pw ∧ Below w.heap.size w wr) := ⟨by
        have e := HN.out
        rw [List.take_of_length_le (by omega)] at hall
        have p := HP.out
        rw [List.take_of_length_le (by omega)] at p
        unfold powL
        rw [hall, p]; rfl, hbel⟩
      clear hbel hall hk
      go_wp2
      go_ret
      exact ⟨ret_int HF.out.1.symm, HF.out.2⟩
end Go.Proofs.YtfhieacclifihaaGreat
namespace Go.Proofs.YtfhieacclifihaaGreat
open Go.RowKit
set_option linter.unusedVariables false
set_option linter.unusedSimpArgs false

/-- What lay on page p so many writes ago. -/
def agoL (s : HSt) (p : Nat) (b : Int) : List Int :=
  if b.toNat < (s.laid p).length then (s.laid p).getD ((s.laid p).length - 1 - b.toNat) [] else List.replicate s.size 0
theorem agoL_length {s : HSt} (g : s.Good) (p : Nat) (b : Int) : (agoL s p b).length = s.size := by
  unfold agoL
  split
  · next h =>
    have hi : (s.laid p).length - 1 - b.toNat < (s.laid p).length := by omega
    have e : (s.laid p).getD ((s.laid p).length - 1 - b.toNat) [] = (s.laid p)[(s.laid p).length - 1 - b.toNat] := by simp [List.getD, hi]
    rw [e]; exact g.len p _ (List.getElem_mem hi)
  · simp
theorem mk_bytes (n : Nat) (hn : n ≤ 1048576) (w : World) : (Instr.makeSlice 66 (.int .i64 (n : Int)) (.int .i64 (n : Int))).run Tryz.prog w = .ok (.slice (some ⟨w.heap.size, 0, none⟩) n n) (w.alloc (.cells (madeCells #[.int .u8 0] n) 5)) :=
  run_make_row' 66 5 (.int .u8 0) 1 Tryz.underlying66 info_byte rfl .i64 .i64 n (by omega) (by omega) w
theorem made_blk (w : World) (z : Value) (n : Nat) (t : TypeId) : Blk (w.alloc (.cells (madeCells #[z] n) t)) w.heap.size t (List.replicate n z) := by
  unfold Blk
  have e : madeCells #[z] n = (List.replicate n z).toArray := by
    apply Array.ext
    · simp [size_madeCells]
    · intro i h1 h2
      simp [madeCells, Nat.mod_one]
  rw [e]; exact heap_alloc_new w _
theorem zeros_u8s (n : Nat) : List.replicate n (Value.int .u8 0) = u8s (List.replicate n 0) := by simp [u8s]
theorem bytes_zeros (n : Nat) : Bytes (List.replicate n 0) := fun z hz => by rw [List.eq_of_mem_replicate hz]; decide
/-- A row of its own: new, known whole. -/
def NewB (w w' : World) (v : Value) (zs : List Int) : Prop := ∃ g, v = .slice (some ⟨g, 0, none⟩) zs.length zs.length ∧ Blk w' g 5 (u8s zs) ∧ w.heap.size ≤ g ∧ Bytes zs
theorem agoL_bytes {w : World} {M : Nat → Prop} {h : Nat} {s : HSt} (x : HostAt w M h s) (p : Nat) (hp : p < s.pages) (b : Int) : Bytes (agoL s p b) := by
  obtain ⟨gl, gm, lg, rws, n, D, x⟩ := x
  unfold agoL
  split
  · next hl =>
    rcases x.row p hp with ⟨_, e⟩ | ⟨g, o, cap, vs, e, hb, hM, hc, ho, hx⟩
    · rw [e] at hl; cases hl
    · obtain ⟨_, _, _, _, _, q, _⟩ := hx ((s.laid p).length - 1 - b.toNat) (by omega)
      exact q
  · exact bytes_zeros _
theorem ago_zeros {s : HSt} {p : Nat} {b : Int} {sz : Nat} (h : (s.laid p).length ≤ b.toNat) (e : s.size = sz) : agoL s p b = List.replicate sz 0 := by
  unfold agoL
  rw [if_neg (by omega), e]
theorem ago_at {s : HSt} {p : Nat} {b : Int} {j : Nat} (h : (s.laid p).length = j + b.toNat + 1) : agoL s p b = (s.laid p).getD j [] := by
  unfold agoL
  rw [if_pos (by omega), h, show j + b.toNat + 1 - 1 - b.toNat = j by omega]
set_option maxRecDepth 20000 in
set_option maxHeartbeats 1000000 in
theorem ago_any (h : Nat) (s : HSt) (p : Nat) (b : Int) (hp : p < s.pages) (hb : I64 b) (M : Nat → Prop) (w : World) (x : HostAt w M h s) :
    Calls Tryz.prog 182 #[.pointer (some ⟨h, 0, none⟩), .int .i64 p, .int .i64 b] w fun e w' => ∃ v, e = .returned v ∧ NewB w w' v (agoL s p b) ∧ Below w.heap.size w w' := by
  have HBy := agoL_bytes x p hp b
  obtain ⟨gl, gm, lg, rws, n, D, x⟩ := x
  have c0 : w.cell? ⟨h, 0, none⟩ = some (.int .i64 s.size) := x.blk.cell 0
  have c1 : w.cell? ⟨h, 1, none⟩ = some (.slice (some ⟨gl, 0, none⟩) s.pages s.pages) := x.blk.cell 1
  have cp : w.cell? ⟨gl, p, none⟩ = some (rws.getD p (.slice none 0 0)) := by
    rw [x.lot.cell p]
    have := x.cnt
    simp [List.getD, show p < rws.length by omega]
  have hL := agoL_length x.good p b
  have hs1 := x.good.size
  have hpg := x.good.pages
  have hlo := x.good.laid p
  have hop := x.good.ops
  obtain ⟨sz, hsz⟩ : ∃ q, s.size = q := ⟨_, rfl⟩
  obtain ⟨np, hnp⟩ : ∃ q, s.pages = q := ⟨_, rfl⟩
  have hhl : h < w.heap.size := x.blk.lt
  have hgl : gl < w.heap.size := x.lot.lt
  have HL : Hid ((agoL s p b).length = sz ∧ h < w.heap.size ∧ gl < w.heap.size ∧ Bytes (agoL s p b)) := ⟨by rw [← hsz]; exact hL, hhl, hgl, HBy⟩
  have hr := x.row p hp
  rw [hsz] at c0
  rw [hnp] at c1
  have HZ : Hid (s.size = sz ∧ s.pages = np) := ⟨hsz, hnp⟩
  have i1 : (0 : Int) ≤ (p : Int) := by omega
  have i2 : (p : Int) < (np : Int) := by omega
  have mk := mk_bytes sz (by omega)
  have B0 : Hid (Blk (w.alloc (.cells (madeCells #[.int .u8 0] sz) 5)) w.heap.size 5 (u8s (List.replicate sz 0)) ∧ Below w.heap.size w (w.alloc (.cells (madeCells #[.int .u8 0] sz) 5))) := ⟨by rw [← zeros_u8s]; exact made_blk _ _ _ _, (Below.refl _ _).alloc (Nat.le_refl _) _⟩
  have hsz4 : sz ≤ 4124 := by omega
  have hwg : w.heap.size ≠ h := by omega
  have hwl : w.heap.size ≠ gl := by omega
  clear hL hs1 hsz hnp HBy
  rcases hr with ⟨er, el⟩ | ⟨g, o, cap, vs, er, hbk, hM, hc, ho, hx⟩
  · rw [er] at cp
    have HF : Hid (agoL s p b = List.replicate sz 0) := ago_zeros (by rw [el]; exact Nat.zero_le _) HZ.out.1
    clear er el x hlo hpg
    rcases (show b < 0 ∨ 0 ≤ b by omega) with h0 | h0
    all_goals
      go_enter Tryz.func182, Tryz.ntmps182
      go_wp2_with fail
      go_ret
      refine ⟨.slice (some ⟨w.heap.size, 0, none⟩) sz sz, rfl, ⟨w.heap.size, by rw [HF.out, List.length_replicate], by rw [HF.out]; exact B0.out.1, Nat.le_refl _, HL.out.2.2.2⟩, B0.out.2⟩
  · rw [er] at cp
    obtain ⟨L, hLn⟩ : ∃ q, (s.laid p).length = q := ⟨_, rfl⟩
    rw [hLn] at cp hc hx hlo
    have hgg : g < w.heap.size := hbk.lt
    have hwb : w.heap.size ≠ g := by omega
    rcases (show L ≤ b.toNat ∨ ∃ j, L = j + b.toNat + 1 from by
      rcases Nat.lt_or_ge b.toNat L with h | h
      · exact .inr ⟨L - 1 - b.toNat, by omega⟩
      · exact .inl h) with hz | ⟨j, hj⟩
    · have HF : Hid (agoL s p b = List.replicate sz 0) := ago_zeros (by rw [hLn]; exact hz) HZ.out.1
      clear er x hpg hx hLn hbk
      rcases (show b < 0 ∨ 0 ≤ b by omega) with h0 | h0
      · obtain rfl : L = 0 := by omega
        clear hz
        go_enter Tryz.func182, Tryz.ntmps182
        go_wp2_with fail
        go_ret
        refine ⟨.slice (some ⟨w.heap.size, 0, none⟩) sz sz, rfl, ⟨w.heap.size, by rw [HF.out, List.length_replicate], by rw [HF.out]; exact B0.out.1, Nat.le_refl _, HL.out.2.2.2⟩, B0.out.2⟩
      · have h1 : (L : Int) ≤ b := by omega
        clear hz
        go_enter Tryz.func182, Tryz.ntmps182
        go_wp2_with fail
        go_ret
        refine ⟨.slice (some ⟨w.heap.size, 0, none⟩) sz sz, rfl, ⟨w.heap.size, by rw [HF.out, List.length_replicate], by rw [HF.out]; exact B0.out.1, Nat.le_refl _, HL.out.2.2.2⟩, B0.out.2⟩
    · have hF : agoL s p b = (s.laid p).getD j [] := ago_at (by rw [hLn]; exact hj)
      obtain ⟨bb, cc, e1, hr1, hMb, hBy, hle⟩ := hx j (by omega)
      rw [← hF] at e1 hr1 hBy hle
      rw [HL.out.1] at e1
      have cj : w.cell? ⟨g, o + j, none⟩ = some (.slice (some ⟨bb, 0, none⟩) sz cc) := by rw [hbk.cell, e1]
      have Z := HL.out.1
      obtain ⟨zs, hzs⟩ : ∃ q, agoL s p b = q := ⟨_, rfl⟩
      rw [hzs] at hr1 hBy Z
      have S1 := (Seen.of_row (n := sz) hr1 (by omega) (by omega) hBy).later B0.out.2 (Nat.le_refl _)
      rw [List.take_of_length_le (by omega)] at S1
      have HS : Hid (Seen (w.alloc (.cells (madeCells #[.int .u8 0] sz) 5)) (some ⟨bb, 0, none⟩) sz zs ∧ agoL s p b = zs ∧ zs.length = sz ∧ Bytes zs) := ⟨S1, hzs, Z, hBy⟩
      clear er x hpg hx hLn hbk e1 hr1 hBy hle Z S1 hF hzs hMb
      have HK : Hid (zs.take sz = zs) := List.take_of_length_le (by rw [HS.out.2.2.1]; exact Nat.le_refl _)
      rcases (show b < 0 ∨ 0 ≤ b by omega) with h0 | h0
      · have e2 : (L : Int) - 1 = (j : Int) := by omega
        have e3 : (0 : Int) ≤ (j : Int) := by omega
        have e4 : (j : Int) < (L : Int) := by omega
        clear hj
        go_enter Tryz.func182, Tryz.ntmps182
        go_wp2_with (first | ((with_reducible show wpList _ _ _ (({ dst := some 35, op := _, type := _, pos := _, after := _, guard := _ } : Oper) :: _) _ _); refine wpList_copy_seen rfl _ _ rfl w.heap.size 0 sz sz _ _ sz cc rfl rfl zs HS.out.1 5 [] (u8s (List.replicate sz 0)) [] (by simpa using B0.out.1) rfl sz (Nat.min_self _) (by rw [u8s_length, List.length_replicate]) (fun _ => rfl) ?_; intro w2 b2 s2 k2))
        have R : Hid (Blk w2 w.heap.size 5 (u8s zs) ∧ Below w.heap.size w w2) := ⟨by rw [HK.out] at b2; simpa using b2, below_kept B0.out.2 k2 B0.out.2.size (fun j hj => by omega)⟩
        clear b2 s2 k2
        go_ret
        exact ⟨.slice (some ⟨w.heap.size, 0, none⟩) sz sz, rfl, ⟨w.heap.size, by rw [HS.out.2.1, HS.out.2.2.1], by rw [HS.out.2.1]; exact R.out.1, Nat.le_refl _, HL.out.2.2.2⟩, R.out.2⟩
      · have e2 : (L : Int) - 1 - b = (j : Int) := by omega
        have e3 : (0 : Int) ≤ (j : Int) := by omega
        have e4 : (j : Int) < (L : Int) := by omega
        clear hj
        go_enter Tryz.func182, Tryz.ntmps182
        go_wp2_with (first | ((with_reducible show wpList _ _ _ (({ dst := some 35, op := _, type := _, pos := _, after := _, guard := _ } : Oper) :: _) _ _); refine wpList_copy_seen rfl _ _ rfl w.heap.size 0 sz sz _ _ sz cc rfl rfl zs HS.out.1 5 [] (u8s (List.replicate sz 0)) [] (by simpa using B0.out.1) rfl sz (Nat.min_self _) (by rw [u8s_length, List.length_replicate]) (fun _ => rfl) ?_; intro w2 b2 s2 k2))
        have R : Hid (Blk w2 w.heap.size 5 (u8s zs) ∧ Below w.heap.size w w2) := ⟨by rw [HK.out] at b2; simpa using b2, below_kept B0.out.2 k2 B0.out.2.size (fun j hj => by omega)⟩
        clear b2 s2 k2
        go_ret
        exact ⟨.slice (some ⟨w.heap.size, 0, none⟩) sz sz, rfl, ⟨w.heap.size, by rw [HS.out.2.1, HS.out.2.2.1], by rw [HS.out.2.1]; exact R.out.1, Nat.le_refl _, HL.out.2.2.2⟩, R.out.2⟩
end Go.Proofs.YtfhieacclifihaaGreat
namespace Go.Proofs.YtfhieacclifihaaGreat
open Go.RowKit
set_option linter.unusedVariables false
set_option linter.unusedSimpArgs false

/-- A byte is turned. -/
def turnL (zs : List Int) (f : Fl) : List Int := if 0 ≤ f.b ∧ f.b < zs.length then zs.set f.b.toNat (bits .xor .u8 (zs.getD f.b.toNat 0) f.y) else zs
theorem turnL_length (zs : List Int) (f : Fl) : (turnL zs f).length = zs.length := by unfold turnL; split <;> simp
set_option maxRecDepth 20000 in
set_option maxHeartbeats 1000000 in
theorem turn_any (g : Nat) (zs : List Int) (f : Fl) (hf : f.Good) (hz : Bytes zs) (hl : zs.length ≤ 1048576) (w : World) (x : Blk w g 5 (u8s zs)) :
    Calls Tryz.prog 183 #[.slice (some ⟨g, 0, none⟩) zs.length zs.length, .agg (flC f).toArray] w fun e w' => e = .returned (.tuple #[]) ∧ Blk w' g 5 (u8s (turnL zs f)) ∧ Kept (fun k => k = g) w w' := by
  have X : Hid (Blk w g 5 (u8s zs)) := x
  have hg : g < w.heap.size := x.lt
  have hgw : w.heap.size ≠ g := by omega
  have hb3 := hf.2.2.2.1
  have hy := hf.2.2.2.2.1
  obtain ⟨n, hn⟩ : ∃ n, zs.length = n := ⟨_, rfl⟩
  rw [hn] at hl ⊢
  have HN : Hid (zs.length = n) := hn
  clear hn hf
  rcases (show f.b < 0 ∨ (n : Int) ≤ f.b ∧ 0 ≤ f.b ∨ (0 ≤ f.b ∧ f.b < (n : Int)) by omega) with h0 | ⟨h0, h1⟩ | ⟨h0, h1⟩
  · have HF : Hid (turnL zs f = zs) := if_neg (by omega)
    clear x
    go_enter Tryz.func183, Tryz.ntmps183
    go_wp2_with (first | (refine wpList_box_new rfl 109 _ rfl (flC f) rfl ?_; intro w1 b1 s1 l1; have c3 : w1.cell? ⟨w.heap.size, 3, none⟩ = some (.int .i64 f.b) := b1.cell 3))
    go_end0
    exact ⟨rfl, by rw [HF.out]; exact X.out.later l1 X.out.lt, Kept.new _ l1⟩
  · have HF : Hid (turnL zs f = zs) := if_neg (by have := HN.out; omega)
    clear x
    go_enter Tryz.func183, Tryz.ntmps183
    go_wp2_with (first | (refine wpList_box_new rfl 109 _ rfl (flC f) rfl ?_; intro w1 b1 s1 l1; have c3 : w1.cell? ⟨w.heap.size, 3, none⟩ = some (.int .i64 f.b) := b1.cell 3))
    go_end0
    exact ⟨rfl, by rw [HF.out]; exact X.out.later l1 X.out.lt, Kept.new _ l1⟩
  · obtain ⟨j, hj⟩ : ∃ j : Nat, f.b = (j : Int) := ⟨f.b.toNat, by omega⟩
    obtain ⟨z, hzz⟩ : ∃ z, zs.getD j 0 = z := ⟨_, rfl⟩
    have HF : Hid (turnL zs f = zs.set j (bits .xor .u8 z f.y)) := by
      have e : turnL zs f = zs.set f.b.toNat (bits .xor .u8 (zs.getD f.b.toNat 0) f.y) := if_pos ⟨h0, by have := HN.out; omega⟩
      rw [hj, Int.toNat_natCast, hzz] at e; exact e
    have cz : w.cell? ⟨g, j, none⟩ = some (.int .u8 z) := by rw [← hzz]; exact u8s_cell x j (by have := HN.out; omega)
    have fz : w.frozen? ⟨g, j, none⟩ = false := x.frozen j
    have bz := hz.at j (by have := HN.out; omega)
    rw [hzz] at bz
    clear x hzz
    have h1' : (j : Int) < (n : Int) := by omega
    have h0' : (0 : Int) ≤ (j : Int) := by omega
    have HJ : Hid (f.b = (j : Int)) := hj
    clear hj h0 h1 hb3
    go_enter Tryz.func183, Tryz.ntmps183
    go_wp2_with (first | (refine wpList_box_new rfl 109 _ rfl (flC f) rfl ?_; intro w1 b1 s1 l1; have c3 : w1.cell? ⟨w.heap.size, 3, none⟩ = some (.int .i64 j) := by { rw [b1.cell 3, ← HJ.out]; rfl }; have c4 : w1.cell? ⟨w.heap.size, 4, none⟩ = some (.int .u8 f.y) := b1.cell 4; have cz1 : w1.cell? ⟨g, j, none⟩ = some (.int .u8 z) := (l1.cell (p := ⟨g, j, none⟩) hg).trans cz; have fz1 : w1.frozen? ⟨g, j, none⟩ = false := (X.out.later l1 X.out.lt).frozen j))
    go_region_with (fail)
    all_goals
      go_end0
      have B2 := (X.out.later l1 X.out.lt).set j (.int .u8 (bits .xor .u8 z f.y))
      rw [u8s_set] at B2
      exact ⟨rfl, by rw [HF.out]; exact B2.drew, ((Kept.new (fun k => k = g) l1).setCell (p := ⟨g, j, none⟩) rfl _).drew⟩
def spL (s : HSt) (p : Nat) (z : List Int) (f : Fl) : List Int :=
  if f.k = 0 then turnL z f else if f.k = 1 then agoL s p f.c else if f.k = 2 ∧ hasP s f.p then agoL s f.p.toNat 0 else z
/-- What a read answers under these faults. -/
def spoL (s : HSt) (p : Nat) (fs : List Fl) : List Int := fs.foldl (spL s p) (agoL s p 0)
theorem spL_length {s : HSt} (g : s.Good) (p : Nat) (z : List Int) (f : Fl) (h : z.length = s.size) : (spL s p z f).length = s.size := by
  unfold spL
  split
  · rw [turnL_length, h]
  · split
    · exact agoL_length g _ _
    · split
      · exact agoL_length g _ _
      · exact h
theorem spoL_take {s : HSt} (p : Nat) (fs : List Fl) (k : Nat) (hk : k < fs.length) : spoL s p (fs.take (k + 1)) = spL s p (spoL s p (fs.take k)) (fs.getD k default) := by
  unfold spoL
  rw [List.take_succ_eq_append_getElem hk, List.foldl_append]
  simp [List.getD, hk]
theorem spoL_length {s : HSt} (g : s.Good) (p : Nat) (fs : List Fl) : (spoL s p fs).length = s.size := by
  unfold spoL
  have : ∀ (l : List Fl) (z : List Int), z.length = s.size → (l.foldl (spL s p) z).length = s.size := by
    intro l
    induction l with
    | nil => intro z hz; exact hz
    | cons f l ih => intro z hz; exact ih _ (spL_length g p z f hz)
  exact this fs _ (agoL_length g p 0)
theorem xor8 (x y : Int) (hx : 0 ≤ x ∧ x < 256) (hy : 0 ≤ y ∧ y < 256) : 0 ≤ bits .xor .u8 x y ∧ bits .xor .u8 x y < 256 := by
  have h1 : x.toNat ^^^ y.toNat < 2 ^ 8 := Nat.xor_lt_two_pow (by omega) (by omega)
  rw [u8_xor x y hx.1 hx.2 hy.1 hy.2]
  omega
theorem turnL_bytes {z : List Int} {f : Fl} (hz : Bytes z) (hf : f.Good) : Bytes (turnL z f) := by
  unfold turnL
  split
  · next h =>
    intro y hy
    rcases List.mem_or_eq_of_mem_set hy with h1 | rfl
    · exact hz y h1
    · exact xor8 _ _ (hz.at _ (by omega)) hf.2.2.2.2.1
  · exact hz
set_option maxRecDepth 20000 in
set_option maxHeartbeats 2000000 in
theorem spoilt_any (h : Nat) (s : HSt) (p : Nat) (hp : p < s.pages) (v : Value) (fs : List Fl) (M : Nat → Prop) (w : World) (x : HostAt w M h s) (y : FlS w M v fs) :
    Calls Tryz.prog 176 #[.pointer (some ⟨h, 0, none⟩), .int .i64 p, v] w fun e w' => ∃ v, e = .returned v ∧ NewB w w' v (spoL s p fs) ∧ Below w.heap.size w w' := by
  obtain ⟨ao, c, rfl, hx⟩ := y.ex
  have G : Hid s.Good := by obtain ⟨_, _, _, _, _, _, x⟩ := x; exact x.good
  have X : Hid (HostAt w M h s ∧ FlS w M (.slice ao fs.length c) fs ∧ p < s.pages) := ⟨x, y, hp⟩
  have HX : Hid (∀ i, i < fs.length → ∃ b o, ao = some ⟨b, o, none⟩ ∧ b < w.heap.size ∧ M b ∧ w.rangeAt b (o + i * 6) (flC (fs.getD i default))) := hx
  have ht := y.top
  have CA : Hid (∀ (W : World), Below w.heap.size w W → ∀ (q : Nat) (b : Int), q < s.pages → I64 b → Calls Tryz.prog 182 #[.pointer (some ⟨h, 0, none⟩), .int .i64 q, .int .i64 b] W fun e w' => ∃ v, e = .returned v ∧ NewB W w' v (agoL s q b) ∧ Below W.heap.size W w') :=
    fun W hW q b hq hb => ago_any h s q b hq hb M W (X.out.1.later hW)
  have CH : Hid (∀ (W : World), Below w.heap.size w W → ∀ (q : Int), Calls Tryz.prog 179 #[.pointer (some ⟨h, 0, none⟩), .int .i64 q] W fun e w' => e = .returned (.bool (hasP s q)) ∧ W = w') :=
    fun W hW q => has_any h s q M W (X.out.1.later hW)
  have C0 := CA.out w (Below.refl _ _) p 0 hp (by decide)
  clear x y hx
  obtain ⟨n, hn⟩ : ∃ n, fs.length = n := ⟨_, rfl⟩
  rw [hn] at ht ⊢
  have HN : Hid (fs.length = n) := hn
  clear hn hp
  go_enter Tryz.func176, Tryz.ntmps176
  go_wp2_with (go_at_call 182; refine C0.mono ?_; rintro e w1 ⟨v1, rfl, n1, l1⟩)
  go_loopw [7, 15] (fun b i wr => ∃ k : Nat, k ≤ n ∧ i = .int .i64 k ∧ Below w.heap.size w wr ∧ NewB w wr b (spoL s p (fs.take k))) (fun _ i _ => n - (intOf i).toNat)
  case atStart => exact ⟨0, Nat.zero_le _, rfl, l1, n1⟩
  case round =>
    obtain ⟨k, hk, rfl, hbel, hnb⟩ := hrel
    obtain ⟨g, rfl, hbk, hgw, hby⟩ := hnb
    have hlz := spoL_length G.out p (fs.take k)
    rw [hlz]
    obtain ⟨zs, hzs⟩ : ∃ q, spoL s p (fs.take k) = q := ⟨_, rfl⟩
    rw [hzs] at hbk hby hlz
    obtain ⟨sz, hsz⟩ : ∃ q, s.size = q := ⟨_, rfl⟩
    rw [hsz] at hlz ⊢
    have hs4 : sz ≤ 4124 := by rw [← hsz]; exact G.out.size.2
    by_cases hlt : k < n
    · obtain ⟨b, o, rfl, hbl, _, hrg⟩ := HX.out k (by rw [HN.out]; exact hlt)
      have hlt' : k < fs.length := by rw [HN.out]; exact hlt
      obtain ⟨f, hf⟩ : ∃ f, fs.getD k default = f := ⟨_, rfl⟩
      rw [hf] at hrg
      have hg : f.Good := by rw [← hf]; exact Fl.good_at X.out.2.1.good k hlt'
      have hst : spoL s p (fs.take (k + 1)) = spL s p zs f := by rw [spoL_take p fs k hlt', hzs, hf]
      have HB : Hid (Below w.heap.size w wr ∧ wr.rangeAt b (o + k * 6) (flC f) ∧ Blk wr g 5 (u8s zs) ∧ w.heap.size ≤ g ∧ g < wr.heap.size ∧ Bytes zs ∧ f.Good ∧ spoL s p (fs.take (k + 1)) = spL s p zs f ∧ zs.length = sz ∧ s.size = sz) := ⟨hbel, rangeAt_same hrg (hbel.block b hbl), hbk, hgw, hbk.lt, hby, hg, hst, hlz, hsz⟩
      have HE : Hid (∀ (v : Value) (W W' : World), Below w.heap.size w W → NewB W W' v (spL s p zs f) → Below W.heap.size W W' → NewB w W' v (spoL s p (fs.take (k + 1))) ∧ Below w.heap.size w W') := fun v W W' h1 h2 h3 => by
        obtain ⟨q, e1, e2, e3, e4⟩ := h2
        exact ⟨⟨q, by rw [hst]; exact e1, by rw [hst]; exact e2, Nat.le_trans h1.size e3, by rw [hst]; exact e4⟩, below_chain h1 h3 h1.size⟩
      have i1 : (0 : Int) ≤ (k : Int) := by omega
      have i2 : (k : Int) < (n : Int) := by omega
      clear hbl hrg hf hg hst hbk hgw hby hlt' hbel hzs hlz hsz
      rcases (show f.k = 0 ∨ f.k = 1 ∨ (f.k = 2 ∧ hasP s f.p = true) ∨ (f.k = 2 ∧ hasP s f.p = false) ∨ (f.k ≠ 0 ∧ f.k ≠ 1 ∧ f.k ≠ 2) by
        cases hasP s f.p <;> simp <;> omega) with h0 | h0 | ⟨h0, h1⟩ | ⟨h0, h1⟩ | ⟨h0, h1, h2⟩
      · have q0 : (f.k == 0) = true := by simp [h0]
        have HF : Hid (spL s p zs f = turnL zs f) := if_pos h0
        clear h0
        go_wp2_with (first | (refine wpList_load_mid rfl 109 (.tmp 17) rfl b (o + k * 6) rfl (flC f) _ HB.out.2.1 Tryz.underlying109 rfl (sizeFl f) ?_) | (refine wpList_alloc_new rfl 109 rfl 6 _ zeroFl ?_; intro w4 b4 s4 l4) | (refine wpList_store_blk rfl 109 109 (.tmp 9) _ rfl _ rfl _ (flC f) rfl b4 rfl (sizeFl f) (flC_one f) ?_; intro w5 b5 s5 k5; have c1 : w5.cell? ⟨wr.heap.size, 1, none⟩ = some (.int .i64 f.k) := b5.cell 1) | (refine wpList_load_blk rfl 109 (.tmp 9) rfl _ rfl (flC f) _ b5 Tryz.underlying109 rfl (sizeFl f) ?_))
        have U5 : Hid (Below wr.heap.size wr w5) := below_kept l4 k5 (by omega) (fun j hj => by omega)
        have CT := turn_any g zs f HB.out.2.2.2.2.2.2.1 HB.out.2.2.2.2.2.1 (by rw [HB.out.2.2.2.2.2.2.2.2.1]; omega) w5 (HB.out.2.2.1.later U5.out HB.out.2.2.2.2.1)
        rw [HB.out.2.2.2.2.2.2.2.2.1] at CT
        refine CT.mono ?_
        rintro e w6 ⟨rfl, b6, k6⟩
        have R : Hid (NewB w w6 (.slice (some ⟨g, 0, none⟩) sz sz) (spoL s p (fs.take (k + 1))) ∧ Below w.heap.size w w6) := by
          refine ⟨⟨g, ?_, ?_, HB.out.2.2.2.1, ?_⟩, below_kept (below_chain HB.out.1 U5.out HB.out.1.size) k6 (by have := U5.out.size; have := HB.out.1.size; omega) (fun j hj => by have := HB.out.2.2.2.1; omega)⟩
          · rw [HB.out.2.2.2.2.2.2.2.1, HF.out, turnL_length, HB.out.2.2.2.2.2.2.2.2.1]
          · rw [HB.out.2.2.2.2.2.2.2.1, HF.out]; exact b6
          · rw [HB.out.2.2.2.2.2.2.2.1, HF.out]; exact turnL_bytes HB.out.2.2.2.2.2.1 HB.out.2.2.2.2.2.2.1
        clear b4 s4 l4 b5 s5 k5 c1 b6 k6 U5 CT
        go_wp2
        go_roundw
        case rel => exact ⟨k + 1, by omega, by go_num, R.out.2, R.out.1⟩
        case measure => simp [intOf] <;> omega
      · have q0 : (f.k == 0) = false := by simp [h0]
        have q1 : (f.k == 1) = true := by simp [h0]
        have HF : Hid (spL s p zs f = agoL s p f.c) := by
          have : spL s p zs f = agoL s p f.c := by unfold spL; rw [if_neg (by omega), if_pos h0]
          exact this
        clear h0
        go_wp2_with (first | (refine wpList_load_mid rfl 109 (.tmp 17) rfl b (o + k * 6) rfl (flC f) _ HB.out.2.1 Tryz.underlying109 rfl (sizeFl f) ?_) | (refine wpList_alloc_new rfl 109 rfl 6 _ zeroFl ?_; intro w4 b4 s4 l4) | (refine wpList_store_blk rfl 109 109 (.tmp 9) _ rfl _ rfl _ (flC f) rfl b4 rfl (sizeFl f) (flC_one f) ?_; intro w5 b5 s5 k5; have c1 : w5.cell? ⟨wr.heap.size, 1, none⟩ = some (.int .i64 f.k) := b5.cell 1; have c5 : w5.cell? ⟨wr.heap.size, 5, none⟩ = some (.int .i64 f.c) := b5.cell 5))
        have U5 : Hid (Below w.heap.size w w5) := below_chain HB.out.1 (below_kept l4 k5 (by omega) (fun j hj => by omega)) HB.out.1.size
        refine (CA.out w5 U5.out p f.c X.out.2.2 HB.out.2.2.2.2.2.2.1.2.2.2.2.2).mono ?_
        rintro e w6 ⟨v6, rfl, n6, l6⟩
        have R : Hid (NewB w w6 v6 (spoL s p (fs.take (k + 1))) ∧ Below w.heap.size w w6) := HE.out v6 w5 w6 U5.out (by rw [HF.out]; exact n6) l6
        clear c5
        clear b4 s4 l4 b5 s5 k5 c1 n6 l6 U5
        go_wp2
        go_roundw
        case rel => exact ⟨k + 1, by omega, by go_num, R.out.2, R.out.1⟩
        case measure => simp [intOf] <;> omega
      · have q0 : (f.k == 0) = false := by simp [h0]
        have q1 : (f.k == 1) = false := by simp [h0]
        have q2 : (f.k == 2) = true := by simp [h0]
        obtain ⟨q, hq⟩ : ∃ q : Nat, f.p = (q : Int) := ⟨f.p.toNat, by simp [hasP] at h1; omega⟩
        have HQ : Hid (f.p = (q : Int) ∧ q < s.pages) := ⟨hq, by simp [hasP] at h1; omega⟩
        have HF : Hid (spL s p zs f = agoL s q 0) := by
          have : spL s p zs f = agoL s q 0 := by unfold spL; rw [if_neg (by omega), if_neg (by omega), if_pos ⟨h0, h1⟩, hq, Int.toNat_natCast]
          exact this
        have C5 := fun W hW => CH.out W hW f.p
        rw [h1, hq] at C5
        clear h0 h1 hq
        go_wp2_with (first | (refine wpList_load_mid rfl 109 (.tmp 17) rfl b (o + k * 6) rfl (flC f) _ HB.out.2.1 Tryz.underlying109 rfl (sizeFl f) ?_) | (refine wpList_alloc_new rfl 109 rfl 6 _ zeroFl ?_; intro w4 b4 s4 l4) | (refine wpList_store_blk rfl 109 109 (.tmp 9) _ rfl _ rfl _ (flC f) rfl b4 rfl (sizeFl f) (flC_one f) ?_; intro w5 b5 s5 k5; have c1 : w5.cell? ⟨wr.heap.size, 1, none⟩ = some (.int .i64 f.k) := b5.cell 1; have c2 : w5.cell? ⟨wr.heap.size, 2, none⟩ = some (.int .i64 q) := by { rw [b5.cell 2, ← HQ.out.1]; rfl }) | (go_at_call 179; refine (C5 w5 (below_chain HB.out.1 (below_kept l4 k5 (by omega) (fun j hj => by omega)) HB.out.1.size)).mono ?_; rintro e _ ⟨rfl, rfl⟩))
        have U5 : Hid (Below w.heap.size w w5) := below_chain HB.out.1 (below_kept l4 k5 (by omega) (fun j hj => by omega)) HB.out.1.size
        refine (CA.out w5 U5.out q 0 HQ.out.2 (by decide)).mono ?_
        rintro e w6 ⟨v6, rfl, n6, l6⟩
        have R : Hid (NewB w w6 v6 (spoL s p (fs.take (k + 1))) ∧ Below w.heap.size w w6) := HE.out v6 w5 w6 U5.out (by rw [HF.out]; exact n6) l6
        clear c2
        clear b4 s4 l4 b5 s5 k5 c1 n6 l6 U5
        go_wp2
        go_roundw
        case rel => exact ⟨k + 1, by omega, by go_num, R.out.2, R.out.1⟩
        case measure => simp [intOf] <;> omega
      · have q0 : (f.k == 0) = false := by simp [h0]
        have q1 : (f.k == 1) = false := by simp [h0]
        have q2 : (f.k == 2) = true := by simp [h0]
        have HF : Hid (spL s p zs f = zs) := by
          have : spL s p zs f = zs := by unfold spL; rw [if_neg (by omega), if_neg (by omega), if_neg (by rw [h1]; simp)]
          exact this
        have C5 := fun W hW => CH.out W hW f.p
        rw [h1] at C5
        clear h0 h1
        go_wp2_with (first | (refine wpList_load_mid rfl 109 (.tmp 17) rfl b (o + k * 6) rfl (flC f) _ HB.out.2.1 Tryz.underlying109 rfl (sizeFl f) ?_) | (refine wpList_alloc_new rfl 109 rfl 6 _ zeroFl ?_; intro w4 b4 s4 l4) | (refine wpList_store_blk rfl 109 109 (.tmp 9) _ rfl _ rfl _ (flC f) rfl b4 rfl (sizeFl f) (flC_one f) ?_; intro w5 b5 s5 k5; have c1 : w5.cell? ⟨wr.heap.size, 1, none⟩ = some (.int .i64 f.k) := b5.cell 1; have c2 : w5.cell? ⟨wr.heap.size, 2, none⟩ = some (.int .i64 f.p) := b5.cell 2) | (go_at_call 179; refine (C5 w5 (below_chain HB.out.1 (below_kept l4 k5 (by omega) (fun j hj => by omega)) HB.out.1.size)).mono ?_; rintro e _ ⟨rfl, rfl⟩))
        have R : Hid (NewB w w5 (.slice (some ⟨g, 0, none⟩) sz sz) (spoL s p (fs.take (k + 1))) ∧ Below w.heap.size w w5) := by
          have U4 : Below wr.heap.size wr w5 := below_kept l4 k5 (by omega) (fun j hj => by omega)
          refine ⟨⟨g, ?_, ?_, HB.out.2.2.2.1, ?_⟩, below_chain HB.out.1 U4 HB.out.1.size⟩
          · rw [HB.out.2.2.2.2.2.2.2.1, HF.out, HB.out.2.2.2.2.2.2.2.2.1]
          · rw [HB.out.2.2.2.2.2.2.2.1, HF.out]; exact HB.out.2.2.1.later U4 HB.out.2.2.2.2.1
          · rw [HB.out.2.2.2.2.2.2.2.1, HF.out]; exact HB.out.2.2.2.2.2.1
        clear c2
        clear b4 s4 l4 b5 s5 k5 c1
        go_roundw
        case rel => exact ⟨k + 1, by omega, by go_num, R.out.2, R.out.1⟩
        case measure => simp [intOf] <;> omega
      · have q0 : (f.k == 0) = false := by simp [h0]
        have q1 : (f.k == 1) = false := by simp [h1]
        have q2 : (f.k == 2) = false := by simp [h2]
        have HF : Hid (spL s p zs f = zs) := by
          have : spL s p zs f = zs := by unfold spL; rw [if_neg h0, if_neg h1, if_neg (fun h => h2 h.1)]
          exact this
        clear h0 h1 h2
        go_wp2_with (first | (refine wpList_load_mid rfl 109 (.tmp 17) rfl b (o + k * 6) rfl (flC f) _ HB.out.2.1 Tryz.underlying109 rfl (sizeFl f) ?_) | (refine wpList_alloc_new rfl 109 rfl 6 _ zeroFl ?_; intro w4 b4 s4 l4) | (refine wpList_store_blk rfl 109 109 (.tmp 9) _ rfl _ rfl _ (flC f) rfl b4 rfl (sizeFl f) (flC_one f) ?_; intro w5 b5 s5 k5; have c1 : w5.cell? ⟨wr.heap.size, 1, none⟩ = some (.int .i64 f.k) := b5.cell 1))
        have R : Hid (NewB w w5 (.slice (some ⟨g, 0, none⟩) sz sz) (spoL s p (fs.take (k + 1))) ∧ Below w.heap.size w w5) := by
          have U4 : Below wr.heap.size wr w5 := below_kept l4 k5 (by omega) (fun j hj => by omega)
          refine ⟨⟨g, ?_, ?_, HB.out.2.2.2.1, ?_⟩, below_chain HB.out.1 U4 HB.out.1.size⟩
          · rw [HB.out.2.2.2.2.2.2.2.1, HF.out, HB.out.2.2.2.2.2.2.2.2.1]
          · rw [HB.out.2.2.2.2.2.2.2.1, HF.out]; exact HB.out.2.2.1.later U4 HB.out.2.2.2.2.1
          · rw [HB.out.2.2.2.2.2.2.2.1, HF.out]; exact HB.out.2.2.2.2.2.1
        clear b4 s4 l4 b5 s5 k5 c1
        go_roundw
        case rel => exact ⟨k + 1, by omega, by go_num, R.out.2, R.out.1⟩
        case measure => simp [intOf] <;> omega
    · obtain rfl : k = n := by omega
      have HF : Hid (spoL s p fs = zs ∧ Below w.heap.size w wr ∧ Blk wr g 5 (u8s zs) ∧ w.heap.size ≤ g ∧ Bytes zs ∧ zs.length = sz) := ⟨by
        rw [← hzs, List.take_of_length_le (by rw [HN.out]; exact Nat.le_refl _)], hbel, hbk, hgw, hby, hlz⟩
      clear hbel hzs hbk hgw hby hk hlz hsz
      go_wp2
      go_ret
      exact ⟨.slice (some ⟨g, 0, none⟩) sz sz, rfl, ⟨g, by rw [HF.out.1, HF.out.2.2.2.2.2], by rw [HF.out.1]; exact HF.out.2.2.1, HF.out.2.2.2.1, by rw [HF.out.1]; exact HF.out.2.2.2.2.1⟩, HF.out.2.1⟩
end Go.Proofs.YtfhieacclifihaaGreat
namespace Go.Proofs.YtfhieacclifihaaGreat
open Go.RowKit
set_option linter.unusedVariables false
set_option linter.unusedSimpArgs false

def HSt.past (s : HSt) : HSt := { s with coming := fun k => if k = s.ops then [] else s.coming k }
theorem map_ne {w : World} {gm n : Nat} {D : DataW Value} (x : w.ownsMap Tryz.prog 3 heldR gm n D) {g : Nat} {t : TypeId} {vs : List Value} (hb : Blk w g t vs) : g ≠ gm := fun e => by
  subst e
  obtain ⟨es, clock, h1, _⟩ := x
  unfold Blk at hb
  rw [h1] at hb
  cases hb
theorem RowP.isBlk {w : World} {M : Nat → Prop} {v : Value} {L : List (List Int)} (h : RowP w M v L) {b : Nat} (hb : rowBlk v = some b) : ∃ vs, Blk w b 66 vs := by
  rcases h with ⟨rfl, _⟩ | ⟨g, o, cap, vs, rfl, hk, _⟩
  · cases hb
  · cases hb; exact ⟨vs, hk⟩
theorem HostIn.past {w w' : World} {M : Nat → Prop} {h : Nat} {s : HSt} {gl gm : Nat} {lg : Value} {rws : List Value} {n : Nat} {D : DataW Value} (x : HostIn w M h s gl gm lg rws n D)
    (hm : w'.ownsMap Tryz.prog 3 heldR gm n (D.del (.int .i64 s.ops))) (hg : w.grownBy w' (some gm)) : HostIn w' M h s.past gl gm lg rws n (D.del (.int .i64 s.ops)) ∧ FlS w' M (lookV D s.ops) (s.coming s.ops) ∧ Kept (fun k => k = gm) w w' := by
  have hk : Kept (fun k => k = gm) w w' := ⟨hg.os, hg.tape, hg.output, hg.size, fun k hk hs => hg.block k hk (fun e => hs (Option.some.inj e))⟩
  have ne : ∀ {t : TypeId} (b : Nat) (vs : List Value), Blk w b t vs → ¬ b = gm := fun b vs hb => map_ne x.map hb
  refine ⟨⟨⟨x.good.size, x.good.pages, x.good.depth, x.good.reg, x.good.ops, x.good.log, x.good.laid, x.good.len⟩, x.blk.kept hk (ne _ _ x.blk), x.lot.kept hk (ne _ _ x.lot), x.cnt, x.mh, x.ml, x.mm, hm, fun k => ?_, log_kept x.log hk ne, fun p hp => row_kept (x.row p hp) hk (fun b hb => ?_) ne, x.apart, fun k hk => Nat.lt_of_lt_of_le (x.all k hk) hg.size⟩, (com_kept (x.com _) hk ne).mono (fun k hk => hk.1), hk⟩
  · by_cases e : k = s.ops
    · subst e
      rw [lookV_del, show s.past.coming s.ops = [] from if_pos rfl]
      exact FlS.nil _ _
    · rw [lookV_del_other _ _ e, show s.past.coming k = s.coming k from if_neg e]
      exact com_kept (x.com k) hk ne
  · obtain ⟨vs, hv⟩ := (x.row p hp).isBlk hb
    exact ne _ _ hv
/-- The host's own block alone is written. -/
theorem HostIn.turned {w w' : World} {M : Nat → Prop} {h : Nat} {s : HSt} {gl gm : Nat} {lg : Value} {rws : List Value} {n : Nat} {D : DataW Value} (x : HostIn w M h s gl gm lg rws n D) (s' : HSt)
    (g : s'.Good) (e1 : s'.pages = s.pages) (e2 : s'.coming = s.coming) (e3 : s'.laid = s.laid) (e4 : s'.log = s.log) (b : Blk w' h 104 (hostC s' gl gm lg)) (hk : Kept (fun k => k = h) w w') : HostIn w' M h s' gl gm lg rws n D := by
  have ne : ∀ {t : TypeId}, t ≠ 104 → ∀ (b : Nat) (vs : List Value), Blk w b t vs → ¬ b = h := fun ht b vs hb => blk_ne hb x.blk ht
  refine ⟨g, b, x.lot.kept hk (ne (by decide) _ _ x.lot), by rw [e1]; exact x.cnt, x.mh, x.ml, x.mm, ownsMap_same x.map (hk.block _ x.map.lt (map_ne x.map x.blk).symm), fun k => by rw [e2]; exact com_kept (x.com k) hk (ne (by decide)), by rw [e4]; exact log_kept x.log hk (ne (by decide)), fun p hp => ?_, by rw [e1]; exact x.apart, fun k hk' => Nat.lt_of_lt_of_le (x.all k hk') hk.size⟩
  rw [e1] at hp
  rw [e3]
  exact row_kept (x.row p hp) hk (fun b hb => by
    obtain ⟨vs, hv⟩ := (x.row p hp).isBlk hb
    exact ne (by decide) _ _ hv) (ne (by decide))
theorem i64_ops {s : HSt} (g : s.Good) : I64 (s.ops : Int) := by have := g.ops; constructor <;> omega
set_option maxRecDepth 20000 in
set_option maxHeartbeats 1000000 in
theorem bef_any (h : Nat) (s : HSt) (M : Nat → Prop) (gl gm : Nat) (lg : Value) (rws : List Value) (n : Nat) (D : DataW Value) (w : World) (x : HostIn w M h s gl gm lg rws n D) :
    Calls Tryz.prog 180 #[.pointer (some ⟨h, 0, none⟩)] w fun e w' => e = .returned (lookV D s.ops) ∧ HostIn w' M h s.past gl gm lg rws n (D.del (.int .i64 s.ops)) ∧ FlS w' M (lookV D s.ops) (s.coming s.ops) ∧ Kept (fun k => k = gm) w w' := by
  have X : Hid (HostIn w M h s gl gm lg rws n D) := x
  have c4 : w.cell? ⟨h, 4, none⟩ = some (.map (some gm)) := x.blk.cell 4
  have c5 : w.cell? ⟨h, 5, none⟩ = some (.int .i64 s.ops) := x.blk.cell 5
  have hlk := look_at x.map (i64_ops x.good)
  obtain ⟨v, hv⟩ : ∃ q, lookV D s.ops = q := ⟨_, rfl⟩
  rw [hv] at hlk
  have HV : Hid (lookV D s.ops = v) := hv
  rw [hv]
  clear x hv
  have HL : Hid (∀ k, (Instr.lookup 99 (.map (some gm)) (.int .i64 s.ops) false).run Tryz.prog (w.drewN k) = .ok v (w.drewN k)) := fun k => by
    have := look_at (w := w.drewN k) X.out.map (i64_ops X.out.good)
    rw [HV.out] at this
    exact this
  go_enter Tryz.func180, Tryz.ntmps180
  have hl1 : (Instr.lookup 99 (.map (some gm)) (.int .i64 s.ops) false).run Tryz.prog w.drew = .ok v w.drew := HL.out 1
  have own2 : w.drew.drew.ownsMap Tryz.prog 3 heldR gm n D := X.out.map
  obtain ⟨w2, hd2, m2, t2⟩ := own2.drop keysI Tryz.underlying99 (Maps.keyOf_int_mk Tryz.underlying3 (wf_of_i64 (i64_ops X.out.good))) 0
  have R : Hid (HostIn w2 M h s.past gl gm lg rws n (D.del (.int .i64 s.ops)) ∧ FlS w2 M (lookV D s.ops) (s.coming s.ops) ∧ Kept (fun k => k = gm) w w2) := by
    have q := t2.grown
    exact X.out.past m2 ⟨q.os, q.tape, q.output, q.size, q.block⟩
  clear own2 m2 t2
  go_wp2_with fail
  go_region_with (fail)
  all_goals
    go_wp2_with fail
    go_region_with (fail)
    all_goals
      go_wp2_with fail
      go_ret
      exact ⟨rfl, R.out.1, by rw [← HV.out]; exact R.out.2.1, R.out.2.2⟩
end Go.Proofs.YtfhieacclifihaaGreat
namespace Go.Proofs.YtfhieacclifihaaGreat
open Go.RowKit
set_option linter.unusedVariables false
set_option linter.unusedSimpArgs false

def more (M : Nat → Prop) (w w' : World) (k : Nat) : Prop := M k ∨ (w.heap.size ≤ k ∧ k < w'.heap.size)
theorem rows_elem {L : List (List Int)} {z : List Int} {i : Nat} (hi : i < (L ++ [z]).length) : (i < L.length ∧ (L ++ [z]).getD i [] = L.getD i []) ∨ (i = L.length ∧ (L ++ [z]).getD i [] = z) := by
  rcases Nat.lt_or_ge i L.length with h | h
  · exact .inl ⟨h, by simp [List.getD, List.getElem?_append, h]⟩
  · obtain rfl : i = L.length := by simp at hi; omega
    exact .inr ⟨rfl, by simp [List.getD]⟩
/-- One row more behind a page's row. -/
theorem row_append {w : World} {M : Nat → Prop} {v : Value} {L : List (List Int)} (x : RowP w M v L) (hM : ∀ k, M k → k < w.heap.size) (bb c : Nat) (z : List Int) (hz : RowAt w bb z) (hm : M bb) (hzb : Bytes z) (hzl : z.length ≤ 8192) (hL : L.length ≤ 3000000000000) :
    ∃ g o cap w', (Builtin.append_ #[65, 65] 65 #[v, .slice (some ⟨w.heap.size, 0, none⟩) 1 1]).run Tryz.prog (w.alloc (.cells #[.slice (some ⟨bb, 0, none⟩) z.length c] 66)) = .ok (.slice (some ⟨g, o, none⟩) (L.length + 1) cap) w' ∧
      RowP w' (more M w w') (.slice (some ⟨g, o, none⟩) (L.length + 1) cap) (L ++ [z]) ∧ Kept (fun k => rowBlk v = some k) w w' ∧ (rowBlk v = some g ∨ w.heap.size ≤ g) ∧ g < w'.heap.size := by
  obtain ⟨w0, hw0⟩ : ∃ q, w.alloc (.cells #[.slice (some ⟨bb, 0, none⟩) z.length c] 66) = q := ⟨_, rfl⟩
  have b0 : Below w.heap.size w w0 := by rw [← hw0]; exact (Below.refl _ _).alloc (Nat.le_refl _) _
  have s0 : w0.heap.size = w.heap.size + 1 := by rw [← hw0]; simp
  have n0 : ∀ j u, [Value.slice (some ⟨bb, 0, none⟩) z.length c][j]? = some u → w0.cell? ((⟨w.heap.size, 0, none⟩ : Addr).add j) = some u := by rw [← hw0]; exact cell_one_new w _ _
  rw [hw0]
  have hbb : bb < w.heap.size := hM bb hm
  obtain ⟨i0, hi, hz0, hz1, hz2⟩ := info_parts info_rowB
  have one : ∀ u ∈ [Value.slice (some ⟨bb, 0, none⟩) z.length c], u.oneCell' = true := by intro u hu; simp at hu; subst hu; rfl
  have L1 : [Value.slice (some ⟨bb, 0, none⟩) z.length c].length = 1 * i0.size := by rw [hz1]; rfl
  -- a new row
  have fresh : ∀ (olds : List Value) (cap : Nat), olds.length = L.length → L.length + 1 ≤ cap → (∀ i, i < L.length → ∃ b c, olds[i]? = some (.slice (some ⟨b, 0, none⟩) (L.getD i []).length c) ∧ RowAt w b (L.getD i []) ∧ M b ∧ Bytes (L.getD i []) ∧ (L.getD i []).length ≤ 8192) → ∀ (arr : Array Value), arr = olds.toArray ++ #[Value.slice (some ⟨bb, 0, none⟩) z.length c] ++ Builtin.zeroCells (Value.slice none 0 0).cells (cap - (L.length + 1)) →
      RowP (w0.drew.alloc (.cells arr 66)) (more M w (w0.drew.alloc (.cells arr 66))) (.slice (some ⟨w0.heap.size, 0, none⟩) (L.length + 1) cap) (L ++ [z]) ∧ Kept (fun k => rowBlk v = some k) w (w0.drew.alloc (.cells arr 66)) := by
    intro olds cap ho hc hx arr harr
    have kp : Below w.heap.size w (w0.drew.alloc (.cells arr 66)) := by
      have : Below w.heap.size w w0.drew := ⟨b0.os, b0.tape, b0.output, b0.size, b0.block⟩
      exact this.alloc this.size _
    have hs : (w0.drew.alloc (.cells arr 66)).heap.size = w.heap.size + 2 := by
      have : (w0.drew.alloc (.cells arr 66)).heap.size = w0.heap.size + 1 := by simp
      rw [this, s0]
    have hl : arr.toList.length = cap := by
      rw [harr]; simp [size_zeroCells, ho, Value.cells]; omega
    refine ⟨.inr ⟨w0.heap.size, 0, cap, arr.toList, by simp, ?_, .inr ⟨by omega, by omega⟩, by simp; omega, by omega, fun i hi => ?_⟩, Kept.new _ kp⟩
    · unfold Blk; rw [Array.toArray_toList]; exact heap_alloc_new w0.drew _
    · rw [Nat.zero_add]
      rcases rows_elem hi with ⟨h1, h2⟩ | ⟨h1, h2⟩
      · obtain ⟨b, c', e1, hr, hmm, r⟩ := hx i h1
        refine ⟨b, c', ?_, ?_, .inl hmm, by rw [h2]; exact r⟩
        · rw [h2, harr, ← e1, Array.getElem?_toList, Array.getElem?_append_left (by simp; omega), Array.getElem?_append_left (by simp; omega)]; simp
        · rw [h2]; exact hr.later kp (Nat.le_refl _)
      · refine ⟨bb, c, ?_, ?_, .inl hm, by rw [h2]; exact ⟨hzb, hzl⟩⟩
        · rw [h2, harr, Array.getElem?_toList, Array.getElem?_append_left (by simp; omega), Array.getElem?_append_right (by simp; omega)]; simp [h1, ho]
        · rw [h2]; exact hz.later kp (Nat.le_refl _)
  rcases x with ⟨rfl, rfl⟩ | ⟨g, o, cap, vs, rfl, hb, hMg, hc, ho, hx⟩
  · have hr := run_append_nil (P := Tryz.prog) w0 65 65 66 i0 (.slice none 0 0) Tryz.underlying65 hi hz0 ⟨w.heap.size, 0, none⟩ 1 1 _ L1 n0 (by decide) (by decide) (by rw [hz2]; decide)
    have hg := fresh [] (grownCap w0 1 0 66) rfl (grownCap_ge w0 1 0 _) (fun i hi => by cases hi) _ rfl
    refine ⟨w0.heap.size, 0, grownCap w0 1 0 66, _, hr, ?_, ?_, .inr (by omega), ?_⟩
    · simpa using hg.1
    · simpa using hg.2
    · simp
  · have hgw : g < w.heap.size := hb.lt
    have hbw : Blk w0 g 66 vs := hb.later b0 hgw
    by_cases hroom : L.length + 1 ≤ cap
    · have hr := run_append_room_src (P := Tryz.prog) w0 65 65 65 66 i0 Tryz.underlying65 hi g o L.length cap (.slice (some ⟨w.heap.size, 0, none⟩) 1 1) 1 _ (Src.ofSlice w0 Tryz.underlying65 ⟨w.heap.size, 0, none⟩ 1 1 _ L1 n0 one) hroom
        (fun j hj => by
          have : j = 0 := by simpa using hj
          subst this
          rw [hz1, Nat.mul_one, Nat.add_zero, hbw.cell, List.getElem?_eq_getElem (by omega)]; rfl) (fun j hj => hbw.frozen _)
      rw [hz1, Nat.mul_one] at hr
      have hs : w0.setCells g (o + L.length) [Value.slice (some ⟨bb, 0, none⟩) z.length c] = w0.setCell ⟨g, o + L.length, none⟩ (.slice (some ⟨bb, 0, none⟩) z.length c) := rfl
      rw [hs] at hr
      have hk : Kept (fun k => k = g) w (w0.setCell ⟨g, o + L.length, none⟩ (.slice (some ⟨bb, 0, none⟩) z.length c)) := (Kept.new (fun k => k = g) b0).setCell (p := ⟨g, o + L.length, none⟩) rfl _
      have hbs := hbw.set (o + L.length) (.slice (some ⟨bb, 0, none⟩) z.length c)
      have ne : ∀ (b : Nat) (zs : List Int), RowAt w b zs → b ≠ g := fun b zs ⟨rest, hr'⟩ => blk_ne (show Blk w b 5 _ from hr') hb (by decide)
      refine ⟨g, o, cap, _, hr, .inr ⟨g, o, cap, _, by simp, hbs, .inl hMg, by simp; omega, by simp; omega, fun i hi => ?_⟩, hk.mono (fun k e => by rw [e]; rfl), .inl rfl, ?_⟩
      · rcases rows_elem hi with ⟨h1, h2⟩ | ⟨h1, h2⟩
        · obtain ⟨b, c', e1, hr1, hmm, r⟩ := hx i h1
          refine ⟨b, c', ?_, ?_, .inl hmm, by rw [h2]; exact r⟩
          · rw [h2, List.getElem?_set_ne (by omega)]; exact e1
          · rw [h2]; exact hr1.kept hk (ne b _ hr1)
        · refine ⟨bb, c, ?_, ?_, .inl hm, by rw [h2]; exact ⟨hzb, hzl⟩⟩
          · rw [h2, h1, List.getElem?_set_self (by omega)]
          · rw [h2]; exact hz.kept hk (ne bb _ hz)
      · have := hk.size; omega
    · have ol : ((vs.drop o).take L.length).length = L.length := by simp; omega
      have hr := run_append_grow (P := Tryz.prog) w0 65 65 66 i0 (.slice none 0 0) Tryz.underlying65 hi hz0 ⟨g, o, none⟩ L.length cap ((vs.drop o).take L.length) (by rw [ol, hz1, Nat.mul_one]) (fun j u hu => by
          rw [add_mid, hbw.cell]
          have hj : j < L.length := by have := (List.getElem?_eq_some_iff.1 hu).1; omega
          rw [List.getElem?_take, if_pos hj, List.getElem?_drop] at hu
          exact hu) ⟨w.heap.size, 0, none⟩ 1 1 _ L1 n0 (by omega) (by omega) (growslice_fits (by omega) (by rw [hz2]; omega))
      have hg := fresh ((vs.drop o).take L.length) (grownCap w0 (L.length + 1) cap 66) ol (grownCap_ge _ _ _ _) (fun i hi => by
          obtain ⟨b, c', e1, r⟩ := hx i hi
          exact ⟨b, c', by rw [List.getElem?_take, if_pos hi, List.getElem?_drop]; exact e1, r⟩) _ rfl
      exact ⟨w0.heap.size, 0, grownCap w0 (L.length + 1) cap 66, _, hr, by simpa using hg.1, by simpa using hg.2, .inr (by omega), by simp⟩
/-- append whose run is known. -/
theorem wpList_append_run {ops : Array Oper} {rest : List Oper} {o : Oper} {a : Act} {Q : Exit → Act → World → Prop} {w : World} (hgd : o.guard = none) (s x : Operand) (t ty : TypeId) (ho : o.op = .call { callee := .builtin .append, args := #[s, x], argTypes := #[t, t] }) (hty : o.type = ty)
    (va vb : Value) (hs : a.eval s = va) (hx : a.eval x = vb) (v' : Value) (w' : World) (hr : (Builtin.append_ #[t, t] ty #[va, vb]).run Tryz.prog w = .ok v' w') (h : wpList Tryz.prog ops Q rest (a.put o.dst v') w') : wpList Tryz.prog ops Q (o :: rest) a w := by
  refine wpList_plain hgd fun K hK => ?_
  subst hty
  unfold Oper.wp execOp
  simp only [ho, resolve, invoke, builtin, Sem.run_bind, Sem.run_pure, Result.andThen_ok, List.map_toArray, List.map_cons, List.map_nil, hs, hx, hr]
  exact hK _ _ h
theorem sizeRowB : (Tryz.prog.info? 66).map (·.size) = some 1 := by kernel_rfl
set_option maxRecDepth 20000 in
theorem sl_row (ao : Option Addr) (n c : Nat) (hl : 1 ≤ n) (w : World) : (Instr.sliceAt 65 (.slice ao n c) (some (.int .i64 1)) none none).run Tryz.prog w = .ok (.slice (subA ao 1 c) (n - 1) (c - 1)) w := by
  rw [run_sliceAt_slice w 65 _ _ _ _ Tryz.underlying65, run_slice_l w 65 ao n c Tryz.underlying65 .i64 1 (by omega) (by omega)]
  rw [show Tryz.prog.elem 65 = 66 by kernel_rfl]
  have hs : (sizeOf 66).run Tryz.prog w = .ok 1 w := by
    have h := sizeRowB
    cases hq : Tryz.prog.info? 66 with
    | none => simp [hq] at h
    | some i => simp [hq] at h; simp [sizeOf, typeInfo, hq, h]
  simp [hs, Result.andThen, sliced, subA]
/-- The oldest row is forgotten. -/
theorem row_drop {w : World} {M : Nat → Prop} {g o cap n : Nat} {L : List (List Int)} (x : RowP w M (.slice (some ⟨g, o, none⟩) n cap) L) (hn : 2 ≤ n) :
    L.length = n ∧ RowP (w.setCell ⟨g, o, none⟩ (.slice none 0 0)) M (.slice (subA (some ⟨g, o, none⟩) 1 cap) (n - 1) (cap - 1)) (L.drop 1) ∧ Kept (fun k => k = g) w (w.setCell ⟨g, o, none⟩ (.slice none 0 0)) ∧ w.cell? ⟨g, o, none⟩ ≠ none ∧ w.frozen? ⟨g, o, none⟩ = false ∧ subA (some ⟨g, o, none⟩) 1 cap = some ⟨g, o + 1, none⟩ := by
  rcases x with ⟨e, _⟩ | ⟨g', o', cap', vs, e, hb, hMg, hc, ho, hx⟩
  · simp at e
  · simp only [Value.slice.injEq, Option.some.injEq, Addr.mk.injEq, and_true, true_and] at e
    obtain ⟨⟨rfl, rfl⟩, rfl, rfl⟩ := e
    have hk : Kept (fun k => k = g) w (w.setCell ⟨g, o, none⟩ (.slice none 0 0)) := (Kept.refl (fun k => k = g) w).setCell (p := ⟨g, o, none⟩) rfl _
    have es : subA (some ⟨g, o, none⟩) 1 cap = some ⟨g, o + 1, none⟩ := by
      unfold subA
      rw [if_neg (by omega)]
      exact congrArg some (add_mid g o 1)
    refine ⟨rfl, .inr ⟨g, o + 1, cap - 1, _, by rw [es]; simp, hb.set o (.slice none 0 0), hMg, by simp; omega, by simp; omega, fun i hi => ?_⟩, hk, ?_, hb.frozen o, es⟩
    · have hi' : i + 1 < L.length := by simp at hi; omega
      have e2 : (L.drop 1).getD i [] = L.getD (i + 1) [] := by simp [List.getD, List.getElem?_drop, Nat.add_comm]
      rw [e2]
      obtain ⟨b, c', e1, hr, hm, r⟩ := hx (i + 1) hi'
      refine ⟨b, c', ?_, ?_, hm, r⟩
      · rw [List.getElem?_set_ne (by omega), show o + 1 + i = o + (i + 1) by omega]; exact e1
      · exact hr.kept hk (blk_ne (show Blk w b 5 _ from hr.choose_spec) hb (by decide))
    · rw [hb.cell, List.getElem?_eq_getElem (by omega)]; simp
/-- What lies on a page behind a write. -/
def keepL (d : Nat) (L : List (List Int)) (z : List Int) : List (List Int) := if d < L.length then (L ++ [z]).drop 1 else L ++ [z]
theorem keepL_length (d : Nat) (L : List (List Int)) (z : List Int) : (keepL d L z).length ≤ L.length + 1 := by unfold keepL; split <;> simp
theorem keepL_mem {d : Nat} {L : List (List Int)} {z y : List Int} (h : y ∈ keepL d L z) : y ∈ L ∨ y = z := by
  unfold keepL at h
  split at h
  · have := List.mem_of_mem_drop h; simpa using this
  · simpa using h
def HSt.wrote (s : HSt) (p : Nat) (z : List Int) : HSt := { s with laid := fun q => if q = p then keepL s.depth (s.laid p) z else s.laid q }
theorem HostIn.rowed {w w' : World} {M M' : Nat → Prop} {h : Nat} {s : HSt} {gl gm : Nat} {lg : Value} {rws : List Value} {n : Nat} {D : DataW Value} (x : HostIn w M h s gl gm lg rws n D) (p : Nat) (hp : p < s.pages) (z : List Int) (hz : z.length = s.size) (hr : (s.laid p).length < s.ops)
    (v' : Value) (hv : RowP w' M' v' (keepL s.depth (s.laid p) z)) (hb : ∀ g, rowBlk v' = some g → rowBlk (rws.getD p (.slice none 0 0)) = some g ∨ w.heap.size ≤ g) (hl : Blk w' gl 65 (rws.set p v')) (hk : Kept (fun k => rowBlk (rws.getD p (.slice none 0 0)) = some k ∨ k = gl) w w')
    (hM : ∀ k, M k → M' k) (ha : ∀ k, M' k → k < w'.heap.size) : HostIn w' M' h (s.wrote p z) gl gm lg (rws.set p v') n D := by
  have nr : ∀ {t : TypeId}, t ≠ 66 → t ≠ 65 → ∀ (b : Nat) (vs : List Value), Blk w b t vs → ¬ (rowBlk (rws.getD p (.slice none 0 0)) = some b ∨ b = gl) := fun h1 h2 b vs hb e => by
    rcases e with e | rfl
    · obtain ⟨us, hu⟩ := (x.row p hp).isBlk e
      exact blk_ne hb hu h1 rfl
    · exact blk_ne hb x.lot h2 rfl
  have hpl : p < rws.length := by rw [x.cnt]; exact hp
  have gq : ∀ q, q ≠ p → (rws.set p v').getD q (.slice none 0 0) = rws.getD q (.slice none 0 0) := fun q hq => by simp [List.getD, List.getElem?_set_ne (Ne.symm hq)]
  have gp : (rws.set p v').getD p (.slice none 0 0) = v' := by simp [List.getD, hpl]
  have ap : ∀ q, q < s.pages → q ≠ p → ∀ g, rowBlk (rws.getD q (.slice none 0 0)) = some g → rowBlk (rws.getD p (.slice none 0 0)) ≠ some g := fun q hq hne g hg => by
    rcases Nat.lt_or_gt_of_ne hne with h1 | h1
    · exact x.apart q p h1 hp g hg
    · intro e; exact x.apart p q h1 hq g e hg
  have mm : ∀ b, M b → M' b := hM
  refine ⟨⟨x.good.size, x.good.pages, x.good.depth, x.good.reg, x.good.ops, x.good.log, fun q => ?_, fun q y hy => ?_⟩, x.blk.kept hk (nr (by decide) (by decide) _ _ x.blk), hl, by rw [List.length_set]; exact x.cnt, hM _ x.mh, hM _ x.ml, hM _ x.mm, ownsMap_same x.map (hk.block _ x.map.lt (fun e => ?_)), fun k => com_mono (com_kept (x.com k) hk (nr (by decide) (by decide))) hM, (log_kept x.log hk (nr (by decide) (by decide))).mono hM, fun q hq => ?_, fun q r hqr hr g hg => ?_, ha⟩
  · show (if q = p then _ else _ : List (List Int)).length ≤ s.ops
    split
    · exact Nat.le_trans (keepL_length _ _ _) (by omega)
    · exact x.good.laid q
  · have hy' : y ∈ (if q = p then keepL s.depth (s.laid p) z else s.laid q) := hy
    split at hy'
    · rcases keepL_mem hy' with h1 | rfl
      · exact x.good.len p y h1
      · exact hz
    · exact x.good.len q y hy'
  · rcases e with e | e
    · obtain ⟨us, hu⟩ := (x.row p hp).isBlk e
      exact map_ne x.map hu rfl
    · exact map_ne x.map x.lot e.symm
  · show RowP w' M' _ (if q = p then _ else _)
    by_cases e : q = p
    · rw [if_pos e, e, gp]; exact hv
    · rw [if_neg e, gq q e]
      refine (row_kept (x.row q hq) hk (fun b hb hS => ?_) (nr (by decide) (by decide))).mono hM
      rcases hS with h1 | h1
      · exact ap q hq e b hb h1
      · obtain ⟨us, hu⟩ := (x.row q hq).isBlk hb
        exact blk_ne hu x.lot (by decide) h1
  · have hr' : r < s.pages := hr
    have old : ∀ q, q < s.pages → ∀ g, rowBlk (rws.getD q (.slice none 0 0)) = some g → g < w.heap.size := fun q hq g hg => by
      obtain ⟨us, hu⟩ := (x.row q hq).isBlk hg
      exact hu.lt
    by_cases e1 : q = p
    · subst e1
      rw [gp] at hg
      rw [gq r (by omega)]
      intro hr2
      rcases hb g hg with h1 | h1
      · exact ap r hr' (by omega) g hr2 h1
      · have := old r hr' g hr2; omega
    · rw [gq q e1] at hg
      by_cases e2 : r = p
      · subst e2
        rw [gp]
        intro hr2
        rcases hb g hr2 with h1 | h1
        · exact ap q (by omega) e1 g hg h1
        · have := old q (by omega) g hg; omega
      · rw [gq r e2]; exact x.apart q r hqr hr' g hg
end Go.Proofs.YtfhieacclifihaaGreat
namespace Go.Proofs.YtfhieacclifihaaGreat
open Go.RowKit
set_option linter.unusedVariables false
set_option linter.unusedSimpArgs false

theorem getD_at {rws : List Value} {p : Nat} (h : p < rws.length) : rws[p]? = some (rws.getD p (.slice none 0 0)) := by simp [List.getD, h]
set_option maxRecDepth 20000 in
set_option maxHeartbeats 1000000 in
theorem keep_any (h : Nat) (s : HSt) (p : Nat) (hp : p < s.pages) (z : List Int) (hz : z.length = s.size) (hzb : Bytes z) (hr : (s.laid p).length < s.ops) (bb c : Nat) (M : Nat → Prop) (gl gm : Nat) (lg : Value) (rws : List Value) (n : Nat) (D : DataW Value) (w : World) (x : HostIn w M h s gl gm lg rws n D) (hm : M bb) (hR : RowAt w bb z) :
    Calls Tryz.prog 178 #[.pointer (some ⟨h, 0, none⟩), .int .i64 p, .slice (some ⟨bb, 0, none⟩) s.size c] w fun e w' => e = .returned (.tuple #[]) ∧ HostAt w' (more M w w') h (s.wrote p z) ∧ Kept M w w' := by
  have X : Hid (HostIn w M h s gl gm lg rws n D) := x
  have c1 : w.cell? ⟨h, 1, none⟩ = some (.slice (some ⟨gl, 0, none⟩) s.pages s.pages) := x.blk.cell 1
  have hpl : p < rws.length := by rw [x.cnt]; exact hp
  have cp : w.cell? ⟨gl, p, none⟩ = some (rws.getD p (.slice none 0 0)) := by rw [x.lot.cell p]; exact getD_at hpl
  have hLo := x.good.laid p
  have hop := x.good.ops
  have hpg := x.good.pages
  have hsz := x.good.size
  obtain ⟨g, o, cap, w1, hap, hrow, hk1, hg1, hgl1⟩ := row_append (x.row p hp) x.all bb c z hR hm hzb (by omega) (by omega)
  rw [hz] at hap
  have nh : ¬ rowBlk (rws.getD p (.slice none 0 0)) = some h := fun e => by
    obtain ⟨us, hu⟩ := (x.row p hp).isBlk e
    exact blk_ne hu x.blk (by decide) rfl
  have nl : ¬ rowBlk (rws.getD p (.slice none 0 0)) = some gl := fun e => by
    obtain ⟨us, hu⟩ := (x.row p hp).isBlk e
    exact blk_ne hu x.lot (by decide) rfl
  have bh1 := x.blk.kept hk1 nh
  have bl1 := x.lot.kept hk1 nl
  have hgh : g ≠ h := fun e => by
    rcases hg1 with h1 | h1
    · exact nh (e ▸ h1)
    · have := x.blk.lt; omega
  have hggl : g ≠ gl := fun e => by
    rcases hg1 with h1 | h1
    · exact nl (e ▸ h1)
    · have := x.lot.lt; omega
  have d1 : w1.cell? ⟨h, 1, none⟩ = some (.slice (some ⟨gl, 0, none⟩) s.pages s.pages) := bh1.cell 1
  have d2 : w1.cell? ⟨h, 2, none⟩ = some (.int .i64 s.depth) := bh1.cell 2
  have hdp := x.good.depth
  have dp : w1.cell? ⟨gl, p, none⟩ = some (rws.getD p (.slice none 0 0)) := by rw [bl1.cell p]; exact getD_at hpl
  have fp : w1.frozen? ⟨gl, p, none⟩ = false := bl1.frozen p
  obtain ⟨v0, hv0⟩ : ∃ q, rws.getD p (.slice none 0 0) = q := ⟨_, rfl⟩
  rw [hv0] at cp dp hap
  have KM : ∀ (w' : World), Kept (fun k => rowBlk v0 = some k ∨ k = gl ∨ k = g) w w' → Kept M w w' := fun w' hk => ⟨hk.os, hk.tape, hk.output, hk.size, fun k hk1 hM => hk.block k hk1 (fun e => by
    rcases e with e | rfl | rfl
    · rcases x.row p hp with ⟨e1, _⟩ | ⟨g', o', cap', vs', e1, _, hM', _⟩
      · rw [hv0] at e1; rw [e1] at e; cases e
      · rw [hv0] at e1; rw [e1] at e; cases e; exact hM hM'
    · exact hM x.ml
    · rcases hg1 with h1 | h1
      · rcases x.row p hp with ⟨e1, _⟩ | ⟨g', o', cap', vs', e1, _, hM', _⟩
        · rw [e1] at h1; cases h1
        · rw [e1] at h1; cases h1; exact hM hM'
      · omega)⟩
  have AL : ∀ (w' : World), w.heap.size ≤ w'.heap.size → ∀ k, more M w w' k → k < w'.heap.size := fun w' hs k hk => by
    rcases hk with hk | hk
    · have := x.all k hk; omega
    · exact hk.2
  obtain ⟨L, hL⟩ : ∃ q, (s.laid p).length = q := ⟨_, rfl⟩
  rw [hL] at hap hrow hLo hr
  have i1 : (0 : Int) ≤ (p : Int) := by omega
  have i2 : (p : Int) < (s.pages : Int) := by omega
  by_cases hd : s.depth < L
  · -- one is forgotten
    obtain ⟨e1, hrow2, hk2, hne2, hfr2, es⟩ := row_drop hrow (by omega)
    have esl := sl_row (some ⟨g, o, none⟩) (L + 1) cap (by omega)
    rw [es] at hrow2 esl
    obtain ⟨cv, hcv⟩ := Option.ne_none_iff_exists'.1 hne2
    have hd' : (s.depth : Int) < (L : Int) := by omega
    have RR : Hid (∀ w', w' = (w1.setCell ⟨g, o, none⟩ (.slice none 0 0)).setCell ⟨gl, p, none⟩ (.slice (some ⟨g, o + 1, none⟩) L (cap - 1)) → HostAt w' (more M w w') h (s.wrote p z) ∧ Kept M w w') := by
      refine fun w' hw' => ?_
      have kall : Kept (fun k => rowBlk v0 = some k ∨ k = gl ∨ k = g) w w' := by
        rw [hw']
        refine Kept.setCell (p := ⟨gl, p, none⟩) (Kept.setCell (p := ⟨g, o, none⟩) (hk1.mono (fun k e => ?_)) (.inr (.inr rfl)) _) (.inr (.inl rfl)) _
        rw [hv0] at e
        exact .inl e
      have hs2 : w'.heap.size = w1.heap.size := by rw [hw']; simp [World.setCell]
      have bl2 : Blk (w1.setCell ⟨g, o, none⟩ (.slice none 0 0)) gl 65 rws := bl1.kept hk2 (Ne.symm hggl)
      have bl3 := bl2.set p (.slice (some ⟨g, o + 1, none⟩) L (cap - 1))
      rw [← hw'] at bl3
      have kl : Kept (fun k => k = gl) (w1.setCell ⟨g, o, none⟩ (.slice none 0 0)) w' := by rw [hw']; exact (Kept.refl (fun k => k = gl) _).setCell (p := ⟨gl, p, none⟩) rfl _
      have hrow3 : RowP w' (more M w w') (.slice (some ⟨g, o + 1, none⟩) L (cap - 1)) (keepL s.depth (s.laid p) z) := by
        have e2 : keepL s.depth (s.laid p) z = (s.laid p ++ [z]).drop 1 := if_pos (by rw [hL]; exact hd)
        rw [e2]
        have := (row_kept hrow2 kl (fun b hb => by cases hb; exact hggl) (fun b vs hb => blk_ne hb bl2 (by decide))).mono (M' := more M w w') (fun k hk => by
          rcases hk with hk | hk
          · exact .inl hk
          · exact .inr ⟨hk.1, by omega⟩)
        simpa using this
      refine ⟨(X.out.rowed p hp z hz (by rw [hL]; exact hr) _ hrow3 (fun g' hg' => by cases hg'; exact hg1) bl3 ⟨kall.os, kall.tape, kall.output, kall.size, fun k hk1' hS => ?_⟩ (fun k hk => .inl hk) (AL w' kall.size)).at, KM w' kall⟩
      by_cases e : k = g
      · subst e
        rcases hg1 with h1 | h1
        · exact absurd (.inl h1) hS
        · omega
      · exact kall.block k hk1' (fun e3 => by
          rcases e3 with e3 | e3 | e3
          · exact hS (.inl (by rw [hv0]; exact e3))
          · exact hS (.inr e3)
          · exact e e3)
    have HE : Hid (g ≠ h ∧ g ≠ gl) := ⟨hgh, hggl⟩
    have dp2 : (w1.setCell ⟨g, o, none⟩ (.slice none 0 0)).cell? ⟨h, 1, none⟩ = some (.slice (some ⟨gl, 0, none⟩) s.pages s.pages) := (bh1.kept hk2 (Ne.symm hgh)).cell 1
    have dp3 : (w1.setCell ⟨g, o, none⟩ (.slice none 0 0)).cell? ⟨gl, p, none⟩ = some v0 := by rw [(bl1.kept hk2 (Ne.symm hggl)).cell p, ← hv0]; exact getD_at hpl
    have dp4 : (w1.setCell ⟨g, o, none⟩ (.slice none 0 0)).frozen? ⟨gl, p, none⟩ = false := (bl1.kept hk2 (Ne.symm hggl)).frozen p
    clear hrow hrow2 hk1 hk2 hg1 nh nl bh1 bl1 KM AL x hv0 hL hR hz hzb es hgh hggl e1 hne2 hgl1 hm
    go_enter Tryz.func178, Tryz.ntmps178
    go_wp2_with (at_builtin; refine wpList_append_run rfl _ _ 65 65 rfl rfl v0 _ rfl rfl _ w1 hap ?_)
    go_end0
    exact ⟨rfl, RR.out _ rfl⟩
  · have hd' : ¬ (s.depth : Int) < (L : Int) := by omega
    have RR : Hid (∀ w', w' = w1.setCell ⟨gl, p, none⟩ (.slice (some ⟨g, o, none⟩) (L + 1) cap) → HostAt w' (more M w w') h (s.wrote p z) ∧ Kept M w w') := by
      refine fun w' hw' => ?_
      have kall : Kept (fun k => rowBlk v0 = some k ∨ k = gl ∨ k = g) w w' := by
        rw [hw']
        refine Kept.setCell (p := ⟨gl, p, none⟩) (hk1.mono (fun k e => ?_)) (.inr (.inl rfl)) _
        rw [hv0] at e
        exact .inl e
      have hs2 : w'.heap.size = w1.heap.size := by rw [hw']; simp [World.setCell]
      have bl3 := bl1.set p (.slice (some ⟨g, o, none⟩) (L + 1) cap)
      rw [← hw'] at bl3
      have kl : Kept (fun k => k = gl) w1 w' := by rw [hw']; exact (Kept.refl (fun k => k = gl) _).setCell (p := ⟨gl, p, none⟩) rfl _
      have hrow3 : RowP w' (more M w w') (.slice (some ⟨g, o, none⟩) (L + 1) cap) (keepL s.depth (s.laid p) z) := by
        have e2 : keepL s.depth (s.laid p) z = s.laid p ++ [z] := if_neg (by rw [hL]; exact hd)
        rw [e2]
        exact (row_kept hrow kl (fun b hb => by cases hb; exact hggl) (fun b vs hb => blk_ne hb bl1 (by decide))).mono (M' := more M w w') (fun k hk => by
          rcases hk with hk | hk
          · exact .inl hk
          · exact .inr ⟨hk.1, by omega⟩)
      refine ⟨(X.out.rowed p hp z hz (by rw [hL]; exact hr) _ hrow3 (fun g' hg' => by cases hg'; exact hg1) bl3 ⟨kall.os, kall.tape, kall.output, kall.size, fun k hk1' hS => ?_⟩ (fun k hk => .inl hk) (AL w' kall.size)).at, KM w' kall⟩
      by_cases e : k = g
      · subst e
        rcases hg1 with h1 | h1
        · exact absurd (.inl h1) hS
        · omega
      · exact kall.block k hk1' (fun e3 => by
          rcases e3 with e3 | e3 | e3
          · exact hS (.inl (by rw [hv0]; exact e3))
          · exact hS (.inr e3)
          · exact e e3)
    clear hrow hk1 hg1 nh nl bh1 bl1 KM AL x hv0 hL hR hz hzb hgh hggl hgl1 hm
    go_enter Tryz.func178, Tryz.ntmps178
    go_wp2_with (at_builtin; refine wpList_append_run rfl _ _ 65 65 rfl rfl v0 _ rfl rfl _ w1 hap ?_)
    go_end0
    exact ⟨rfl, RR.out _ rfl⟩
end Go.Proofs.YtfhieacclifihaaGreat
