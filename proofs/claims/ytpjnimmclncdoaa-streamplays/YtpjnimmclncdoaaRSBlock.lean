/- The document's Block. -/
import Derived.Test.YtpjnimmclncdoaaRSState
import Derived.Test.YtpjnimmclncdoaaSBlock
import Derived.Test.YtpjnimmclncdoaaDSpare
import Derived.Test.YtpjnimmclncdoaaTMath
namespace Go.Proofs.Ytpjnimmclncdoaa
open Go.RowKit
set_option linter.unusedVariables false
set_option linter.unusedSimpArgs false

theorem wB_take (st : List Int) (a b : Nat) (h : a ≤ b) (hb : b ≤ st.length) : wB st a = (wB st b).take (4 * a) := by
  induction b with
  | zero =>
    obtain rfl : a = 0 := by omega
    rfl
  | succ b ih =>
    rcases Nat.lt_or_ge a (b + 1) with h1 | h1
    · rw [wB_succ st b (by omega), List.take_append_of_le_length (by rw [wB_length _ _ (by omega)]; omega)]; exact ih (by omega) (by omega)
    · obtain rfl : a = b + 1 := by omega
      rw [List.take_of_length_le (by rw [wB_length _ _ hb]; exact Nat.le_refl _)]
/-- A slice of these bytes that begins no earlier. -/
def isF (base : Nat) (zs : List Int) (v : Value) (w : World) : Prop := ∃ vo n c, v = .slice vo n c ∧ Seen w vo n zs ∧ ∀ b o, vo = some ⟨b, o, none⟩ → base ≤ b
theorem isF_later (base : Nat) (zs : List Int) : ∀ v w w', Below w.heap.size w w' → isF base zs v w → isF base zs v w' := fun _ _ _ hb ⟨b, o, c, h1, h2, h3⟩ => ⟨b, o, c, h1, h2.later hb (Nat.le_refl _), h3⟩
/-- The quarters of a pass, one by one. -/
def passT (st : List Int) : Nat → List Int
  | 0 => st
  | T + 1 => colStep (passT st T) (T / 4) (T % 4)
theorem passT_8 (st : List Int) : passT st 8 = slants st 2 := rfl
theorem passT_length (st : List Int) (n : Nat) : (passT st n).length = st.length := by
  induction n with
  | zero => rfl
  | succ n ih => rw [passT, colStep_length, ih]
theorem wds_set {st : List Int} (h : Wds st) (i : Nat) (x : Int) (hx : Wd x) : Wds (st.set i x) := fun z hz => by
  rcases List.mem_or_eq_of_mem_set hz with h1 | rfl
  · exact h z h1
  · exact hx
theorem tl16 : TurnL 16 := by unfold TurnL; decide
theorem quarter_wd (q : Q4) (ha : Wd q.a) (hb : Wd q.b) (hc : Wd q.c) (hd : Wd q.d) : Wd (quarter q).a ∧ Wd (quarter q).b ∧ Wd (quarter q).c ∧ Wd (quarter q).d := by
  have h := half_wd q 16 12 ha hb hc hd (by unfold TurnL; decide) (by unfold TurnL; decide)
  exact half_wd _ 8 7 h.1 h.2.1 h.2.2.1 h.2.2.2 (by unfold TurnL; decide) (by unfold TurnL; decide)
theorem getD_wd {st : List Int} (h : Wds st) (i : Nat) : Wd (st.getD i 0) := by
  by_cases hi : i < st.length
  · exact h.at i hi
  · rw [List.getD, List.getElem?_eq_none (by omega)]; exact ⟨by decide, by decide⟩
theorem qPut_wd {st : List Int} (h : Wds st) (q : Q4) (hq : Wd q.a ∧ Wd q.b ∧ Wd q.c ∧ Wd q.d) (i j k l : Nat) : Wds (qPut st q i j k l) := wds_set (wds_set (wds_set (wds_set h i _ hq.1) j _ hq.2.1) k _ hq.2.2.1) l _ hq.2.2.2
theorem colStep_wd {st : List Int} (h : Wds st) (s c : Nat) : Wds (colStep st s c) := qPut_wd h _ (quarter_wd _ (getD_wd h _) (getD_wd h _) (getD_wd h _) (getD_wd h _)) _ _ _ _
theorem passT_wd {st : List Int} (h : Wds st) (n : Nat) : Wds (passT st n) := by
  induction n with
  | zero => exact h
  | succ n ih => exact colStep_wd ih _ _
theorem passN_wd {st : List Int} (h : Wds st) (n : Nat) : Wds (passN st n) := by
  induction n with
  | zero => exact h
  | succ n ih => rw [passN, ← passT_8]; exact passT_wd ih 8
/-- Where quarter T stands. -/
theorem pl_at : ∀ T : Nat, T < 8 → placesL.getD (4 * T) 0 = ((T % 4 % 4 : Nat) : Int) ∧ placesL.getD (4 * T + 1) 0 = ((4 + (T % 4 + T / 4) % 4 : Nat) : Int) ∧ placesL.getD (4 * T + 2) 0 = ((8 + (T % 4 + 2 * (T / 4)) % 4 : Nat) : Int) ∧ placesL.getD (4 * T + 3) 0 = ((12 + (T % 4 + 3 * (T / 4)) % 4 : Nat) : Int) := by decide
/-- The first words of a quarter laid back. -/
def putN (st : List Int) (ps : List Nat) (qs : List Int) (n : Nat) : List Int := (List.range n).foldl (fun s j => s.set (ps.getD j 0) (qs.getD j 0)) st
theorem putN_succ (st : List Int) (ps : List Nat) (qs : List Int) (n : Nat) : putN st ps qs (n + 1) = (putN st ps qs n).set (ps.getD n 0) (qs.getD n 0) := by simp [putN, List.range_succ]
theorem putN_length (st : List Int) (ps : List Nat) (qs : List Int) (n : Nat) : (putN st ps qs n).length = st.length := by
  induction n with
  | zero => rfl
  | succ n ih => rw [putN_succ, List.length_set, ih]
theorem putN_4 (st : List Int) (p0 p1 p2 p3 : Nat) (q : Q4) : putN st [p0, p1, p2, p3] q.list 4 = qPut st q p0 p1 p2 p3 := rfl
theorem build4 (a b c d : Int) (w : World) : (Instr.build 64 #[(0, .int .u64 a), (1, .int .u64 b), (2, .int .u64 c), (3, .int .u64 d)]).run Try.prog w = .ok (.agg (q64s [a, b, c, d]).toArray) w := by kernel_rfl
/-- What stands while the words are stirred. -/
structure Env (w W : World) (R gf cf gp gl cl : Nat) (st L : List Int) : Prop where
  bel : Below w.heap.size w W
  res : Blk W R 57 (u8s (zs0 64))
  fst : RowU W gf cf st
  pls : RowN W gp 32 placesL
  row : RowU W gl cl L
  new : w.heap.size ≤ gl
theorem Env.later {w W W' : World} {R gf cf gp gl cl : Nat} {st L : List Int} (h : Env w W R gf cf gp gl cl st L) (hb : Below W.heap.size W W') : Env w W' R gf cf gp gl cl st L :=
  ⟨below_chain h.bel hb h.bel.size, h.res.later hb h.res.lt, h.fst.later hb (Nat.le_refl _), h.pls.later hb (Nat.le_refl _), h.row.later hb (Nat.le_refl _), h.new⟩
theorem Env.set {w W : World} {R gf cf gp gl cl : Nat} {st L : List Int} (h : Env w W R gf cf gp gl cl st L) (ha : R ≠ gl ∧ gf ≠ gl ∧ gp ≠ gl) (j : Nat) (hj : j < L.length) (z : Int) : Env w (W.setCell ⟨gl, j, none⟩ (.int .u64 z)).drew R gf cf gp gl cl st (L.set j z) := by
  have k : Kept (fun x => x = gl) W (W.setCell ⟨gl, j, none⟩ (.int .u64 z)).drew := ((Kept.refl (fun x => x = gl) W).setCell (p := ⟨gl, j, none⟩) rfl _).drew
  exact ⟨below_kept h.bel k h.bel.size (fun i hi => by have := h.new; omega), h.res.kept k ha.1, h.fst.block (k.block gf h.fst.lt ha.2.1), h.pls.block (k.block gp h.pls.lt ha.2.2), (h.row.set j hj z).drew, h.new⟩
set_option maxRecDepth 20000 in
set_option maxHeartbeats 4000000 in
theorem rblock_any (key : List Int) (ctr : Int) (nonce : List Int) (hk : key.length = 32) (hn : nonce.length = 12) (hkb : Bytes key) (hnb : Bytes nonce) (hc : Wd ctr) (w : World) :
    Calls Try.prog 18 #[.agg (u8s key).toArray, .int .u32 ctr, .agg (u8s nonce).toArray] w fun e w' => e = .returned (.agg (u8s (blkB key ctr nonce)).toArray) ∧ Below w.heap.size w w' := by
  obtain ⟨Y, hY⟩ : ∃ Y, blkB key ctr nonce = Y := ⟨_, rfl⟩
  obtain ⟨st, hst⟩ : ∃ st, begW key ctr nonce = st := ⟨_, rfl⟩
  have HS : Hid (key.length = 32 ∧ nonce.length = 12 ∧ Bytes key ∧ Bytes nonce ∧ Wd ctr) := ⟨hk, hn, hkb, hnb, hc⟩
  have HY : Hid (Y.length = 64 ∧ Bytes Y ∧ wB (addW (passN st 10) st) 16 = Y ∧ st.length = 16 ∧ Wds st ∧ begW key ctr nonce = st) :=
    ⟨by rw [← hY, blkB_length], by rw [← hY]; exact blkB_bytes _ _ _, by rw [← hY, ← hst]; rfl, by rw [← hst, begW_length], by rw [← hst]; exact begW_wd key ctr nonce hk hn hkb hnb hc, hst⟩
  rw [hY]
  clear hk hn hkb hnb hc hY hst
  go_enter Try.func18, Try.ntmps18
  go_wp2_with (first | (refine wpList_box_new rfl 23 _ rfl (u8s key) rfl ?_; intro w1 b1 s1 l1) | (refine wpList_box_new rfl 25 _ rfl (u8s nonce) rfl ?_; intro w2 b2 s2 l2) | (refine wpList_alloc_new rfl 57 rfl 64 _ zero64b ?_; intro w3 b3 s3 l3; have K3 : Hid (Blk w3 w.heap.size 23 (u8s key) ∧ Blk w3 w1.heap.size 25 (u8s nonce)) := ⟨(b1.later l2 (by omega)).later l3 (by omega), b2.later l3 (by omega)⟩) | (refine wpList_load_blk rfl 23 _ rfl _ rfl (u8s key) _ K3.out.1 Try.underlying23 rfl (by rw [u8s_length, HS.out.1]; exact sizeKey) ?_) | (refine wpList_load_blk rfl 25 _ rfl _ rfl (u8s nonce) _ (by first | exact K3.out.2 | (rw [← s1]; exact K3.out.2)) Try.underlying25 rfl (by rw [u8s_length, HS.out.2.1]; exact sizeNonce) ?_))
  have H3 : Hid (Blk w3 w.heap.size 23 (u8s key) ∧ Blk w3 (w.heap.size + 1) 25 (u8s nonce) ∧ Blk w3 (w.heap.size + 1 + 1) 57 (u8s (zs0 64)) ∧ Below w.heap.size w w3 ∧ w3.heap.size = w.heap.size + 3) := by
    have k := K3.out.2
    rw [s1] at k
    rw [s2, s1] at b3
    exact ⟨K3.out.1, k, b3, below_chain (below_chain l1 l2 (by omega)) l3 (by omega), by omega⟩
  clear b1 s1 l1 b2 s2 l2 b3 s3 l3 K3
  refine (rstate_any key ctr nonce HS.out.1 HS.out.2.1 HS.out.2.2.1 HS.out.2.2.2.1 HS.out.2.2.2.2 w3).mono ?_
  rintro e w4 ⟨v4, rfl, o4, l4⟩
  rw [HY.out.2.2.2.2.2] at o4
  rcases ownU HY.out.2.2.2.1 o4 with ⟨_, h0, _⟩ | ⟨gf, cf, rfl, r4, g4, _, _⟩
  · cases h0
  have H4 : Hid (Blk w4 w.heap.size 23 (u8s key) ∧ Blk w4 (w.heap.size + 1) 25 (u8s nonce) ∧ Blk w4 (w.heap.size + 1 + 1) 57 (u8s (zs0 64)) ∧ Below w.heap.size w w4 ∧ RowU w4 gf cf st ∧ w.heap.size + 3 ≤ gf) := ⟨H3.out.1.later l4 H3.out.1.lt, H3.out.2.1.later l4 H3.out.2.1.lt, H3.out.2.2.1.later l4 H3.out.2.2.1.lt, below_chain H3.out.2.2.2.1 l4 H3.out.2.2.2.1.size, r4, by have := H3.out.2.2.2.2; omega⟩
  clear o4 l4 r4 g4 H3
  go_wp2_with (first | (refine wpList_load_blk rfl 23 _ rfl _ rfl (u8s key) _ H4.out.1 Try.underlying23 rfl (by rw [u8s_length, HS.out.1]; exact sizeKey) ?_) | (refine wpList_load_blk rfl 25 _ rfl _ rfl (u8s nonce) _ H4.out.2.1 Try.underlying25 rfl (by rw [u8s_length, HS.out.2.1]; exact sizeNonce) ?_))
  refine (rstate_any key ctr nonce HS.out.1 HS.out.2.1 HS.out.2.2.1 HS.out.2.2.2.1 HS.out.2.2.2.2 w4).mono ?_
  rintro e w5 ⟨v5, rfl, o5, l5⟩
  rw [HY.out.2.2.2.2.2] at o5
  rcases ownU HY.out.2.2.2.1 o5 with ⟨_, h0, _⟩ | ⟨gl, cl, rfl, r5, g5, _, _⟩
  · cases h0
  have H5 : Hid (Blk w5 (w.heap.size + 1 + 1) 57 (u8s (zs0 64)) ∧ Below w.heap.size w w5 ∧ RowU w5 gf cf st ∧ RowU w5 gl cl st ∧ w.heap.size + 3 ≤ gf ∧ gf < gl) := ⟨H4.out.2.2.1.later l5 H4.out.2.2.1.lt, below_chain H4.out.2.2.2.1 l5 H4.out.2.2.2.1.size, H4.out.2.2.2.2.1.later l5 (Nat.le_refl _), r5, H4.out.2.2.2.2.2, by have := H4.out.2.2.2.2.1.lt; omega⟩
  clear o5 l5 r5 g5 H4
  go_wp2_with fail
  refine (rplaces_any w5).mono ?_
  rintro e w6 ⟨gp, rfl, p6, g6, l6⟩
  have E6 : Hid (Env w w6 (w.heap.size + 1 + 1) gf cf gp gl cl st st ∧ (w.heap.size + 1 + 1 ≠ gl ∧ gf ≠ gl ∧ gp ≠ gl)) := by
    obtain ⟨h1, h2, h3, h4, h5, h6⟩ := H5.out
    have := h4.lt
    exact ⟨⟨below_chain h2 l6 h2.size, h1.later l6 h1.lt, h3.later l6 (Nat.le_refl _), p6, h4.later l6 (Nat.le_refl _), by omega⟩, by omega, by omega, by omega⟩
  have hap := E6.out.2
  clear p6 g6 l6 H5
  go_wp2_with fail
  go_loopw [10] (fun i wr => ∃ N : Nat, N ≤ 10 ∧ i = .int .i64 N ∧ Env w wr (w.heap.size + 1 + 1) gf cf gp gl cl st (passN st N)) (fun i _ => 10 - (intOf i).toNat)
  case atStart => exact ⟨0, Nat.zero_le _, rfl, E6.out.1⟩
  case round =>
    obtain ⟨N, hN, rfl, hE⟩ := hrel
    have EN : Hid (Env w wr (w.heap.size + 1 + 1) gf cf gp gl cl st (passN st N)) := hE
    clear hE
    by_cases hlt : N < 10
    · have i0 : (N : Int) < 10 := by omega
      obtain ⟨S, HSS⟩ : ∃ S, Hid (passN st N = S ∧ S.length = 16 ∧ Wds S) := ⟨_, ⟨rfl, by rw [passN_length]; exact HY.out.2.2.2.1, passN_wd HY.out.2.2.2.2.1 N⟩⟩
      rw [HSS.out.1] at EN
      obtain ⟨w7, hw7⟩ : ∃ W, W = wr := ⟨_, rfl⟩
      subst hw7
      go_wp2_with fail
      go_loopw [11] (fun i wr => ∃ T KK : Nat, T ≤ 8 ∧ KK = 4 * T ∧ i = .int .i64 KK ∧ Env w wr (w.heap.size + 1 + 1) gf cf gp gl cl st (passT S T)) (fun i _ => 32 - (intOf i).toNat)
      case atStart => exact ⟨0, 0, Nat.zero_le _, rfl, rfl, EN.out⟩
      case round =>
        obtain ⟨T, KK, hT, hKK, rfl, hE⟩ := hrel
        by_cases hlT : T < 8
        · have j1 : (KK : Int) < 32 := by omega
          have j2 : (0 : Int) ≤ (KK : Int) := by omega
          have j3 : (KK : Int) + 1 < 32 := by omega
          have j4 : (KK : Int) + 2 < 32 := by omega
          have j5 : (KK : Int) + 3 < 32 := by omega
          have j6 : (0 : Int) ≤ (KK : Int) + 1 := by omega
          have j7 : (0 : Int) ≤ (KK : Int) + 2 := by omega
          have j8 : (0 : Int) ≤ (KK : Int) + 3 := by omega
          have a1 : ((KK : Int) + 1).toNat = KK + 1 := by omega
          have a2 : ((KK : Int) + 2).toNat = KK + 2 := by omega
          have a3 : ((KK : Int) + 3).toNat = KK + 3 := by omega
          have v1 : IntKind.i64.wrap ((KK : Int) + 1) = (KK : Int) + 1 := by rw [IntKind.wrap_i64]; omega
          have v2 : IntKind.i64.wrap ((KK : Int) + 2) = (KK : Int) + 2 := by rw [IntKind.wrap_i64]; omega
          have v3 : IntKind.i64.wrap ((KK : Int) + 3) = (KK : Int) + 3 := by rw [IntKind.wrap_i64]; omega
          have hpl := pl_at T hlT
          rw [← hKK] at hpl
          obtain ⟨L, hL⟩ : ∃ L, passT S T = L := ⟨_, rfl⟩
          rw [hL] at hE
          obtain ⟨p0, hp0⟩ : ∃ p, T % 4 % 4 = p := ⟨_, rfl⟩
          obtain ⟨p1, hp1⟩ : ∃ p, 4 + (T % 4 + T / 4) % 4 = p := ⟨_, rfl⟩
          obtain ⟨p2, hp2⟩ : ∃ p, 8 + (T % 4 + 2 * (T / 4)) % 4 = p := ⟨_, rfl⟩
          obtain ⟨p3, hp3⟩ : ∃ p, 12 + (T % 4 + 3 * (T / 4)) % 4 = p := ⟨_, rfl⟩
          have q0 : p0 < 16 := by omega
          have q1 : p1 < 16 := by omega
          have q2 : p2 < 16 := by omega
          have q3 : p3 < 16 := by omega
          have hLl : L.length = 16 := by rw [← hL, passT_length]; exact HSS.out.2.1
          have hLw : Wds L := by rw [← hL]; exact passT_wd HSS.out.2.2 T
          have HN : Hid (passT S (T + 1) = qPut L (quarter (qOf L p0 p1 p2 p3)) p0 p1 p2 p3) := by show _ = _; rw [passT, hL, colStep, hp0, hp1, hp2, hp3]
          rw [hp0, hp1, hp2, hp3] at hpl
          have HE : Hid (Env w wr (w.heap.size + 1 + 1) gf cf gp gl cl st L ∧ L.length = 16 ∧ Wds L) := ⟨hE, hLl, hLw⟩
          have HP : Hid (∀ W, Below wr.heap.size wr W → W.cell? ⟨gp, KK, none⟩ = some (.int .i64 (p0 : Int)) ∧ W.cell? ⟨gp, KK + 1, none⟩ = some (.int .i64 (p1 : Int)) ∧ W.cell? ⟨gp, KK + 2, none⟩ = some (.int .i64 (p2 : Int)) ∧ W.cell? ⟨gp, KK + 3, none⟩ = some (.int .i64 (p3 : Int)) ∧ W.cell? ⟨gl, p0, none⟩ = some (.int .u64 (L.getD p0 0)) ∧ W.cell? ⟨gl, p1, none⟩ = some (.int .u64 (L.getD p1 0)) ∧ W.cell? ⟨gl, p2, none⟩ = some (.int .u64 (L.getD p2 0)) ∧ W.cell? ⟨gl, p3, none⟩ = some (.int .u64 (L.getD p3 0))) := fun W hW => by
            have e := HE.out.1.later hW
            have c := fun j (hj : j < 32) => e.pls.cell j (show j < placesL.length from hj)
            refine ⟨?_, ?_, ?_, ?_, e.row.cell p0 (by omega), e.row.cell p1 (by omega), e.row.cell p2 (by omega), e.row.cell p3 (by omega)⟩
            · rw [c KK (by omega), hpl.1]
            · rw [c (KK + 1) (by omega), hpl.2.1]
            · rw [c (KK + 2) (by omega), hpl.2.2.1]
            · rw [c (KK + 3) (by omega), hpl.2.2.2]
          have HPL : Hid (placesL.getD KK 0 = (p0 : Int) ∧ placesL.getD (KK + 1) 0 = (p1 : Int) ∧ placesL.getD (KK + 2) 0 = (p2 : Int) ∧ placesL.getD (KK + 3) 0 = (p3 : Int)) := hpl
          have HKK : Hid (KK = 4 * T) := hKK
          have k0 : (p0 : Int) < 16 := by omega
          have k1 : (p1 : Int) < 16 := by omega
          have k2 : (p2 : Int) < 16 := by omega
          have k3 : (p3 : Int) < 16 := by omega
          obtain ⟨q, hq⟩ : ∃ q, qOf L p0 p1 p2 p3 = q := ⟨_, rfl⟩
          have HQ : Hid (qOf L p0 p1 p2 p3 = q ∧ q = ⟨L.getD p0 0, L.getD p1 0, L.getD p2 0, L.getD p3 0⟩ ∧ Wd q.a ∧ Wd q.b ∧ Wd q.c ∧ Wd q.d) := ⟨hq, hq.symm, by rw [← hq]; exact getD_wd hLw _, by rw [← hq]; exact getD_wd hLw _, by rw [← hq]; exact getD_wd hLw _, by rw [← hq]; exact getD_wd hLw _⟩
          rw [hq] at HN
          clear hE hL hp0 hp1 hp2 hp3 hpl hLl hLw hKK hq
          go_wp2_with fail
          try simp only [Act.put, List.setIfInBounds_toArray, List.set_cons_zero, List.set_cons_succ]
          refine region_inv ((.val (.slice (some ⟨gl, 0, none⟩) 16 cl)) :: (.val (.slice (some ⟨gp, 0, none⟩) 32 32)) :: (.val (.int .i64 (KK : Int))) :: (.val (.pointer (some ⟨gp, KK, none⟩))) :: (.val (.int .i64 (p0 : Int))) :: (.val (.pointer (some ⟨gl, p0, none⟩))) :: (.val (.int .u64 (L.getD p0 0))) :: (.val (.slice (some ⟨gl, 0, none⟩) 16 cl)) :: (.val (.slice (some ⟨gp, 0, none⟩) 32 32)) :: (.val (.int .i64 (KK : Int))) :: (.val (.int .i64 ((KK : Int) + 1))) :: (.val (.pointer (some ⟨gp, KK + 1, none⟩))) :: (.val (.int .i64 (p1 : Int))) :: (.val (.pointer (some ⟨gl, p1, none⟩))) :: (.val (.int .u64 (L.getD p1 0))) :: (.val (.slice (some ⟨gl, 0, none⟩) 16 cl)) :: (.val (.slice (some ⟨gp, 0, none⟩) 32 32)) :: (.val (.int .i64 (KK : Int))) :: (.val (.int .i64 ((KK : Int) + 2))) :: (.val (.pointer (some ⟨gp, KK + 2, none⟩))) :: (.val (.int .i64 (p2 : Int))) :: (.val (.pointer (some ⟨gl, p2, none⟩))) :: (.val (.int .u64 (L.getD p2 0))) :: (.val (.slice (some ⟨gl, 0, none⟩) 16 cl)) :: (.val (.slice (some ⟨gp, 0, none⟩) 32 32)) :: (.val (.int .i64 (KK : Int))) :: (.val (.int .i64 ((KK : Int) + 3))) :: (.val (.pointer (some ⟨gp, KK + 3, none⟩))) :: (.val (.int .i64 (p3 : Int))) :: (.val (.pointer (some ⟨gl, p3, none⟩))) :: (.val (.int .u64 (L.getD p3 0))) :: (.val (.agg (q64s q.list).toArray)) :: (.val (.agg (q64s (quarter q).list).toArray)) :: (.blk 64 (q64s [0, 0, 0, 0])) :: []) (by kernel_rfl) (by kernel_rfl) (by kernel_rfl) ?_ ?_
          · refine Steps'.cons ?_ (Steps'.cons ?_ (Steps'.cons ?_ (Steps'.cons ?_ (Steps'.cons ?_ (Steps'.cons ?_ (Steps'.cons ?_ (Steps'.cons ?_ (Steps'.cons ?_ (Steps'.cons ?_ (Steps'.cons ?_ (Steps'.cons ?_ (Steps'.cons ?_ (Steps'.cons ?_ (Steps'.cons ?_ (Steps'.cons ?_ (Steps'.cons ?_ (Steps'.cons ?_ (Steps'.cons ?_ (Steps'.cons ?_ (Steps'.cons ?_ (Steps'.cons ?_ (Steps'.cons ?_ (Steps'.cons ?_ (Steps'.cons ?_ (Steps'.cons ?_ (Steps'.cons ?_ (Steps'.cons ?_ (Steps'.cons ?_ (Steps'.cons ?_ (Steps'.cons ?_ (Steps'.cons ?_ (Steps'.cons ?_ (Steps'.cons ?_ (Steps'.one _ _ _ _ _ _ _))))))))))))))))))))))))))))))))))
            · intro ax wx hb hs hd
              have h8 : ax.tmps.getD 8 undef = (.slice (some ⟨gl, 0, none⟩) 16 cl) := hs 8 (by kernel_rfl)
              refine Does.value (.slice (some ⟨gl, 0, none⟩) 16 cl) ?_ rfl
              go_simp
            · intro ax wx hb hs hd
              have h9 : ax.tmps.getD 9 undef = (.slice (some ⟨gp, 0, none⟩) 32 32) := hs 9 (by kernel_rfl)
              refine Does.value (.slice (some ⟨gp, 0, none⟩) 32 32) ?_ rfl
              go_simp
            · intro ax wx hb hs hd
              have h11 : ax.tmps.getD 11 undef = (.int .i64 (KK : Int)) := hs 11 (by kernel_rfl)
              refine Does.value (.int .i64 (KK : Int)) ?_ rfl
              go_simp
            · intro ax wx hb hs hd
              have h38 : ax.tmps.getD 38 undef = (.slice (some ⟨gp, 0, none⟩) 32 32) := hd 1 38 rfl (by kernel_rfl) (by decide)
              have h39 : ax.tmps.getD 39 undef = (.int .i64 (KK : Int)) := hd 2 39 rfl (by kernel_rfl) (by decide)
              refine Does.value (.pointer (some ⟨gp, KK, none⟩)) ?_ rfl
              go_simp
            · intro ax wx hb hs hd
              have h40 : ax.tmps.getD 40 undef = (.pointer (some ⟨gp, KK, none⟩)) := hd 3 40 rfl (by kernel_rfl) (by decide)
              have cx := (HP.out wx hb).1
              refine Does.value (.int .i64 (p0 : Int)) ?_ rfl
              go_simp
            · intro ax wx hb hs hd
              have h37 : ax.tmps.getD 37 undef = (.slice (some ⟨gl, 0, none⟩) 16 cl) := hd 0 37 rfl (by kernel_rfl) (by decide)
              have h41 : ax.tmps.getD 41 undef = (.int .i64 (p0 : Int)) := hd 4 41 rfl (by kernel_rfl) (by decide)
              refine Does.value (.pointer (some ⟨gl, p0, none⟩)) ?_ rfl
              go_simp
            · intro ax wx hb hs hd
              have h42 : ax.tmps.getD 42 undef = (.pointer (some ⟨gl, p0, none⟩)) := hd 5 42 rfl (by kernel_rfl) (by decide)
              have cx := (HP.out wx hb).2.2.2.2.1
              refine Does.value (.int .u64 (L.getD p0 0)) ?_ rfl
              go_simp
            · intro ax wx hb hs hd
              have h8 : ax.tmps.getD 8 undef = (.slice (some ⟨gl, 0, none⟩) 16 cl) := hs 8 (by kernel_rfl)
              refine Does.value (.slice (some ⟨gl, 0, none⟩) 16 cl) ?_ rfl
              go_simp
            · intro ax wx hb hs hd
              have h9 : ax.tmps.getD 9 undef = (.slice (some ⟨gp, 0, none⟩) 32 32) := hs 9 (by kernel_rfl)
              refine Does.value (.slice (some ⟨gp, 0, none⟩) 32 32) ?_ rfl
              go_simp
            · intro ax wx hb hs hd
              have h11 : ax.tmps.getD 11 undef = (.int .i64 (KK : Int)) := hs 11 (by kernel_rfl)
              refine Does.value (.int .i64 (KK : Int)) ?_ rfl
              go_simp
            · intro ax wx hb hs hd
              have h46 : ax.tmps.getD 46 undef = (.int .i64 (KK : Int)) := hd 9 46 rfl (by kernel_rfl) (by decide)
              refine Does.value (.int .i64 ((KK : Int) + 1)) ?_ rfl
              go_simp
            · intro ax wx hb hs hd
              have h45 : ax.tmps.getD 45 undef = (.slice (some ⟨gp, 0, none⟩) 32 32) := hd 8 45 rfl (by kernel_rfl) (by decide)
              have h47 : ax.tmps.getD 47 undef = (.int .i64 ((KK : Int) + 1)) := hd 10 47 rfl (by kernel_rfl) (by decide)
              refine Does.value (.pointer (some ⟨gp, KK + 1, none⟩)) ?_ rfl
              go_simp
            · intro ax wx hb hs hd
              have h48 : ax.tmps.getD 48 undef = (.pointer (some ⟨gp, KK + 1, none⟩)) := hd 11 48 rfl (by kernel_rfl) (by decide)
              have cx := (HP.out wx hb).2.1
              refine Does.value (.int .i64 (p1 : Int)) ?_ rfl
              go_simp
            · intro ax wx hb hs hd
              have h44 : ax.tmps.getD 44 undef = (.slice (some ⟨gl, 0, none⟩) 16 cl) := hd 7 44 rfl (by kernel_rfl) (by decide)
              have h49 : ax.tmps.getD 49 undef = (.int .i64 (p1 : Int)) := hd 12 49 rfl (by kernel_rfl) (by decide)
              refine Does.value (.pointer (some ⟨gl, p1, none⟩)) ?_ rfl
              go_simp
            · intro ax wx hb hs hd
              have h50 : ax.tmps.getD 50 undef = (.pointer (some ⟨gl, p1, none⟩)) := hd 13 50 rfl (by kernel_rfl) (by decide)
              have cx := (HP.out wx hb).2.2.2.2.2.1
              refine Does.value (.int .u64 (L.getD p1 0)) ?_ rfl
              go_simp
            · intro ax wx hb hs hd
              have h8 : ax.tmps.getD 8 undef = (.slice (some ⟨gl, 0, none⟩) 16 cl) := hs 8 (by kernel_rfl)
              refine Does.value (.slice (some ⟨gl, 0, none⟩) 16 cl) ?_ rfl
              go_simp
            · intro ax wx hb hs hd
              have h9 : ax.tmps.getD 9 undef = (.slice (some ⟨gp, 0, none⟩) 32 32) := hs 9 (by kernel_rfl)
              refine Does.value (.slice (some ⟨gp, 0, none⟩) 32 32) ?_ rfl
              go_simp
            · intro ax wx hb hs hd
              have h11 : ax.tmps.getD 11 undef = (.int .i64 (KK : Int)) := hs 11 (by kernel_rfl)
              refine Does.value (.int .i64 (KK : Int)) ?_ rfl
              go_simp
            · intro ax wx hb hs hd
              have h54 : ax.tmps.getD 54 undef = (.int .i64 (KK : Int)) := hd 17 54 rfl (by kernel_rfl) (by decide)
              refine Does.value (.int .i64 ((KK : Int) + 2)) ?_ rfl
              go_simp
            · intro ax wx hb hs hd
              have h53 : ax.tmps.getD 53 undef = (.slice (some ⟨gp, 0, none⟩) 32 32) := hd 16 53 rfl (by kernel_rfl) (by decide)
              have h55 : ax.tmps.getD 55 undef = (.int .i64 ((KK : Int) + 2)) := hd 18 55 rfl (by kernel_rfl) (by decide)
              refine Does.value (.pointer (some ⟨gp, KK + 2, none⟩)) ?_ rfl
              go_simp
            · intro ax wx hb hs hd
              have h56 : ax.tmps.getD 56 undef = (.pointer (some ⟨gp, KK + 2, none⟩)) := hd 19 56 rfl (by kernel_rfl) (by decide)
              have cx := (HP.out wx hb).2.2.1
              refine Does.value (.int .i64 (p2 : Int)) ?_ rfl
              go_simp
            · intro ax wx hb hs hd
              have h52 : ax.tmps.getD 52 undef = (.slice (some ⟨gl, 0, none⟩) 16 cl) := hd 15 52 rfl (by kernel_rfl) (by decide)
              have h57 : ax.tmps.getD 57 undef = (.int .i64 (p2 : Int)) := hd 20 57 rfl (by kernel_rfl) (by decide)
              refine Does.value (.pointer (some ⟨gl, p2, none⟩)) ?_ rfl
              go_simp
            · intro ax wx hb hs hd
              have h58 : ax.tmps.getD 58 undef = (.pointer (some ⟨gl, p2, none⟩)) := hd 21 58 rfl (by kernel_rfl) (by decide)
              have cx := (HP.out wx hb).2.2.2.2.2.2.1
              refine Does.value (.int .u64 (L.getD p2 0)) ?_ rfl
              go_simp
            · intro ax wx hb hs hd
              have h8 : ax.tmps.getD 8 undef = (.slice (some ⟨gl, 0, none⟩) 16 cl) := hs 8 (by kernel_rfl)
              refine Does.value (.slice (some ⟨gl, 0, none⟩) 16 cl) ?_ rfl
              go_simp
            · intro ax wx hb hs hd
              have h9 : ax.tmps.getD 9 undef = (.slice (some ⟨gp, 0, none⟩) 32 32) := hs 9 (by kernel_rfl)
              refine Does.value (.slice (some ⟨gp, 0, none⟩) 32 32) ?_ rfl
              go_simp
            · intro ax wx hb hs hd
              have h11 : ax.tmps.getD 11 undef = (.int .i64 (KK : Int)) := hs 11 (by kernel_rfl)
              refine Does.value (.int .i64 (KK : Int)) ?_ rfl
              go_simp
            · intro ax wx hb hs hd
              have h62 : ax.tmps.getD 62 undef = (.int .i64 (KK : Int)) := hd 25 62 rfl (by kernel_rfl) (by decide)
              refine Does.value (.int .i64 ((KK : Int) + 3)) ?_ rfl
              go_simp
            · intro ax wx hb hs hd
              have h61 : ax.tmps.getD 61 undef = (.slice (some ⟨gp, 0, none⟩) 32 32) := hd 24 61 rfl (by kernel_rfl) (by decide)
              have h63 : ax.tmps.getD 63 undef = (.int .i64 ((KK : Int) + 3)) := hd 26 63 rfl (by kernel_rfl) (by decide)
              refine Does.value (.pointer (some ⟨gp, KK + 3, none⟩)) ?_ rfl
              go_simp
            · intro ax wx hb hs hd
              have h64 : ax.tmps.getD 64 undef = (.pointer (some ⟨gp, KK + 3, none⟩)) := hd 27 64 rfl (by kernel_rfl) (by decide)
              have cx := (HP.out wx hb).2.2.2.1
              refine Does.value (.int .i64 (p3 : Int)) ?_ rfl
              go_simp
            · intro ax wx hb hs hd
              have h60 : ax.tmps.getD 60 undef = (.slice (some ⟨gl, 0, none⟩) 16 cl) := hd 23 60 rfl (by kernel_rfl) (by decide)
              have h65 : ax.tmps.getD 65 undef = (.int .i64 (p3 : Int)) := hd 28 65 rfl (by kernel_rfl) (by decide)
              refine Does.value (.pointer (some ⟨gl, p3, none⟩)) ?_ rfl
              go_simp
            · intro ax wx hb hs hd
              have h66 : ax.tmps.getD 66 undef = (.pointer (some ⟨gl, p3, none⟩)) := hd 29 66 rfl (by kernel_rfl) (by decide)
              have cx := (HP.out wx hb).2.2.2.2.2.2.2
              refine Does.value (.int .u64 (L.getD p3 0)) ?_ rfl
              go_simp
            · intro ax wx hb hs hd
              have h43 : ax.tmps.getD 43 undef = (.int .u64 (L.getD p0 0)) := hd 6 43 rfl (by kernel_rfl) (by decide)
              have h51 : ax.tmps.getD 51 undef = (.int .u64 (L.getD p1 0)) := hd 14 51 rfl (by kernel_rfl) (by decide)
              have h59 : ax.tmps.getD 59 undef = (.int .u64 (L.getD p2 0)) := hd 22 59 rfl (by kernel_rfl) (by decide)
              have h67 : ax.tmps.getD 67 undef = (.int .u64 (L.getD p3 0)) := hd 30 67 rfl (by kernel_rfl) (by decide)
              have hb4 := build4 (L.getD p0 0) (L.getD p1 0) (L.getD p2 0) (L.getD p3 0) wx
              have eq : q.list = [L.getD p0 0, L.getD p1 0, L.getD p2 0, L.getD p3 0] := by rw [HQ.out.2.1]; rfl
              rw [← eq] at hb4
              exact Does.build 64 _ rfl #[(0, .int .u64 (L.getD p0 0)), (1, .int .u64 (L.getD p1 0)), (2, .int .u64 (L.getD p2 0)), (3, .int .u64 (L.getD p3 0))] (by simp only [List.map_toArray, List.map_cons, List.map_nil, Act.eval, h43, h51, h59, h67]) _ hb4
            · intro ax wx hb hs hd
              have h68 : ax.tmps.getD 68 undef = (.agg (q64s q.list).toArray) := hd 31 68 rfl (by kernel_rfl) (by decide)
              refine Does.call 23 #[(.agg (q64s q.list).toArray)] (by go_simp) ?_
              refine (rq_any q HQ.out.2.2.1 HQ.out.2.2.2.1 HQ.out.2.2.2.2.1 HQ.out.2.2.2.2.2 wx).mono ?_
              rintro e w' ⟨rfl, l⟩
              exact ⟨_, rfl, rfl, l⟩
            · intro ax wx hb hs hd
              exact Does.alloc 64 rfl 4 _ zero4q hb.size
          · intro wx hb
            refine @Ends.val _ _ _ _ _ _ _ _ _ (.slice (some ⟨gl, 0, none⟩) 16 cl) rfl ?_
            refine @Ends.val _ _ _ _ _ _ _ _ _ (.slice (some ⟨gp, 0, none⟩) 32 32) rfl ?_
            refine @Ends.val _ _ _ _ _ _ _ _ _ (.int .i64 (KK : Int)) rfl ?_
            refine @Ends.val _ _ _ _ _ _ _ _ _ (.pointer (some ⟨gp, KK, none⟩)) rfl ?_
            refine @Ends.val _ _ _ _ _ _ _ _ _ (.int .i64 (p0 : Int)) rfl ?_
            refine @Ends.val _ _ _ _ _ _ _ _ _ (.pointer (some ⟨gl, p0, none⟩)) rfl ?_
            refine @Ends.val _ _ _ _ _ _ _ _ _ (.int .u64 (L.getD p0 0)) rfl ?_
            refine @Ends.val _ _ _ _ _ _ _ _ _ (.slice (some ⟨gl, 0, none⟩) 16 cl) rfl ?_
            refine @Ends.val _ _ _ _ _ _ _ _ _ (.slice (some ⟨gp, 0, none⟩) 32 32) rfl ?_
            refine @Ends.val _ _ _ _ _ _ _ _ _ (.int .i64 (KK : Int)) rfl ?_
            refine @Ends.val _ _ _ _ _ _ _ _ _ (.int .i64 ((KK : Int) + 1)) rfl ?_
            refine @Ends.val _ _ _ _ _ _ _ _ _ (.pointer (some ⟨gp, KK + 1, none⟩)) rfl ?_
            refine @Ends.val _ _ _ _ _ _ _ _ _ (.int .i64 (p1 : Int)) rfl ?_
            refine @Ends.val _ _ _ _ _ _ _ _ _ (.pointer (some ⟨gl, p1, none⟩)) rfl ?_
            refine @Ends.val _ _ _ _ _ _ _ _ _ (.int .u64 (L.getD p1 0)) rfl ?_
            refine @Ends.val _ _ _ _ _ _ _ _ _ (.slice (some ⟨gl, 0, none⟩) 16 cl) rfl ?_
            refine @Ends.val _ _ _ _ _ _ _ _ _ (.slice (some ⟨gp, 0, none⟩) 32 32) rfl ?_
            refine @Ends.val _ _ _ _ _ _ _ _ _ (.int .i64 (KK : Int)) rfl ?_
            refine @Ends.val _ _ _ _ _ _ _ _ _ (.int .i64 ((KK : Int) + 2)) rfl ?_
            refine @Ends.val _ _ _ _ _ _ _ _ _ (.pointer (some ⟨gp, KK + 2, none⟩)) rfl ?_
            refine @Ends.val _ _ _ _ _ _ _ _ _ (.int .i64 (p2 : Int)) rfl ?_
            refine @Ends.val _ _ _ _ _ _ _ _ _ (.pointer (some ⟨gl, p2, none⟩)) rfl ?_
            refine @Ends.val _ _ _ _ _ _ _ _ _ (.int .u64 (L.getD p2 0)) rfl ?_
            refine @Ends.val _ _ _ _ _ _ _ _ _ (.slice (some ⟨gl, 0, none⟩) 16 cl) rfl ?_
            refine @Ends.val _ _ _ _ _ _ _ _ _ (.slice (some ⟨gp, 0, none⟩) 32 32) rfl ?_
            refine @Ends.val _ _ _ _ _ _ _ _ _ (.int .i64 (KK : Int)) rfl ?_
            refine @Ends.val _ _ _ _ _ _ _ _ _ (.int .i64 ((KK : Int) + 3)) rfl ?_
            refine @Ends.val _ _ _ _ _ _ _ _ _ (.pointer (some ⟨gp, KK + 3, none⟩)) rfl ?_
            refine @Ends.val _ _ _ _ _ _ _ _ _ (.int .i64 (p3 : Int)) rfl ?_
            refine @Ends.val _ _ _ _ _ _ _ _ _ (.pointer (some ⟨gl, p3, none⟩)) rfl ?_
            refine @Ends.val _ _ _ _ _ _ _ _ _ (.int .u64 (L.getD p3 0)) rfl ?_
            refine @Ends.val _ _ _ _ _ _ _ _ _ (.agg (q64s q.list).toArray) rfl ?_
            refine @Ends.val _ _ _ _ _ _ _ _ _ (.agg (q64s (quarter q).list).toArray) rfl ?_
            refine @Ends.blk _ _ _ _ _ _ _ _ _ 64 (q64s [0, 0, 0, 0]) rfl ?_
            intro g33 hg33 bg33
            refine @Ends.one _ _ _ _ _ _ _ ?_
            simp only [Act.put, List.setIfInBounds_toArray, List.set_cons_zero, List.set_cons_succ]
            refine last_store 64 (.tmp 12) (.tmp 69) rfl rfl g33 rfl 64 _ (q64s (quarter q).list) rfl bg33 rfl size4q (u64s_one _) ?_
            intro w8 b8 s8 k8
            have L8 : Below wr.heap.size wr w8 := below_kept hb k8 hb.size (fun j hj => by omega)
            have E8 : Hid (Env w w8 (w.heap.size + 1 + 1) gf cf gp gl cl st L ∧ Blk w8 g33 64 (q64s (quarter q).list) ∧ gl ≠ g33) := ⟨HE.out.1.later L8, b8, by have := HE.out.1.row.lt; omega⟩
            clear hb bg33 hg33 b8 s8 k8 L8
            go_wp2_with fail
            go_loopw [13] (fun i wr => ∃ j : Nat, j ≤ 4 ∧ i = .int .i64 j ∧ Env w wr (w.heap.size + 1 + 1) gf cf gp gl cl st (putN L [p0, p1, p2, p3] (quarter q).list j) ∧ Blk wr g33 64 (q64s (quarter q).list)) (fun i _ => 4 - (intOf i).toNat)
            case atStart => exact ⟨0, Nat.zero_le _, rfl, E8.out.1, E8.out.2.1⟩
            case round =>
              obtain ⟨j, hj, rfl, hE, hB⟩ := hrel
              by_cases hj4 : j < 4
              · have m1 : (j : Int) < 4 := by omega
                have m2 : (0 : Int) ≤ (j : Int) := by omega
                have m3 : (KK : Int) + (j : Int) < 32 := by omega
                have m4 : (0 : Int) ≤ (KK : Int) + (j : Int) := by omega
                have m5 : ((KK : Int) + (j : Int)).toNat = KK + j := by omega
                have hps : ∃ P : Nat, P < 16 ∧ placesL.getD (KK + j) 0 = (P : Int) ∧ ([p0, p1, p2, p3] : List Nat).getD j 0 = P := by
                  rcases (by omega : j = 0 ∨ j = 1 ∨ j = 2 ∨ j = 3) with rfl | rfl | rfl | rfl
                  · exact ⟨p0, q0, HPL.out.1, rfl⟩
                  · exact ⟨p1, q1, HPL.out.2.1, rfl⟩
                  · exact ⟨p2, q2, HPL.out.2.2.1, rfl⟩
                  · exact ⟨p3, q3, HPL.out.2.2.2, rfl⟩
                obtain ⟨P, hP16, hPp, hPl⟩ := hps
                have cp : wr.cell? ⟨gp, KK + j, none⟩ = some (.int .i64 (P : Int)) := by rw [hE.pls.cell (KK + j) (show KK + j < 32 by omega), hPp]
                have cq := u64s_cell hB j (show j < 4 from hj4)
                obtain ⟨Z, hZ⟩ : ∃ Z, (quarter q).list.getD j 0 = Z := ⟨_, rfl⟩
                have hlen : (putN L [p0, p1, p2, p3] (quarter q).list j).length = 16 := by rw [putN_length]; exact HE.out.2.1
                have cl1 := hE.row.cell P (by rw [hlen]; exact hP16)
                have fl1 := hE.row.frozen P
                have HNX : Hid (Env w (wr.setCell ⟨gl, P, none⟩ (.int .u64 Z)).drew (w.heap.size + 1 + 1) gf cf gp gl cl st (putN L [p0, p1, p2, p3] (quarter q).list (j + 1)) ∧ Blk (wr.setCell ⟨gl, P, none⟩ (.int .u64 Z)).drew g33 64 (q64s (quarter q).list)) := by
                  refine ⟨?_, (hB.other (p := ⟨gl, P, none⟩) (fun e => E8.out.2.2 e.symm) _).drew⟩
                  rw [putN_succ, hPl, hZ]
                  exact hE.set hap P (by rw [hlen]; exact hP16) Z
                rw [hZ] at cq
                obtain ⟨B0, hB0⟩ : ∃ B, (putN L [p0, p1, p2, p3] (quarter q).list j).getD P 0 = B := ⟨_, rfl⟩
                rw [hB0] at cl1
                have n1 : (P : Int) < 16 := by omega
                have n2 : (0 : Int) ≤ (P : Int) := by omega
                have vv : IntKind.i64.wrap ((KK : Int) + (j : Int)) = (KK : Int) + (j : Int) := by rw [IntKind.wrap_i64]; omega
                clear hE hB hZ hB0 hPp hPl hlen
                go_wp2_with fail
                go_region
                all_goals
                  go_wp2_with fail
                  exact ⟨⟨j + 1, by omega, by go_num, HNX.out.1, HNX.out.2⟩, by simp [intOf]; omega⟩
              · obtain rfl : j = 4 := by omega
                have HF : Hid (Env w wr (w.heap.size + 1 + 1) gf cf gp gl cl st (passT S (T + 1))) := by
                  rw [putN_4] at hE
                  rw [HN.out]; exact hE
                clear hE hB
                rw [show ((4 : Nat) : Int) = 4 from rfl]
                go_wp2_with fail
                exact ⟨⟨T + 1, KK + 4, by omega, by have := HKK.out; omega, by go_num, HF.out⟩, by simp [intOf]; omega⟩
        · have hT8 : T = 8 := by omega
          subst hT8
          have hKK2 : KK = 32 := by omega
          subst hKK2
          have HF : Hid (Env w wr (w.heap.size + 1 + 1) gf cf gp gl cl st (passN st (N + 1))) := by
            rw [passT_8, ← HSS.out.1] at hE
            exact hE
          clear hE hKK
          rw [show ((32 : Nat) : Int) = 32 from rfl]
          go_wp2_with fail
          exact ⟨⟨N + 1, by omega, by go_num, HF.out⟩, by simp [intOf]; omega⟩
    · obtain rfl : N = 10 := by omega
      obtain ⟨L, HL⟩ : ∃ L, Hid (passN st 10 = L ∧ L.length = 16 ∧ Wds L) := ⟨_, ⟨rfl, by rw [passN_length]; exact HY.out.2.2.2.1, passN_wd HY.out.2.2.2.2.1 10⟩⟩
      rw [HL.out.1] at EN
      have HY2 : Hid (wB (addW L st) 16 = Y ∧ (addW L st).length = 16 ∧ ∀ i, i < 16 → (addW L st).getD i 0 = (L.getD i 0 + st.getD i 0) % 4294967296) := ⟨by rw [← HL.out.1]; exact HY.out.2.2.1, addW_length _ _ 16 HL.out.2.1 HY.out.2.2.2.1, fun i hi => addW_at _ _ 16 i HL.out.2.1 HY.out.2.2.2.1 hi⟩
      rw [show ((10 : Nat) : Int) = 10 from rfl]
      go_wp2_with (first | (refine wpList_alloc_new rfl 57 rfl 64 _ zero64b ?_; intro w7 b7 s7 l7))
      obtain ⟨G, HG⟩ : ∃ G, Hid (wr.heap.size = G) := ⟨_, rfl⟩
      have HGP : Hid (gp < G) := by rw [← HG.out]; exact EN.out.pls.lt
      have E7 : Hid (Env w w7 (w.heap.size + 1 + 1) gf cf gp gl cl st L ∧ Blk w7 G 57 (u8s (zs0 64)) ∧ gf < G ∧ gl < G ∧ w.heap.size + 1 + 1 < G) := by
        rw [← HG.out]
        exact ⟨EN.out.later l7, b7, EN.out.fst.lt, EN.out.row.lt, EN.out.res.lt⟩
      rw [HG.out]
      clear b7 s7 l7 EN
      go_loopw [15] (fun i wr => ∃ I : Nat, I ≤ 16 ∧ i = .int .i64 I ∧ Env w wr (w.heap.size + 1 + 1) gf cf gp gl cl st L ∧ Blk wr G 57 (u8s (Y.take (4 * I) ++ zs0 (64 - 4 * I)))) (fun i _ => 16 - (intOf i).toNat)
      case atStart => exact ⟨0, Nat.zero_le _, rfl, E7.out.1, E7.out.2.1⟩
      case round =>
        obtain ⟨I, hI, rfl, hE, hB⟩ := hrel
        by_cases hI16 : I < 16
        · have i1 : (I : Int) < 16 := by omega
          have i2 : (0 : Int) ≤ (I : Int) := by omega
          have HE : Hid (Env w wr (w.heap.size + 1 + 1) gf cf gp gl cl st L ∧ Blk wr G 57 (u8s (Y.take (4 * I) ++ zs0 (64 - 4 * I)))) := ⟨hE, hB⟩
          have wa := HL.out.2.2.at I (by rw [HL.out.2.1]; exact hI16)
          have wb := HY.out.2.2.2.2.1.at I (by rw [HY.out.2.2.2.1]; exact hI16)
          have HC : Hid (∀ W, Below wr.heap.size wr W → W.cell? ⟨gl, I, none⟩ = some (.int .u64 (L.getD I 0)) ∧ W.cell? ⟨gf, I, none⟩ = some (.int .u64 (st.getD I 0))) := fun W hW => ⟨(HE.out.1.later hW).row.cell I (by rw [HL.out.2.1]; exact hI16), (HE.out.1.later hW).fst.cell I (by rw [HY.out.2.2.2.1]; exact hI16)⟩
          have HX : Hid (∀ j, j < 4 → Y.getD (4 * I + j) 0 = (leB 4 ((L.getD I 0 + st.getD I 0) % 4294967296)).getD j 0) := fun j hj => by
            have h1 := wB_succ (addW L st) I (by rw [HY2.out.2.1]; exact hI16)
            rw [HY2.out.2.2 I hI16] at h1
            have h2 : wB (addW L st) (I + 1) = Y.take (4 * (I + 1)) := by
              rw [← HY2.out.1]
              exact wB_take (addW L st) (I + 1) 16 (by omega) (by rw [HY2.out.2.1]; exact Nat.le_refl _)
            have h3 : (wB (addW L st) I).length = 4 * I := wB_length _ _ (by rw [HY2.out.2.1]; omega)
            have h4 : (Y.take (4 * (I + 1))).getD (4 * I + j) 0 = Y.getD (4 * I + j) 0 := by simp [List.getD, List.getElem?_take, show 4 * I + j < 4 * (I + 1) by omega]
            rw [← h4, ← h2, h1, ← h3]
            exact app_getD _ _ _ _ rfl
          obtain ⟨A, hA⟩ : ∃ A, L.getD I 0 = A := ⟨_, rfl⟩
          obtain ⟨B, hB'⟩ : ∃ B, st.getD I 0 = B := ⟨_, rfl⟩
          rw [hA, hB'] at HC HX
          rw [hA] at wa
          rw [hB'] at wb
          obtain ⟨Z, hZ⟩ : ∃ Z, (A + B) % 4294967296 = Z := ⟨_, rfl⟩
          have HZ : Hid ((A + B) % 4294967296 = Z ∧ Word Z) := ⟨hZ, by rw [← hZ]; exact ⟨by omega, by omega⟩⟩
          rw [hZ] at HX
          clear hE hB hA hB' hZ
          go_wp2_with fail
          try simp only [Act.put, List.setIfInBounds_toArray, List.set_cons_zero, List.set_cons_succ]
          refine region_inv [.val (.slice (some ⟨gl, 0, none⟩) 16 cl), .val (.int .i64 (I : Int)), .val (.pointer (some ⟨gl, I, none⟩)), .val (.int .u64 A), .val (.slice (some ⟨gf, 0, none⟩) 16 cf), .val (.int .i64 (I : Int)), .val (.pointer (some ⟨gf, I, none⟩)), .val (.int .u64 B), .val (.int .u64 Z), .any (isF wr.heap.size (leB 4 Z)) (isF_later _ _)] (by kernel_rfl) (by kernel_rfl) (by kernel_rfl) ?_ ?_
          · refine Steps'.cons ?_ (Steps'.cons ?_ (Steps'.cons ?_ (Steps'.cons ?_ (Steps'.cons ?_ (Steps'.cons ?_ (Steps'.cons ?_ (Steps'.cons ?_ (Steps'.cons ?_ (Steps'.cons ?_ (Steps'.one _ _ _ _ _ _ _))))))))))
            · intro ax wx hb hs hd
              have h8 : ax.tmps.getD 8 undef = (.slice (some ⟨gl, 0, none⟩) 16 cl) := hs 8 (by kernel_rfl)
              refine Does.value (.slice (some ⟨gl, 0, none⟩) 16 cl) ?_ rfl
              go_simp
            · intro ax wx hb hs hd
              have h15 : ax.tmps.getD 15 undef = (.int .i64 (I : Int)) := hs 15 (by kernel_rfl)
              refine Does.value (.int .i64 (I : Int)) ?_ rfl
              go_simp
            · intro ax wx hb hs hd
              have h89 : ax.tmps.getD 89 undef = (.slice (some ⟨gl, 0, none⟩) 16 cl) := hd 0 89 rfl (by kernel_rfl) (by decide)
              have h90 : ax.tmps.getD 90 undef = (.int .i64 (I : Int)) := hd 1 90 rfl (by kernel_rfl) (by decide)
              refine Does.value (.pointer (some ⟨gl, I, none⟩)) ?_ rfl
              go_simp
            · intro ax wx hb hs hd
              have h91 : ax.tmps.getD 91 undef = (.pointer (some ⟨gl, I, none⟩)) := hd 2 91 rfl (by kernel_rfl) (by decide)
              have cx := (HC.out wx hb).1
              refine Does.value (.int .u64 A) ?_ rfl
              go_simp
            · intro ax wx hb hs hd
              have h7 : ax.tmps.getD 7 undef = (.slice (some ⟨gf, 0, none⟩) 16 cf) := hs 7 (by kernel_rfl)
              refine Does.value (.slice (some ⟨gf, 0, none⟩) 16 cf) ?_ rfl
              go_simp
            · intro ax wx hb hs hd
              have h15 : ax.tmps.getD 15 undef = (.int .i64 (I : Int)) := hs 15 (by kernel_rfl)
              refine Does.value (.int .i64 (I : Int)) ?_ rfl
              go_simp
            · intro ax wx hb hs hd
              have h93 : ax.tmps.getD 93 undef = (.slice (some ⟨gf, 0, none⟩) 16 cf) := hd 4 93 rfl (by kernel_rfl) (by decide)
              have h94 : ax.tmps.getD 94 undef = (.int .i64 (I : Int)) := hd 5 94 rfl (by kernel_rfl) (by decide)
              refine Does.value (.pointer (some ⟨gf, I, none⟩)) ?_ rfl
              go_simp
            · intro ax wx hb hs hd
              have h95 : ax.tmps.getD 95 undef = (.pointer (some ⟨gf, I, none⟩)) := hd 6 95 rfl (by kernel_rfl) (by decide)
              have cx := (HC.out wx hb).2
              refine Does.value (.int .u64 B) ?_ rfl
              go_simp
            · intro ax wx hb hs hd
              have h92 : ax.tmps.getD 92 undef = (.int .u64 A) := hd 3 92 rfl (by kernel_rfl) (by decide)
              have h96 : ax.tmps.getD 96 undef = (.int .u64 B) := hd 7 96 rfl (by kernel_rfl) (by decide)
              refine Does.call 25 #[(.int .u64 A), (.int .u64 B)] (by go_simp) ?_
              have q := rplus_any A B wa wb wx
              rw [HZ.out.1] at q
              refine q.mono ?_
              rintro e w' ⟨rfl, rfl⟩
              exact ⟨_, rfl, rfl, Below.refl _ _⟩
            · intro ax wx hb hs hd
              have h97 : ax.tmps.getD 97 undef = (.int .u64 Z) := hd 8 97 rfl (by kernel_rfl) (by decide)
              refine Does.call 24 #[(.int .u64 Z), (.int .i64 4)] (by go_simp) ?_
              refine (rbytes_any Z HZ.out.2 4 (by decide) wx).mono ?_
              rintro e w' ⟨v, rfl, o, l⟩
              obtain ⟨vo, cap, rfl, hs, hc, _, h4, _⟩ := own_data (leB_bytes 4 Z) (by rw [leB_length]; decide) (by simpa [leB_length] using o)
              exact ⟨_, rfl, ⟨_, _, _, rfl, hs, fun b o e => Nat.le_trans hb.size (h4 b o e).1⟩, l⟩
          · intro wx hb
            refine @Ends.val _ _ _ _ _ _ _ _ _ (.slice (some ⟨gl, 0, none⟩) 16 cl) rfl ?_
            refine @Ends.val _ _ _ _ _ _ _ _ _ (.int .i64 (I : Int)) rfl ?_
            refine @Ends.val _ _ _ _ _ _ _ _ _ (.pointer (some ⟨gl, I, none⟩)) rfl ?_
            refine @Ends.val _ _ _ _ _ _ _ _ _ (.int .u64 A) rfl ?_
            refine @Ends.val _ _ _ _ _ _ _ _ _ (.slice (some ⟨gf, 0, none⟩) 16 cf) rfl ?_
            refine @Ends.val _ _ _ _ _ _ _ _ _ (.int .i64 (I : Int)) rfl ?_
            refine @Ends.val _ _ _ _ _ _ _ _ _ (.pointer (some ⟨gf, I, none⟩)) rfl ?_
            refine @Ends.val _ _ _ _ _ _ _ _ _ (.int .u64 B) rfl ?_
            refine @Ends.val _ _ _ _ _ _ _ _ _ (.int .u64 Z) rfl ?_
            refine @Ends.any _ _ _ _ _ _ _ _ _ (isF wr.heap.size (leB 4 Z)) (isF_later _ _) rfl ?_
            intro v9 p9
            refine @Ends.one _ _ _ _ _ _ _ ?_
            simp only [Act.put, List.setIfInBounds_toArray, List.set_cons_zero, List.set_cons_succ]
            obtain ⟨vo, n9, c9, rfl, s9, h9⟩ := p9
            obtain rfl : 4 = n9 := by rw [← s9.len, leB_length]
            refine last_assign (.tmp 98) rfl (some 16) rfl (.slice vo 4 c9) rfl ?_
            simp only [Act.put, List.setIfInBounds_toArray, List.set_cons_zero, List.set_cons_succ]
            have E9 : Hid (Env w wx (w.heap.size + 1 + 1) gf cf gp gl cl st L ∧ Blk wx G 57 (u8s (Y.take (4 * I) ++ zs0 (64 - 4 * I))) ∧ Seen wx vo 4 (leB 4 Z) ∧ (∀ b o, vo = some ⟨b, o, none⟩ → b ≠ G)) := ⟨HE.out.1.later hb, HE.out.2.later hb HE.out.2.lt, s9, fun b o e => by have := h9 b o e; have := HE.out.2.lt; omega⟩
            clear hb s9 h9
            go_wp2_with fail
            go_loopw [17] (fun i wr => ∃ j : Nat, j ≤ 4 ∧ i = .int .i64 j ∧ Blk wr G 57 (u8s (Y.take (4 * I + j) ++ zs0 (64 - (4 * I + j)))) ∧ Kept (fun x => x = G) wx wr) (fun i _ => 4 - (intOf i).toNat)
            case atStart => exact ⟨0, Nat.zero_le _, rfl, E9.out.2.1, Kept.refl _ _⟩
            case round =>
              obtain ⟨j, hj, rfl, hB, hkp⟩ := hrel
              by_cases hj4 : j < 4
              · obtain ⟨b, o, rfl, hb, hc⟩ := E9.out.2.2.1.cells (by decide)
                have hbG := E9.out.2.2.2 b o rfl
                have c1 := (hkp.cell (p := ⟨b, o + j, none⟩) hb hbG).trans (hc j hj4)
                have hlen : (Y.take (4 * I + j) ++ zs0 (64 - (4 * I + j)) : List Int).length = 64 := by rw [List.length_append, List.length_take, HY.out.1, zs0_length]; omega
                have cg := u8s_cell hB (4 * I + j) (by rw [hlen]; omega)
                have fg := hB.frozen (4 * I + j)
                have hset : (Y.take (4 * I + j) ++ zs0 (64 - (4 * I + j)) : List Int).set (4 * I + j) ((leB 4 Z).getD j 0) = Y.take (4 * I + (j + 1)) ++ zs0 (64 - (4 * I + (j + 1))) := by
                  have h := take_next Y (4 * I + j) (by rw [HY.out.1]; omega) (64 - (4 * I + (j + 1)))
                  rw [show 64 - (4 * I + (j + 1)) + 1 = 64 - (4 * I + j) by omega, HX.out j hj4] at h
                  exact h
                obtain ⟨D, hD⟩ : ∃ D, (leB 4 Z).getD j 0 = D := ⟨_, rfl⟩
                obtain ⟨D0, hD0⟩ : ∃ D, (Y.take (4 * I + j) ++ zs0 (64 - (4 * I + j)) : List Int).getD (4 * I + j) 0 = D := ⟨_, rfl⟩
                rw [hD] at c1 hset
                rw [hD0] at cg
                have HQ : Hid (Blk (wr.setCell ⟨G, 4 * I + j, none⟩ (.int .u8 D)) G 57 (u8s (Y.take (4 * I + (j + 1)) ++ zs0 (64 - (4 * I + (j + 1))))) ∧ Kept (fun x => x = G) wx (wr.setCell ⟨G, 4 * I + j, none⟩ (.int .u8 D))) := by
                  have R := hB.set (4 * I + j) (.int .u8 D)
                  rw [u8s_set, hset] at R
                  exact ⟨R, hkp.setCell rfl _⟩
                have m1 : (j : Int) < 4 := by omega
                have m2 : (0 : Int) ≤ (j : Int) := by omega
                have m3 : 4 * (I : Int) + (j : Int) < 64 := by omega
                have m4 : (0 : Int) ≤ 4 * (I : Int) + (j : Int) := by omega
                have m5 : (4 * (I : Int) + (j : Int)).toNat = 4 * I + j := by omega
                clear hc hD hD0 hset hB hkp hlen
                go_wp2_with fail
                exact ⟨⟨j + 1, by omega, by go_num, HQ.out.1, HQ.out.2⟩, by simp [intOf]; omega⟩
              · obtain rfl : j = 4 := by omega
                have HF : Hid (Env w wr (w.heap.size + 1 + 1) gf cf gp gl cl st L ∧ Blk wr G 57 (u8s (Y.take (4 * (I + 1)) ++ zs0 (64 - 4 * (I + 1))))) := by
                  have e := E9.out.1
                  have hh := E7.out.2.2
                  exact ⟨⟨below_kept e.bel hkp e.bel.size (fun i hi => by omega), e.res.kept hkp (by omega), e.fst.block (hkp.block gf e.fst.lt (by omega)), e.pls.block (hkp.block gp e.pls.lt (by have := HGP.out; omega)), e.row.block (hkp.block gl e.row.lt (by omega)), e.new⟩, hB⟩
                clear hB hkp
                rw [show ((4 : Nat) : Int) = 4 from rfl]
                go_wp2_with fail
                exact ⟨⟨I + 1, by omega, by go_num, HF.out.1, HF.out.2⟩, by simp [intOf]; omega⟩
        · obtain rfl : I = 16 := by omega
          have e1 : Y.take (4 * 16) ++ zs0 (64 - 4 * 16) = Y := by rw [List.take_of_length_le (by rw [HY.out.1]; exact Nat.le_refl _)]; simp [zs0]
          rw [e1] at hB
          have HQ : Hid (Blk wr G 57 (u8s Y) ∧ Blk wr (w.heap.size + 1 + 1) 57 (u8s (zs0 64)) ∧ Below w.heap.size w wr ∧ (Try.prog.info? 57).map (·.size) = some (u8s Y).length) := ⟨hB, hE.res, hE.bel, by rw [u8s_length, HY.out.1]; kernel_rfl⟩
          clear hB hE e1
          rw [show ((16 : Nat) : Int) = 16 from rfl]
          go_wp2_with (first | (refine wpList_load_blk rfl 57 _ rfl _ rfl (u8s Y) _ HQ.out.1 Try.underlying57 rfl HQ.out.2.2.2 ?_) | (refine wpList_store_blk rfl 57 57 _ _ rfl _ rfl _ (u8s Y) rfl HQ.out.2.1 (by rw [u8s_length, u8s_length, HY.out.1]; rfl) HQ.out.2.2.2 (u8s_one _) ?_; intro w9 b9 s9 k9))
          exact ret_blk rfl (w.heap.size + 1 + 1) (u8s Y) _ rfl b9 Try.underlying57 rfl HQ.out.2.2.2 rfl ⟨rfl, below_kept HQ.out.2.2.1 k9 HQ.out.2.2.1.size (fun j hj => by omega)⟩
end Go.Proofs.Ytpjnimmclncdoaa
