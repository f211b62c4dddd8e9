/- StreamPlays: the statements' step, its first way: both Xors, and what is lent. -/
import Derived.Test.YtpjnimmclncdoaaSPlB
namespace Go.Proofs.Ytpjnimmclncdoaa
open Go.RowKit
set_option linter.unusedVariables false
set_option linter.unusedSimpArgs false

theorem Ans.row {W : World} {lo n cap : Nat} {vo : Option Addr} {L : List Int} (h : Ans W lo vo n cap L) : ∃ ga, 0 < n → vo = some ⟨ga, 0, none⟩ ∧ RowAt W ga L ∧ lo ≤ ga := by
  rcases own_len h.len h.own with ⟨e, rfl⟩ | ⟨g, cap', e, r1, g1, c1, m1⟩
  · exact ⟨0, fun h => absurd h (by decide)⟩
  · cases e; exact ⟨g, fun _ => ⟨rfl, r1, g1⟩⟩
/-- What stands in a round: the pair, what was lent, and nothing old was touched but the pair. -/
structure Md (w1 W : World) (g q : Nat) (key nonce : List Int) (P gi : Nat) (xs : List Int) : Prop where
  row : RowAt W gi (xs ++ marks)
  pr : Pr W g q key nonce P
  kp : Kept (fun k => k = g ∨ k = q) w1 W
theorem Md.kept {S : Nat → Prop} {w1 W W' : World} {g q : Nat} {key nonce : List Int} {P gi : Nat} {xs : List Int} (h : Md w1 W g q key nonce P gi xs) (hk : Kept S W W') (hg : g < w1.heap.size ∧ q < w1.heap.size) (hS : ∀ y, S y → w1.heap.size ≤ y ∧ y ≠ gi) : Md w1 W' g q key nonce P gi xs := by
  refine ⟨h.row.kept hk (fun s => (hS gi s).2 rfl), h.pr.kept hk (fun s => by have := (hS g s).1; omega) (fun s => by have := (hS q s).1; omega), ?_⟩
  exact ⟨hk.os.trans h.kp.os, hk.tape.trans h.kp.tape, hk.output.trans h.kp.output, Nat.le_trans h.kp.size hk.size, fun i hi hs => (hk.block i (Nat.lt_of_lt_of_le hi h.kp.size) (fun s => by have := (hS i s).1; omega)).trans (h.kp.block i hi hs)⟩
theorem Md.dn {w1 W : World} {g q : Nat} {key nonce : List Int} {P gi : Nat} {xs : List Int} (h : Md w1 W g q key nonce P gi xs) (k : Nat) : Md w1 (W.drewN k) g q key nonce P gi xs :=
  ⟨h.row.kept (Kept.new (fun _ => False) (below_dn (Below.refl _ _) k)) id, h.pr.dn k, h.kp.trans (Kept.new _ (below_dn (Below.refl _ _) k))⟩
set_option maxRecDepth 20000 in
set_option maxHeartbeats 2000000 in
theorem step_xor (g q : Nat) (key nonce : List Int) (P : Nat) (d n : Int) (so : Option Addr) (m cs : Nat) (zs : List Int) (w : World) (x : Pr w g q key nonce P) (hd : d = 1) (hz : Seen w so m zs) (hm : m + 90 ≤ 140737488355328) (hnil : so = none → cs = 0) (hap : ∀ b o, 0 < m → so = some ⟨b, o, none⟩ → b ≠ g ∧ b ≠ q) :
    Calls Try.prog 7 #[.pointer (some ⟨g, 0, none⟩), .pointer (some ⟨q, 0, none⟩), .agg (stpC d n so m cs).toArray] w (Plays g q key nonce w) := by
  have X : Hid (Pr w g q key nonce P ∧ Seen w so m zs ∧ (so = none → cs = 0) ∧ ∀ b o, 0 < m → so = some ⟨b, o, none⟩ → b ≠ g ∧ b ≠ q) := ⟨x, hz, hnil, hap⟩
  have HZ : Hid (zs.length = m ∧ Bytes zs ∧ m ≤ 140737488355328) := ⟨hz.len, hz.bytes, hz.top⟩
  have q1 : (d == 1) = true := by simp [hd]
  obtain ⟨E, hE⟩ : ∃ E, chk m P = E := ⟨_, rfl⟩
  obtain ⟨P', hP⟩ : ∃ P', mv m P = P' := ⟨_, rfl⟩
  obtain ⟨R, hR⟩ : ∃ R, xo key nonce P zs = R := ⟨_, rfl⟩
  obtain ⟨M, hM⟩ : ∃ M, R.length = M := ⟨_, rfl⟩
  have HE : Hid (chk m P = E ∧ mv m P = P' ∧ xo key nonce P zs = R ∧ R.length = M) := ⟨hE, hP, hR, hM⟩
  clear x hz hnil hap hd hE hP hR hM
  go_enter Try.func7, Try.ntmps7
  go_wp2_with (refine wpList_box_new rfl 43 _ rfl (stpC d n so m cs) rfl ?_; intro w1 b1 s1 l1; have cd := b1.cell 0; rw [show (stpC d n so m cs)[0]? = some (.int .i64 d) from rfl] at cd; have cz := b1.cell 2; rw [show (stpC d n so m cs)[2]? = some (.slice so m cs) from rfl] at cz)
  have V1 : Hid (Pr w1 g q key nonce P ∧ Below w.heap.size w w1 ∧ Seen w1 so m zs ∧ w1.heap.size = w.heap.size + 1 ∧ g < w1.heap.size ∧ q < w1.heap.size ∧ w.heap.size ≠ g ∧ w.heap.size ≠ q) := by
    have y1 := X.out.1.one.lt
    have y2 := X.out.1.two.lt
    exact ⟨X.out.1.later l1, l1, X.out.2.1.later l1 (Nat.le_refl _), s1, by omega, by omega, by omega, by omega⟩
  have C2 : Hid (∀ W, Kept (fun k => k = g ∨ k = q) w1 W → W.cell? ⟨w.heap.size, 2, none⟩ = some (.slice so m cs) ∧ Seen W so m zs) := fun W hW =>
    ⟨(hW.cell (p := ⟨w.heap.size, 2, none⟩) b1.lt (by show ¬ (w.heap.size = g ∨ w.heap.size = q); have := V1.out; omega)).trans cz, V1.out.2.2.1.kept hW (fun b o hn e h => by have := X.out.2.2.2 b o hn e; omega)⟩
  clear b1 s1 l1 cd cz
  refine (lent_any so m cs zs w1 V1.out.2.2.1 X.out.2.2.1 hm).mono ?_
  rintro e w2 ⟨gi, cap, rfl, r2, g2, kc, mc, l2⟩
  have V2 : Hid (Md w1 w2 g q key nonce P gi zs ∧ w1.heap.size ≤ gi ∧ gi < w2.heap.size ∧ m + 90 ≤ cap ∧ cap ≤ maxLen) := ⟨⟨r2, V1.out.1.later l2, Kept.new _ l2⟩, g2, r2.lt, kc, mc⟩
  clear r2 g2 kc mc l2
  go_wp2_with fail
  refine (sx_any g key nonce P m cap (some ⟨gi, 0, none⟩) zs w2 V2.out.1.pr.one (Seen.lent V2.out.1.row HZ.out.1 HZ.out.2.1 HZ.out.2.2)).mono ?_
  rw [HE.out.1, HE.out.2.1, HE.out.2.2.1, HE.out.2.2.2]
  rintro e w3 ⟨ao, ac, rfl, a3, st3, k3⟩
  have V3 : Hid (RowAt w3 gi (zs ++ marks) ∧ StAt w3 g key nonce P' ∧ RtAt w3 q key nonce P ∧ Kept (fun k => k = g ∨ k = q) w1 w3 ∧ Ans w3 w2.heap.size ao M ac R ∧ w2.heap.size ≤ w3.heap.size) := by
    have y := V1.out
    exact ⟨V2.out.1.row.kept k3 (by have := V2.out.2.1; omega), st3, V2.out.1.pr.two.kept k3 (fun e => V1.out.1.ne e.symm), V2.out.1.kp.trans (k3.mono (fun k h => .inl h)), a3, k3.size⟩
  clear a3 st3 k3
  have cz := (C2.out _ V3.out.2.2.2.1).1
  go_wp2_with fail
  clear cz
  refine (rx_any q key nonce P m cs so zs w3 V3.out.2.2.1 (C2.out _ V3.out.2.2.2.1).2).mono ?_
  rw [HE.out.1, HE.out.2.1, HE.out.2.2.1, HE.out.2.2.2]
  rintro e w4 ⟨bo, bc, rfl, a4, st4, k4⟩
  have V4 : Hid (Md w1 w4 g q key nonce P' gi zs ∧ Ans w4 w2.heap.size ao M ac R ∧ Seen w4 bo M R) := by
    have y := V1.out
    have z := V2.out
    exact ⟨⟨V3.out.1.kept k4 (by omega), ⟨V3.out.2.1.kept k4 V1.out.1.ne, st4, V1.out.1.ne⟩, V3.out.2.2.2.1.trans (k4.mono (fun k h => .inr h))⟩, V3.out.2.2.2.2.1.kept k4 (fun y hy => by omega), a4.seen⟩
  clear a4 st4 k4 V3
  have eE : (E != E) = false := by simp
  go_wp2_with fail
  refine (same_yes ao bo M M ac bc R w4 V4.out.2.1.seen V4.out.2.2).mono ?_
  rintro e w5 ⟨rfl, k, hk⟩
  have V5 : Hid (Md w1 w5 g q key nonce P' gi zs ∧ Ans w5 w2.heap.size ao M ac R) := by rw [hk]; exact ⟨V4.out.1.dn k, V4.out.2.1.later (below_dn (Below.refl _ _) k)⟩
  clear hk V4
  have cz := (C2.out _ V5.out.1.kp).1
  go_wp2_with fail
  clear cz
  refine (still_yes gi m cap so cs zs w5 V5.out.1.row V2.out.2.2.2.1 V2.out.2.2.2.2 (C2.out _ V5.out.1.kp).2).mono ?_
  rintro e w6 ⟨rfl, k, hk⟩
  have V6 : Hid (Md w1 w6 g q key nonce P' gi zs ∧ Ans w6 w2.heap.size ao M ac R) := by rw [hk]; exact ⟨V5.out.1.dn k, V5.out.2.later (below_dn (Below.refl _ _) k)⟩
  clear hk V5
  obtain ⟨ga, hga⟩ := V6.out.2.row
  have HA : Hid (0 < M → ao = some ⟨ga, 0, none⟩ ∧ RowAt w6 ga R ∧ w2.heap.size ≤ ga) := hga
  have HM : Hid (M ≤ 140737488355328 ∧ R.length = M ∧ Bytes R) := ⟨V6.out.2.top, V6.out.2.len, V6.out.2.bytes⟩
  have tM := HM.out.1
  clear hga
  go_wp2_with fail
  go_loopw [12] (fun i wr => ∃ (k : Nat) (us : List Int), k ≤ M ∧ i = .int .i64 k ∧ us.length = M ∧ Bytes us ∧ (0 < M → RowAt wr ga us) ∧ Md w1 wr g q key nonce P' gi zs) (fun i _ => M - (intOf i).toNat)
  case atStart => exact ⟨0, R, Nat.zero_le _, rfl, HM.out.2.1, HM.out.2.2, fun h => (HA.out h).2.1, V6.out.1⟩
  case round =>
    obtain ⟨k, us, hk, rfl, hul, hub, hrow, hmd⟩ := hrel
    by_cases hlt : k < M
    · obtain ⟨e5, -, g1⟩ := HA.out (by omega)
      have HO : Hid (ao = some ⟨ga, 0, none⟩) := e5
      rw [e5]
      have hr := hrow (by omega)
      have bz := hub.at k (by omega)
      have c4' := hr.cell k (by omega)
      have f4' : wr.frozen? ⟨ga, k, none⟩ = false := hr.frozen k
      obtain ⟨Z, hZ⟩ : ∃ Z, us.getD k 0 = Z := ⟨_, rfl⟩
      rw [hZ] at c4' bz
      obtain ⟨Y, hY⟩ : ∃ X, bits .xor .u8 Z 255 = X := ⟨_, rfl⟩
      have bY : 0 ≤ Y ∧ Y < 256 := by rw [← hY]; exact xor8_bd _ _ bz (by decide)
      have T1 : Hid (RowAt (wr.setCell ⟨ga, k, none⟩ (.int .u8 Y)) ga (us.set k Y) ∧ (us.set k Y).length = M ∧ Bytes (us.set k Y) ∧ Md w1 (wr.setCell ⟨ga, k, none⟩ (.int .u8 Y)) g q key nonce P' gi zs) := by
        have y := V1.out
        have z := V2.out
        have z2 := V2.out.1.kp.size
        exact ⟨hr.set k (by omega) Y, by rw [List.length_set]; exact hul, bytes_set hub k _ bY, hmd.kept ((Kept.refl (fun y => y = ga) wr).setCell (p := ⟨ga, k, none⟩) rfl (.int .u8 Y)) ⟨by omega, by omega⟩ (fun y hy => by omega)⟩
      have j1 : (0 : Int) ≤ (k : Int) := by omega
      have j2 : (k : Int) < (M : Int) := by omega
      clear hZ hub hul hrow hr hmd e5
      go_wp2_with fail
      exact ⟨⟨k + 1, _, by omega, by go_num, T1.out.2.1, T1.out.2.2.1, fun _ => T1.out.1, T1.out.2.2.2⟩, by simp [intOf]; omega⟩
    · have j2 : ¬ (k : Int) < (M : Int) := by omega
      have W7 : Hid (Md w1 wr g q key nonce P' gi zs) := hmd
      clear hrow hmd hub hul
      rename World => w7
      have cz := (C2.out _ W7.out.kp).1
      go_wp2_with fail
      clear cz
      refine (still_yes gi m cap so cs zs w7 W7.out.row V2.out.2.2.2.1 V2.out.2.2.2.2 (C2.out _ W7.out.kp).2).mono ?_
      rintro e w8 ⟨rfl, k8, hk8⟩
      have V8 : Hid (Md w1 w8 g q key nonce P' gi zs) := by rw [hk8]; exact W7.out.dn k8
      clear hk8
      go_wp2_with fail
      go_loopw [13] (fun i wr => ∃ (k : Nat) (us : List Int), k ≤ m ∧ i = .int .i64 k ∧ us.length = m ∧ Md w1 wr g q key nonce P' gi us) (fun i _ => m - (intOf i).toNat)
      case atStart => exact ⟨0, zs, Nat.zero_le _, rfl, HZ.out.1, V8.out⟩
      case round =>
        obtain ⟨r, us, hr, rfl, hul, hmd⟩ := hrel
        by_cases hlt2 : r < m
        · have f1 : wr.frozen? ⟨gi, r, none⟩ = false := hmd.row.frozen r
          have c1 := hmd.row.lentCell (m := r) (by omega)
          obtain ⟨Z, hZ⟩ : ∃ Z, us.getD r 0 = Z := ⟨_, rfl⟩
          rw [hZ] at c1
          obtain ⟨D, hD⟩ : ∃ D, (r : Int) % 256 = D := ⟨_, rfl⟩
          have d2 : IntKind.u8.wrap (r : Int) = D := by simp only [IntKind.wrap, IntKind.bits, IntKind.signed]; simp; omega
          have T1 : Hid (Md w1 (wr.setCell ⟨gi, r, none⟩ (.int .u8 D)) g q key nonce P' gi (us.set r D) ∧ (us.set r D).length = m) := by
            have y := V1.out
            have z := V2.out.2.1
            refine ⟨⟨hmd.row.lentSet (m := r) (by omega) D, hmd.pr.kept ((Kept.refl (fun y => y = gi) wr).setCell (p := ⟨gi, r, none⟩) rfl (.int .u8 D)) (by omega) (by omega), ?_⟩, by rw [List.length_set]; exact hul⟩
            have hk := (Kept.refl (fun y => y = gi) wr).setCell (p := ⟨gi, r, none⟩) rfl (.int .u8 D)
            exact ⟨hk.os.trans hmd.kp.os, hk.tape.trans hmd.kp.tape, hk.output.trans hmd.kp.output, Nat.le_trans hmd.kp.size hk.size, fun i hi hs => (hk.block i (Nat.lt_of_lt_of_le hi hmd.kp.size) (fun s => by omega)).trans (hmd.kp.block i hi hs)⟩
          have j1 : (0 : Int) ≤ (r : Int) := by omega
          have j3 : (r : Int) < (m : Int) := by omega
          clear hmd hul hZ
          go_wp2_with fail
          exact ⟨⟨r + 1, _, by omega, by go_num, T1.out.2, T1.out.1⟩, by simp [intOf]; omega⟩
        · have j3 : ¬ (r : Int) < (m : Int) := by omega
          have W9 : Hid (Md w1 wr g q key nonce P' gi us) := hmd
          clear hmd hul
          go_wp2_with fail
          go_ret
          exact ⟨rfl, P', W9.out.pr, (Kept.new _ V1.out.2.1).trans W9.out.kp⟩
theorem step_any (g q : Nat) (key nonce : List Int) (P : Nat) (d n : Int) (so : Option Addr) (m cs : Nat) (zs : List Int) (w : World) (x : Pr w g q key nonce P) (hn : -9223372036854775808 ≤ n ∧ n < 9223372036854775808) (hz : Seen w so m zs) (hm : m + 90 ≤ 140737488355328) (hnil : so = none → cs = 0) (hap : ∀ b o, 0 < m → so = some ⟨b, o, none⟩ → b ≠ g ∧ b ≠ q) :
    Calls Try.prog 7 #[.pointer (some ⟨g, 0, none⟩), .pointer (some ⟨q, 0, none⟩), .agg (stpC d n so m cs).toArray] w (Plays g q key nonce w) := by
  by_cases h1 : d = 1
  · exact step_xor g q key nonce P d n so m cs zs w x h1 hz hm hnil hap
  · by_cases h2 : d = 2
    · exact step_skip g q key nonce P d n so m cs w x h2 hn
    · by_cases h3 : d = 3
      · exact step_at g q key nonce P d n so m cs w x h3
      · exact step_none g q key nonce P d n so m cs w x ⟨h1, h2, h3⟩
end Go.Proofs.Ytpjnimmclncdoaa
