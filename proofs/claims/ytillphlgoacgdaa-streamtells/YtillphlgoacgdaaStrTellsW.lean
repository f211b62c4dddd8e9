/- The walk of StreamTells. -/
import Derived.Test.YtillphlgoacgdaaSTwice
import Derived.Test.YtillphlgoacgdaaSBg
import Derived.Test.YtillphlgoacgdaaSAwake
import Derived.Test.YtillphlgoacgdaaTWithin
import Derived.Test.YtillphlgoacgdaaRInvG
import Derived.Test.YtillphlgoacgdaaRInvT
namespace Go.Proofs.Ytillphlgoacgdaa
open Go.RowKit
set_option linter.unusedVariables false
set_option linter.unusedSimpArgs false

def zer (n : Nat) : List Int := List.replicate n 0
theorem zer_length (n : Nat) : (zer n).length = n := List.length_replicate
theorem made_zero (n : Nat) : (madeCells #[Value.int .u8 0] n) = (u8s (zer n)).toArray := by
  apply Array.ext'
  rw [toList_madeCells_one]
  simp [u8s, zer]
theorem make_any (n : Nat) (hn : n ≤ 1048576) (W : World) : (Instr.makeSlice 44 (.int .i64 (n : Int)) (.int .i64 (n : Int))).run Try.prog W = .ok (.slice (some ⟨W.heap.size, 0, none⟩) n n) (W.alloc (.cells (u8s (zer n)).toArray 5)) := by
  obtain ⟨i0, hi, hz0, hz1, hz2⟩ := info_parts info_byte
  have hmk := run_make (P := Try.prog) W 44 5 i0 (.int .u8 0) Try.underlying44 hi hz0 .i64 .i64 (n : Int) (n : Int) (by omega) (Int.le_refl _) (by rw [hz2]; omega) (by omega)
  rw [hz1, Int.toNat_natCast, Nat.mul_one, show (Value.int .u8 0).cells = #[.int .u8 0] from rfl, made_zero] at hmk
  exact hmk
theorem seen_zer (W : World) (n : Nat) (hn : n ≤ 1048576) : Seen (W.alloc (.cells (u8s (zer n)).toArray 5)) (some ⟨W.heap.size, 0, none⟩) n (zer n) := by
  have := seen_new W (zer n) (zer_bytes n) (by rw [zer_length]; omega)
  rwa [zer_length] at this
theorem xor0 (k : Int) (h : 0 ≤ k ∧ k < 256) : bits .xor .u8 0 k = k := by
  rw [u8_xor 0 k (by decide) (by decide) h.1 h.2]; simp; omega
/-- The bytes 0 laid over tell a block. -/
theorem tells (key nonce : List Int) (c b i : Nat) (hi : i < b) : ((over key nonce (64 * c) (zer (64 * b))).drop (64 * i)).take 64 = blkB key ((c + i : Nat) : Int) nonce := by
  apply List.ext_getElem
  · rw [List.length_take, List.length_drop, over_length, zer_length, blkB_length]; omega
  · intro j h1 h2
    have hj : j < 64 := by rw [blkB_length] at h2; exact h2
    have hlt : 64 * i + j < (zer (64 * b)).length := by rw [zer_length]; omega
    have e1 := over_at key nonce (64 * c) (zer (64 * b)) (64 * i + j) hlt
    have e2 : (zer (64 * b)).getD (64 * i + j) 0 = 0 := by simp [zer, List.getD, List.getElem?_replicate]; split <;> rfl
    rw [e2, xor0 _ (ks_byte _ _ _), ks, show (64 * c + (64 * i + j)) / 64 = c + i by omega, show (64 * c + (64 * i + j)) % 64 = j by omega] at e1
    have l1 : 64 * i + j < (over key nonce (64 * c) (zer (64 * b))).length := by rw [over_length]; exact hlt
    simp only [List.getD, List.getElem?_eq_getElem l1, List.getElem?_eq_getElem h2, Option.getD_some] at e1
    simpa using e1
theorem tells1 (key nonce : List Int) (c : Nat) : over key nonce (64 * c) (zer 64) = blkB key (c : Int) nonce := by
  have := tells key nonce c 1 0 (by decide)
  rw [Nat.mul_zero, List.drop_zero, List.take_of_length_le (by rw [over_length, zer_length]; decide)] at this
  simpa using this
theorem last_value {o : Oper} {a : Act} {w : World} {K : Act → World → Prop} {Q : Exit → Act → World → Prop} (d : Option Tmp) (hdst : o.dst = d) (v : Value) (hv : (execOp a.eval o).run Try.prog w = .ok (.value v) w) (h : K (a.put d v) w) : o.wp Try.prog a w K Q := by
  subst hdst
  unfold Oper.wp
  rw [hv]
  exact h
/-- What Xor answers: a slice of the bytes, and OK. -/
def isX (n : Nat) (L : List Int) (v : Value) (w : World) : Prop := ∃ vo c, v = .tuple #[.slice vo n c, .int .i64 0] ∧ Seen w vo n L ∧ n ≤ c
theorem isX_later (n : Nat) (L : List Int) : ∀ v w w', Below w.heap.size w w' → isX n L v w → isX n L v w' := fun _ _ _ hb ⟨b, c, h1, h2, h3⟩ => ⟨b, c, h1, h2.later hb (Nat.le_refl _), h3⟩
def isV (n : Nat) (L : List Int) (v : Value) (w : World) : Prop := ∃ vo c, v = .slice vo n c ∧ Seen w vo n L ∧ n ≤ c
theorem isV_later (n : Nat) (L : List Int) : ∀ v w w', Below w.heap.size w w' → isV n L v w → isV n L v w' := fun _ _ _ hb ⟨b, c, h1, h2, h3⟩ => ⟨b, c, h1, h2.later hb (Nat.le_refl _), h3⟩
theorem Does.run {base : Nat} {E : Exp} {ρ : Operand → Value} {o : Oper} {w w' : World} (v : Value) (h : (execOp ρ o).run Try.prog w = .ok (.value v) w') (hE : E.ok base v w') (hb : Below w.heap.size w w') : Does base E ρ o w := by
  unfold Does; rw [h]; exact ⟨hE, hb⟩
theorem lz (W : World) : Below W.heap.size W (W.alloc (.cells (u8s (zer 64)).toArray 5)) := (Below.refl _ W).alloc (Nat.le_refl _) _
theorem tells_held (w wr w6 w7 : World) (g r7 k : Nat) (vo : Option Addr) (L D key nonce : List Int) (ctr : Nat) (x1 : BgAt wr w.heap.size key nonce ctr) (x2 : Below w.heap.size w wr) (x3 : Seen wr vo (64 * k) L) (hg : wr.heap.size ≤ g) (b6 : Below wr.heap.size wr w6)
    (l : Below w6.heap.size w6 (w6.alloc (.cells (u8s (zer 64)).toArray 5))) (k7 : Kept (fun b => b = g) (w6.alloc (.cells (u8s (zer 64)).toArray 5)) w7) (hD : D.length = 64) (hDb : Bytes D) (r1 : RowAt w7 r7 D) (cap : Nat) (c1 : 64 ≤ cap) :
    BgAt w7 w.heap.size key nonce ctr ∧ Below w.heap.size w w7 ∧ Seen w7 vo (64 * k) L ∧ Seen w7 (some ⟨r7, 0, none⟩) 64 D ∧ 64 ≤ cap := by
  have B1 := below_chain b6 l b6.size
  have B := below_kept B1 k7 B1.size (fun j hj => by omega)
  have s := Seen.of_row (n := 64) r1 (by omega) (by decide) hDb
  rw [List.take_of_length_le (by omega)] at s
  exact ⟨x1.later B x1.blk.lt, below_chain x2 B x2.size, x3.later B (Nat.le_refl _), s, c1⟩
set_option maxRecDepth 20000 in
set_option maxHeartbeats 4000000 in
theorem tells_walk (key nonce : List Int) (ctr : Nat) (bl sk : Int) (w : World) (h1 : key.length = 32) (h2 : nonce.length = 12) (h3 : Bytes key) (h4 : Bytes nonce) (hct : ctr < 4294967296) :
    Calls Try.prog 7 #[.agg (bCells key nonce ctr).toArray, .int .i64 bl, .int .i64 sk] w fun e w' => e = .returned (.bool true) ∧ Below w.heap.size w w' := by
  have HK : Hid (key.length = 32 ∧ nonce.length = 12 ∧ Bytes key ∧ Bytes nonce) := ⟨h1, h2, h3, h4⟩
  have uK : Hid ((Try.prog.info? 23).map (·.size) = some (u8s key).length ∧ (Try.prog.info? 25).map (·.size) = some (u8s nonce).length) := ⟨by rw [u8s_length, h1]; exact sizeKey, by rw [u8s_length, h2]; exact sizeNonce⟩
  clear h1 h2 h3 h4
  go_enter Try.func7, Try.ntmps7
  go_wp2_with (first | (refine wpList_box_new rfl 28 (.tmp 0) rfl (bCells key nonce ctr) rfl ?_; intro w1 b1 s1 l1) | (go_at_call 22; refine (awake_any _).mono ?_; rintro e w2 ⟨rfl, l2⟩; have B2 : Hid (BgAt w2 w.heap.size key nonce ctr ∧ Below w.heap.size w w2) := ⟨⟨b1.later l2 (by omega), HK.out.1, HK.out.2.1, HK.out.2.2.1, HK.out.2.2.2, hct⟩, below_chain l1 l2 (by omega)⟩; clear b1 s1 l1 l2))
  refine (within_any bl 4 (by decide) (by decide) _).mono ?_
  rintro e w' ⟨r, hr, rfl, rfl⟩
  obtain ⟨N, hN⟩ : ∃ N, 1 + r = N := ⟨_, rfl⟩
  have hN1 : 1 + (r : Int) = (N : Int) := by omega
  have hNb : 1 ≤ N ∧ N ≤ 4 := by omega
  have hmk : ∀ W, (Instr.makeSlice 44 (.int .i64 (64 * (N : Int))) (.int .i64 (64 * (N : Int)))).run Try.prog W = .ok (.slice (some ⟨W.heap.size, 0, none⟩) (64 * N) (64 * N)) (W.alloc (.cells (u8s (zer (64 * N))).toArray 5)) := fun W => by
    have := make_any (64 * N) (by omega) W
    simpa using this
  clear hr hN
  have B3 : Hid (BgAt (w2.alloc (.cells (u8s (zer (64 * N))).toArray 5)) w.heap.size key nonce ctr ∧ Below w.heap.size w (w2.alloc (.cells (u8s (zer (64 * N))).toArray 5)) ∧ Seen (w2.alloc (.cells (u8s (zer (64 * N))).toArray 5)) (some ⟨w2.heap.size, 0, none⟩) (64 * N) (zer (64 * N))) := by
    have l := (Below.refl w2.heap.size w2).alloc (Nat.le_refl _) (.cells (u8s (zer (64 * N))).toArray 5)
    exact ⟨B2.out.1.later l B2.out.1.blk.lt, below_chain B2.out.2 l B2.out.2.size, seen_zer w2 (64 * N) (by omega)⟩
  obtain ⟨w3, hw3⟩ : ∃ W, w2.alloc (.cells (u8s (zer (64 * N))).toArray 5) = W := ⟨_, rfl⟩
  have hmk2 : (Instr.makeSlice 44 (.int .i64 (64 * (N : Int))) (.int .i64 (64 * (N : Int)))).run Try.prog w2 = .ok (.slice (some ⟨w2.heap.size, 0, none⟩) (64 * N) (64 * N)) w3 := by rw [← hw3]; exact hmk w2
  rw [hw3] at B3
  clear hmk hw3
  have c3 := B3.out.1.ctr
  go_wp2_with (first | (refine wpList_load_mid rfl 23 _ rfl w.heap.size 0 rfl (u8s key) _ B3.out.1.key Try.underlying23 rfl uK.out.1 ?_) | (refine wpList_load_mid rfl 25 _ rfl w.heap.size 32 rfl (u8s nonce) _ B3.out.1.nonce Try.underlying25 rfl uK.out.2 ?_))
  refine (xor_all key nonce ctr (64 * N) (64 * N) _ (zer (64 * N)) HK.out.1 HK.out.2.1 HK.out.2.2.1 HK.out.2.2.2 hct w3 B3.out.2.2).mono ?_
  rintro e w4 ⟨vo, m, vc, R, E, rfl, hR, hs, hvo1, hvo2, hmc, l4⟩
  have B4 : Hid (BgAt w4 w.heap.size key nonce ctr ∧ Below w.heap.size w w4) := ⟨B3.out.1.later l4 B3.out.1.blk.lt, below_chain B3.out.2.1 l4 B3.out.2.1.size⟩
  have c4 := B4.out.1.ctr
  have v1 : IntKind.u64.wrap (ctr : Int) = (ctr : Int) := by simp only [IntKind.wrap, IntKind.bits, IntKind.signed]; simp; omega
  have v2 : IntKind.u64.wrap (N : Int) = (N : Int) := by simp only [IntKind.wrap, IntKind.bits, IntKind.signed]; simp; omega
  have v3 : IntKind.u64.wrap ((ctr : Int) + (N : Int)) = (ctr : Int) + (N : Int) := by simp only [IntKind.wrap, IntKind.bits, IntKind.signed]; simp; omega
  clear l4 hvo1 hvo2 c3 hmk2
  rcases hR with ⟨hle, rfl, rfl, rfl⟩ | ⟨hgt, rfl, rfl, rfl⟩
  rotate_left
  · have i1 : (4294967296 : Int) < (ctr : Int) + (N : Int) := by omega
    clear hs hmc
    go_wp2_with fail
    go_ret
    exact ⟨rfl, B4.out.2⟩
  · have i1 : ¬ (4294967296 : Int) < (ctr : Int) + (N : Int) := by omega
    obtain ⟨L, hL⟩ : ∃ L, over key nonce (64 * ctr) (zer (64 * N)) = L := ⟨_, rfl⟩
    rw [hL] at hs
    have HL : Hid (Seen w4 vo (64 * N) L ∧ 64 * N ≤ vc ∧ ∀ i, i < N → (L.drop (64 * i)).take 64 = blkB key ((ctr + i : Nat) : Int) nonce) := ⟨hs, hmc, by rw [← hL]; exact fun i hi => tells key nonce ctr N i hi⟩
    have HV : Hid (64 * N ≤ vc) := hmc
    clear hs hmc hL
    go_wp2_with fail
    clear c4 v1 v2 v3
    go_loopw [10] (fun i wr => ∃ k : Nat, k ≤ N ∧ i = .int .i64 k ∧ Below w4.heap.size w4 wr) (fun i _ => N - (intOf i).toNat)
    case atStart => exact ⟨0, by omega, rfl, Below.refl _ _⟩
    case round =>
      obtain ⟨k, hk, rfl, hbel⟩ := hrel
      by_cases hlt : k < N
      · have X0 : Hid (BgAt wr w.heap.size key nonce ctr ∧ Below w4.heap.size w4 wr ∧ Seen wr vo (64 * N) L) := ⟨B4.out.1.later hbel B4.out.1.blk.lt, hbel, HL.out.1.later hbel (Nat.le_refl _)⟩
        have ck := X0.out.1.ctr
        have i2 : (k : Int) < (N : Int) := by omega
        have v4 : IntKind.u32.wrap (k : Int) = (k : Int) := by simp only [IntKind.wrap, IntKind.bits, IntKind.signed]; simp; omega
        have v5 : IntKind.u32.wrap ((ctr : Int) + (k : Int)) = ((ctr + k : Nat) : Int) := by simp only [IntKind.wrap, IntKind.bits, IntKind.signed]; simp; omega
        obtain ⟨D, hD⟩ : ∃ D, blkB key ((ctr + k : Nat) : Int) nonce = D := ⟨_, rfl⟩
        have HD : Hid (blkB key ((ctr + k : Nat) : Int) nonce = D ∧ D.length = 64 ∧ Bytes D) := ⟨hD, by rw [← hD]; exact blkB_length _ _ _, by rw [← hD]; exact blkB_bytes _ _ _⟩
        clear hbel hD
        go_wp2_with (first | (refine wpList_load_mid rfl 23 _ rfl w.heap.size 0 rfl (u8s key) _ X0.out.1.key Try.underlying23 rfl uK.out.1 ?_) | (refine wpList_load_mid rfl 25 _ rfl w.heap.size 32 rfl (u8s nonce) _ X0.out.1.nonce Try.underlying25 rfl uK.out.2 ?_) | (go_at_call 9; refine (block_any key ((ctr + k : Nat) : Int) nonce HK.out.1 HK.out.2.1 HK.out.2.2.1 HK.out.2.2.2 _).mono ?_; rintro e w5 ⟨rfl, l5⟩; rw [HD.out.1]) | (refine wpList_alloc_new rfl 29 rfl 64 _ zero64b ?_; intro w6 b6 s6 l6) | (refine wpList_store_blk rfl 29 29 _ _ rfl _ rfl _ (u8s D) rfl b6 (by rw [u8s_length, HD.out.2.1, u8s_length]; rfl) (by rw [u8s_length, HD.out.2.1]; exact size64b) (u8s_one _) ?_; intro w7 b7 s7 k7))
        try simp only [Act.put, List.setIfInBounds_toArray, List.set_cons_zero, List.set_cons_succ]
        obtain ⟨G, hG⟩ : ∃ G, w5.heap.size = G := ⟨_, rfl⟩
        rw [hG] at b7 k7 ⊢
        have X7 : Hid (Blk w7 G 29 (u8s D) ∧ Below w4.heap.size w4 w7 ∧ Seen w7 vo (64 * N) L) := by
          have q5 := l5.size
          have q0 := X0.out.2.1.size
          have B := below_kept (below_chain (below_chain X0.out.2.1 l5 (by omega)) l6 (by omega)) k7 (by omega) (fun j hj => by omega)
          exact ⟨b7, B, HL.out.1.later B (Nat.le_refl _)⟩
        have hsl : ∀ W, (Instr.sliceAt 44 (.slice vo (64 * N) vc) (some (.int .i64 (64 * (k : Int)))) (some (.int .i64 (64 * (k : Int) + 64))) none).run Try.prog W = .ok (.slice (subA vo (64 * k) vc) 64 (vc - 64 * k)) W := fun W => by
          have := sl_lh vo (64 * N) vc (64 * k) (64 * k + 64) (by omega) (by have := HV.out; omega) W
          rw [show 64 * k + 64 - 64 * k = 64 by omega] at this
          simpa using this
        have n1 : IntKind.i64.wrap (64 * (k : Int)) = 64 * (k : Int) := by simp only [IntKind.wrap, IntKind.bits, IntKind.signed]; simp; omega
        have n2 : IntKind.i64.wrap (64 * (k : Int) + 64) = 64 * (k : Int) + 64 := by simp only [IntKind.wrap, IntKind.bits, IntKind.signed]; simp; omega
        clear l5 b6 s6 l6 b7 s7 k7 hG ck
        refine region_invT [.val (.slice vo (64 * N) vc), .val (.int .i64 (k : Int)), .val (.int .i64 (64 * (k : Int))), .val (.int .i64 (k : Int)), .val (.int .i64 (64 * (k : Int))), .val (.int .i64 (64 * (k : Int) + 64)), .val (.slice (subA vo (64 * k) vc) 64 (vc - 64 * k)), .val (.slice (some ⟨G, 0, none⟩) 64 64), .val (.bool true)] (by kernel_rfl) (by kernel_rfl) (by kernel_rfl) ?_ ?_
        · refine Steps'.cons ?_ (Steps'.cons ?_ (Steps'.cons ?_ (Steps'.cons ?_ (Steps'.cons ?_ (Steps'.cons ?_ (Steps'.cons ?_ (Steps'.cons ?_ (Steps'.cons ?_ (Steps'.one _ _ _ _ _ _ _)))))))))
          · intro ax wx hb hs hd
            have h8 : ax.tmps.getD 8 undef = (.slice vo (64 * N) vc) := hs 8 (by kernel_rfl)
            refine Does.value (.slice vo (64 * N) vc) ?_ rfl
            go_simp
          · intro ax wx hb hs hd
            have h10 : ax.tmps.getD 10 undef = (.int .i64 (k : Int)) := hs 10 (by kernel_rfl)
            refine Does.value (.int .i64 (k : Int)) ?_ rfl
            go_simp
          · intro ax wx hb hs hd
            have h76 : ax.tmps.getD 76 undef = (.int .i64 (k : Int)) := hd 1 76 rfl (by kernel_rfl) (by decide)
            refine Does.value _ ?_ rfl
            go_simp
          · intro ax wx hb hs hd
            have h10 : ax.tmps.getD 10 undef = (.int .i64 (k : Int)) := hs 10 (by kernel_rfl)
            refine Does.value (.int .i64 (k : Int)) ?_ rfl
            go_simp
          · intro ax wx hb hs hd
            have h78 : ax.tmps.getD 78 undef = (.int .i64 (k : Int)) := hd 3 78 rfl (by kernel_rfl) (by decide)
            refine Does.value _ ?_ rfl
            go_simp
          · intro ax wx hb hs hd
            have h79 : ax.tmps.getD 79 undef = (.int .i64 (64 * (k : Int))) := hd 4 79 rfl (by kernel_rfl) (by decide)
            refine Does.value _ ?_ rfl
            go_simp
          · intro ax wx hb hs hd
            have h75 : ax.tmps.getD 75 undef = (.slice vo (64 * N) vc) := hd 0 75 rfl (by kernel_rfl) (by decide)
            have h77 : ax.tmps.getD 77 undef = (.int .i64 (64 * (k : Int))) := hd 2 77 rfl (by kernel_rfl) (by decide)
            have h80 : ax.tmps.getD 80 undef = (.int .i64 (64 * (k : Int) + 64)) := hd 5 80 rfl (by kernel_rfl) (by decide)
            refine Does.value _ ?_ rfl
            go_simp
          · intro ax wx hb hs hd
            have h11 : ax.tmps.getD 11 undef = (.pointer (some ⟨G, 0, none⟩)) := hs 11 (by kernel_rfl)
            refine Does.value _ ?_ rfl
            go_simp
          · intro ax wx hb hs hd
            have h81 : ax.tmps.getD 81 undef = (.slice (subA vo (64 * k) vc) 64 (vc - 64 * k)) := hd 6 81 rfl (by kernel_rfl) (by decide)
            have h82 : ax.tmps.getD 82 undef = (.slice (some ⟨G, 0, none⟩) 64 64) := hd 7 82 rfl (by kernel_rfl) (by decide)
            refine Does.call 18 #[(.slice (subA vo (64 * k) vc) 64 (vc - 64 * k)), .slice (some ⟨G, 0, none⟩) 64 64] (by go_simp) ?_
            have q1 := (X7.out.2.2.later hb (Nat.le_refl _)).sub (64 * k) (64 * k + 64) vc (by omega) (by omega) HV.out
            rw [show 64 * k + 64 - 64 * k = 64 by omega, HL.out.2.2 k hlt, HD.out.1] at q1
            have q2 := seen_blk (Blk.later X7.out.1 hb (Blk.lt X7.out.1)) HD.out.2.2 (by have := HD.out.2.1; omega)
            rw [HD.out.2.1] at q2
            refine (same_yes _ _ 64 64 _ _ D wx q1 q2).mono ?_
            rintro e w' ⟨rfl, q, rfl⟩
            exact ⟨_, rfl, rfl, below_dn (Below.refl _ _) q⟩
        · intro wx hb
          refine @Ends.val _ _ _ _ _ _ _ _ _ (.slice vo (64 * N) vc) rfl ?_
          refine @Ends.val _ _ _ _ _ _ _ _ _ (.int .i64 (k : Int)) rfl ?_
          refine @Ends.val _ _ _ _ _ _ _ _ _ (.int .i64 (64 * (k : Int))) rfl ?_
          refine @Ends.val _ _ _ _ _ _ _ _ _ (.int .i64 (k : Int)) rfl ?_
          refine @Ends.val _ _ _ _ _ _ _ _ _ (.int .i64 (64 * (k : Int))) rfl ?_
          refine @Ends.val _ _ _ _ _ _ _ _ _ (.int .i64 (64 * (k : Int) + 64)) rfl ?_
          refine @Ends.val _ _ _ _ _ _ _ _ _ (.slice (subA vo (64 * k) vc) 64 (vc - 64 * k)) rfl ?_
          refine @Ends.val _ _ _ _ _ _ _ _ _ (.slice (some ⟨G, 0, none⟩) 64 64) rfl ?_
          refine @Ends.val _ _ _ _ _ _ _ _ _ (.bool true) rfl ?_
          refine @Ends.one _ _ _ _ _ _ _ ?_
          simp only [Act.put, List.setIfInBounds_toArray, List.set_cons_zero, List.set_cons_succ]
          refine last_value (some 84) rfl (.bool false) (by go_simp) ?_
          simp only [Act.put, List.setIfInBounds_toArray, List.set_cons_zero, List.set_cons_succ]
          have XB : Hid (Below w4.heap.size w4 wx) := below_chain X7.out.2.1 hb X7.out.2.1.size
          clear hb n1 n2
          go_wp2_with fail
          exact ⟨⟨k + 1, by omega, by go_num, XB.out⟩, by simp [intOf]; omega⟩
      · obtain rfl : k = N := by omega
        have X0 : Hid (BgAt wr w.heap.size key nonce ctr ∧ Below w.heap.size w wr ∧ Seen wr vo (64 * k) L) := ⟨B4.out.1.later hbel B4.out.1.blk.lt, below_chain B4.out.2 hbel B4.out.2.size, HL.out.1.later hbel (Nat.le_refl _)⟩
        have ck := X0.out.1.ctr
        clear hbel
        go_wp2_with fail
        refine (within_any sk k (by omega) (by omega) _).mono ?_
        rintro e w' ⟨n, hn, rfl, rfl⟩
        have hmk : ∀ W, (Instr.makeSlice 44 (.int .i64 64) (.int .i64 64)).run Try.prog W = .ok (.slice (some ⟨W.heap.size, 0, none⟩) 64 64) (W.alloc (.cells (u8s (zer 64)).toArray 5)) := fun W => make_any 64 (by decide) W
        have nn : ((64 * n : Nat) : Int) = 64 * (n : Int) := by omega
        obtain ⟨D, hD⟩ : ∃ D, blkB key ((ctr + n : Nat) : Int) nonce = D := ⟨_, rfl⟩
        have HD : Hid (over key nonce (64 * ctr + 64 * n) (zer 64) = D ∧ over key nonce (64 * (ctr + n)) (zer 64) = D ∧ D.length = 64 ∧ Bytes D ∧ (L.drop (64 * n)).take 64 = D) := by
          have e1 := tells1 key nonce (ctr + n)
          rw [hD] at e1
          exact ⟨by rw [← Nat.mul_add]; exact e1, e1, by rw [← hD]; exact blkB_length _ _ _, by rw [← hD]; exact blkB_bytes _ _ _, by rw [HL.out.2.2 n hn]; exact hD⟩
        clear hD
        go_wp2_with (first | (refine wpList_load_mid rfl 23 _ rfl w.heap.size 0 rfl (u8s key) _ X0.out.1.key Try.underlying23 rfl uK.out.1 ?_) | (refine wpList_load_mid rfl 25 _ rfl w.heap.size 32 rfl (u8s nonce) _ X0.out.1.nonce Try.underlying25 rfl uK.out.2 ?_) | (go_at_call 11; refine (new_any key ctr nonce HK.out.1 HK.out.2.1 HK.out.2.2.1 HK.out.2.2.2 hct _).mono ?_; rintro e w5 ⟨g, rfl, hg, st5, l5⟩; have SK : Hid (Calls Try.prog 24 #[.pointer (some ⟨g, 0, none⟩), .int .i64 (64 * (n : Int))] w5 fun e w' => e = .returned (.int .i64 0) ∧ StAt w' g key nonce (64 * ctr + 64 * n) ∧ Kept (fun k => k = g) w5 w') := (by have q := skip_ok g key nonce (64 * ctr) (64 * n) (by omega) w5 st5; rw [nn] at q; exact q); have Y5 : Hid (Below w.heap.size w w5 ∧ w.heap.size ≤ g ∧ w5.heap.size = w5.heap.size ∧ Below wr.heap.size wr w5 ∧ wr.heap.size ≤ g) := ⟨below_chain X0.out.2.1 l5 X0.out.2.1.size, by have := X0.out.2.1.size; omega, rfl, l5, hg⟩; clear hg st5 l5) | (go_at_call 24; refine SK.out.mono ?_; rintro e w6 ⟨rfl, st6, k6⟩; have Y6 : Hid (StAt w6 g key nonce (64 * ctr + 64 * n) ∧ Below w.heap.size w w6 ∧ BgAt w6 w.heap.size key nonce ctr ∧ Seen w6 vo (64 * k) L ∧ wr.heap.size ≤ g ∧ Below wr.heap.size wr w6) := (by have B := below_kept Y5.out.2.2.2.1 k6 Y5.out.2.2.2.1.size (fun j hj => by have := Y5.out.2.2.2.2; omega); exact ⟨st6, below_chain X0.out.2.1 B X0.out.2.1.size, X0.out.1.later B X0.out.1.blk.lt, X0.out.2.2.later B (Nat.le_refl _), Y5.out.2.2.2.2, B⟩); clear st6 k6) | (go_at_call 25; refine (sxor_any g key nonce (64 * ctr + 64 * n) 64 64 _ (zer 64) (by omega) _ (Y6.out.1.later (lz w6) Y6.out.1.blk.lt) (seen_zer w6 64 (by decide))).mono ?_; rintro e w7 ⟨v, rfl, o7, st7, k7⟩; rw [HD.out.1] at o7; rcases own_len HD.out.2.2.1 o7 with ⟨rfl, hn0⟩ | ⟨r7, cap, rfl, r1, g1, c1, m1⟩; cases hn0; have Y7 : Hid (BgAt w7 w.heap.size key nonce ctr ∧ Below w.heap.size w w7 ∧ Seen w7 vo (64 * k) L ∧ Seen w7 (some ⟨r7, 0, none⟩) 64 D ∧ 64 ≤ cap) := (tells_held w wr w6 w7 g r7 k vo L D key nonce ctr X0.out.1 X0.out.2.1 X0.out.2.2 Y6.out.2.2.2.2.1 Y6.out.2.2.2.2.2 (lz w6) k7 HD.out.2.2.1 HD.out.2.2.2.1 r1 cap c1); clear o7 st7 k7 r1 g1 c1 m1))
        have v4 : IntKind.u32.wrap (n : Int) = (n : Int) := by simp only [IntKind.wrap, IntKind.bits, IntKind.signed]; simp; omega
        have v5 : IntKind.u32.wrap ((ctr : Int) + (n : Int)) = ((ctr + n : Nat) : Int) := by simp only [IntKind.wrap, IntKind.bits, IntKind.signed]; simp; omega
        have n1 : IntKind.i64.wrap (64 * (n : Int)) = 64 * (n : Int) := by simp only [IntKind.wrap, IntKind.bits, IntKind.signed]; simp; omega
        have n2 : IntKind.i64.wrap (64 * (n : Int) + 64) = 64 * (n : Int) + 64 := by simp only [IntKind.wrap, IntKind.bits, IntKind.signed]; simp; omega
        have hsl : ∀ W, (Instr.sliceAt 44 (.slice vo (64 * k) vc) (some (.int .i64 (64 * (n : Int)))) (some (.int .i64 (64 * (n : Int) + 64))) none).run Try.prog W = .ok (.slice (subA vo (64 * n) vc) 64 (vc - 64 * n)) W := fun W => by
          have := sl_lh vo (64 * k) vc (64 * n) (64 * n + 64) (by omega) (by have := HV.out; omega) W
          rw [show 64 * n + 64 - 64 * n = 64 by omega] at this
          simpa using this
        clear ck
        refine region_inv [.val (.pointer (some ⟨w.heap.size, 0, none⟩)), .val (.agg (u8s key).toArray), .val (.pointer (some ⟨w.heap.size, 32, none⟩)), .val (.agg (u8s nonce).toArray), .val (.pointer (some ⟨w.heap.size, 44, none⟩)), .val (.int .u32 (ctr : Int)), .val (.int .i64 (n : Int)), .val (.int .u32 (n : Int)), .val (.int .u32 ((ctr + n : Nat) : Int)), .any (isV 64 (zer 64)) (isV_later _ _), .any (isX 64 D) (isX_later _ _), .any (isX 64 D) (isX_later _ _), .any (isV 64 D) (isV_later _ _), .val (.int .i64 0), .any (isV 64 D) (isV_later _ _)] (by kernel_rfl) (by kernel_rfl) (by kernel_rfl) ?_ ?_
        · refine Steps'.cons ?_ (Steps'.cons ?_ (Steps'.cons ?_ (Steps'.cons ?_ (Steps'.cons ?_ (Steps'.cons ?_ (Steps'.cons ?_ (Steps'.cons ?_ (Steps'.cons ?_ (Steps'.cons ?_ (Steps'.cons ?_ (Steps'.cons ?_ (Steps'.cons ?_ (Steps'.cons ?_ (Steps'.cons ?_ (Steps'.one _ _ _ _ _ _ _)))))))))))))))
          · intro ax wx hb hs hd
            have h3 : ax.tmps.getD 3 undef = (.pointer (some ⟨w.heap.size, 0, none⟩)) := hs 3 (by kernel_rfl)
            refine Does.value _ ?_ rfl
            go_simp
          · intro ax wx hb hs hd
            have h111 : ax.tmps.getD 111 undef = (.pointer (some ⟨w.heap.size, 0, none⟩)) := hd 0 111 rfl (by kernel_rfl) (by decide)
            exact Does.load 23 (.tmp 111) rfl w.heap.size 0 h111 (u8s key) _ ((BgAt.later Y7.out.1 hb Y7.out.1.blk.lt).key) Try.underlying23 rfl uK.out.1
          · intro ax wx hb hs hd
            have h3 : ax.tmps.getD 3 undef = (.pointer (some ⟨w.heap.size, 0, none⟩)) := hs 3 (by kernel_rfl)
            refine Does.value _ ?_ rfl
            go_simp
          · intro ax wx hb hs hd
            have h113 : ax.tmps.getD 113 undef = (.pointer (some ⟨w.heap.size, 32, none⟩)) := hd 2 113 rfl (by kernel_rfl) (by decide)
            exact Does.load 25 (.tmp 113) rfl w.heap.size 32 h113 (u8s nonce) _ ((BgAt.later Y7.out.1 hb Y7.out.1.blk.lt).nonce) Try.underlying25 rfl uK.out.2
          · intro ax wx hb hs hd
            have h3 : ax.tmps.getD 3 undef = (.pointer (some ⟨w.heap.size, 0, none⟩)) := hs 3 (by kernel_rfl)
            refine Does.value _ ?_ rfl
            go_simp
          · intro ax wx hb hs hd
            have h115 : ax.tmps.getD 115 undef = (.pointer (some ⟨w.heap.size, 44, none⟩)) := hd 4 115 rfl (by kernel_rfl) (by decide)
            have cx := (BgAt.later Y7.out.1 hb Y7.out.1.blk.lt).ctr
            refine Does.value _ ?_ rfl
            go_simp
          · intro ax wx hb hs hd
            have h12 : ax.tmps.getD 12 undef = (.int .i64 (n : Int)) := hs 12 (by kernel_rfl)
            refine Does.value (.int .i64 (n : Int)) ?_ rfl
            go_simp
          · intro ax wx hb hs hd
            have h117 : ax.tmps.getD 117 undef = (.int .i64 (n : Int)) := hd 6 117 rfl (by kernel_rfl) (by decide)
            refine Does.value _ ?_ rfl
            go_simp
          · intro ax wx hb hs hd
            have h116 : ax.tmps.getD 116 undef = (.int .u32 (ctr : Int)) := hd 5 116 rfl (by kernel_rfl) (by decide)
            have h118 : ax.tmps.getD 118 undef = (.int .u32 (n : Int)) := hd 7 118 rfl (by kernel_rfl) (by decide)
            refine Does.value _ ?_ rfl
            go_simp
          · intro ax wx hb hs hd
            refine Does.run (.slice (some ⟨wx.heap.size, 0, none⟩) 64 64) ?_ ⟨_, _, rfl, seen_zer wx 64 (by decide), Nat.le_refl _⟩ ((Below.refl _ wx).alloc (Nat.le_refl _) _)
            go_simp
          · intro ax wx hb hs hd
            have h112 : ax.tmps.getD 112 undef = (.agg (u8s key).toArray) := hd 1 112 rfl (by kernel_rfl) (by decide)
            have h114 : ax.tmps.getD 114 undef = (.agg (u8s nonce).toArray) := hd 3 114 rfl (by kernel_rfl) (by decide)
            have h119 : ax.tmps.getD 119 undef = (.int .u32 ((ctr + n : Nat) : Int)) := hd 8 119 rfl (by kernel_rfl) (by decide)
            obtain ⟨zo, zc, h120, zs, zl⟩ : isV 64 (zer 64) (ax.tmps.getD 120 undef) wx := hd 9 120 rfl (by kernel_rfl) (by decide)
            refine Does.call 17 #[.agg (u8s key).toArray, .agg (u8s nonce).toArray, .int .u32 ((ctr + n : Nat) : Int), .slice zo 64 zc] (by go_simp) ?_
            refine (xor_all key nonce (ctr + n) 64 zc zo (zer 64) HK.out.1 HK.out.2.1 HK.out.2.2.1 HK.out.2.2.2 (by omega) wx zs).mono ?_
            rintro e w' ⟨xo, m, xc, R, E, rfl, hR, hs', hv1, hv2, hmc, l⟩
            rcases hR with ⟨hle, rfl, rfl, rfl⟩ | ⟨hgt, _⟩
            rotate_left
            omega
            rw [HD.out.2.1] at hs'
            exact ⟨_, rfl, ⟨_, _, rfl, hs', hmc⟩, l⟩
          · intro ax wx hb hs hd
            obtain ⟨zo, zc, h121, zs, zl⟩ : isX 64 D (ax.tmps.getD 121 undef) wx := hd 10 121 rfl (by kernel_rfl) (by decide)
            refine Does.value (.tuple #[.slice zo 64 zc, .int .i64 0]) (by go_simp) ⟨zo, zc, rfl, zs, zl⟩
          · intro ax wx hb hs hd
            obtain ⟨zo, zc, h110, zs, zl⟩ : isX 64 D (ax.tmps.getD 110 undef) wx := hd 11 110 rfl (by kernel_rfl) (by decide)
            refine Does.value (.slice zo 64 zc) (by go_simp) ⟨zo, zc, rfl, zs, zl⟩
          · intro ax wx hb hs hd
            obtain ⟨zo, zc, h110, zs, zl⟩ : isX 64 D (ax.tmps.getD 110 undef) wx := hd 11 110 rfl (by kernel_rfl) (by decide)
            refine Does.value (.int .i64 0) (by go_simp) rfl
          · intro ax wx hb hs hd
            obtain ⟨zo, zc, h122, zs, zl⟩ : isV 64 D (ax.tmps.getD 122 undef) wx := hd 12 122 rfl (by kernel_rfl) (by decide)
            refine Does.value (.slice zo 64 zc) (by go_simp) ⟨zo, zc, rfl, zs, zl⟩
        · intro wx hb
          refine @Ends.val _ _ _ _ _ _ _ _ _ (.pointer (some ⟨w.heap.size, 0, none⟩)) rfl ?_
          refine @Ends.val _ _ _ _ _ _ _ _ _ (.agg (u8s key).toArray) rfl ?_
          refine @Ends.val _ _ _ _ _ _ _ _ _ (.pointer (some ⟨w.heap.size, 32, none⟩)) rfl ?_
          refine @Ends.val _ _ _ _ _ _ _ _ _ (.agg (u8s nonce).toArray) rfl ?_
          refine @Ends.val _ _ _ _ _ _ _ _ _ (.pointer (some ⟨w.heap.size, 44, none⟩)) rfl ?_
          refine @Ends.val _ _ _ _ _ _ _ _ _ (.int .u32 (ctr : Int)) rfl ?_
          refine @Ends.val _ _ _ _ _ _ _ _ _ (.int .i64 (n : Int)) rfl ?_
          refine @Ends.val _ _ _ _ _ _ _ _ _ (.int .u32 (n : Int)) rfl ?_
          refine @Ends.val _ _ _ _ _ _ _ _ _ (.int .u32 ((ctr + n : Nat) : Int)) rfl ?_
          refine @Ends.any _ _ _ _ _ _ _ _ _ (isV 64 (zer 64)) (isV_later _ _) rfl ?_
          intro v9 p9
          refine @Ends.any _ _ _ _ _ _ _ _ _ (isX 64 D) (isX_later _ _) rfl ?_
          intro v10 p10
          refine @Ends.any _ _ _ _ _ _ _ _ _ (isX 64 D) (isX_later _ _) rfl ?_
          intro v11 p11
          refine @Ends.any _ _ _ _ _ _ _ _ _ (isV 64 D) (isV_later _ _) rfl ?_
          intro v12 p12
          refine @Ends.val _ _ _ _ _ _ _ _ _ (.int .i64 0) rfl ?_
          refine @Ends.any _ _ _ _ _ _ _ _ _ (isV 64 D) (isV_later _ _) rfl ?_
          intro v14 p14
          refine @Ends.one _ _ _ _ _ _ _ ?_
          simp only [Act.put, List.setIfInBounds_toArray, List.set_cons_zero, List.set_cons_succ]
          refine last_assign (.tmp 123) rfl (some 17) rfl (.int .i64 0) rfl ?_
          simp only [Act.put, List.setIfInBounds_toArray, List.set_cons_zero, List.set_cons_succ]
          obtain ⟨xo, xc, rfl, xs, xl⟩ := p14
          have Z : Hid (Below w.heap.size w wx ∧ Seen wx vo (64 * k) L ∧ Seen wx (some ⟨r7, 0, none⟩) 64 D ∧ Seen wx xo 64 D) := ⟨below_chain Y7.out.2.1 hb Y7.out.2.1.size, Y7.out.2.2.1.later hb (Nat.le_refl _), Y7.out.2.2.2.1.later hb (Nat.le_refl _), xs⟩
          clear hb p9 p10 p11 p12 xs v4 v5
          go_wp2_with fail
          refine (same_yes _ _ 64 64 _ _ D wx Z.out.2.2.1 Z.out.2.2.2).mono ?_
          rintro e w8 ⟨rfl, q, rfl⟩
          have Z8 : Hid (Below w.heap.size w (wx.drewN q) ∧ Seen (wx.drewN q) (subA vo (64 * n) vc) 64 D ∧ Seen (wx.drewN q) (some ⟨r7, 0, none⟩) 64 D) := by
            have l := below_dn (Below.refl wx.heap.size wx) q
            have q2 := (Z.out.2.1.later l (Nat.le_refl _)).sub (64 * n) (64 * n + 64) vc (by omega) (by omega) HV.out
            rw [show 64 * n + 64 - 64 * n = 64 by omega, HD.out.2.2.2.2] at q2
            exact ⟨below_chain Z.out.1 l Z.out.1.size, q2, Z.out.2.2.1.later l (Nat.le_refl _)⟩
          go_wp2_with fail
          refine (same_yes _ _ 64 64 _ _ D _ Z8.out.2.2 Z8.out.2.1).mono ?_
          rintro e w9 ⟨rfl, q9, hw9⟩
          have ZB : Hid (Below w.heap.size w w9) := by rw [hw9]; exact below_dn Z8.out.1 q9
          clear hw9
          go_wp2_with fail
          go_ret
          exact ⟨rfl, ZB.out⟩

end Go.Proofs.Ytillphlgoacgdaa
