/- The walk of StreamPieces. -/
import Derived.Test.YtillphlgoacgdaaSTwice
import Derived.Test.YtillphlgoacgdaaSBg
import Derived.Test.YtillphlgoacgdaaSAwake
import Derived.Test.YtillphlgoacgdaaTWithin
import Derived.Test.YtillphlgoacgdaaRInvT
namespace Go.Proofs.Ytillphlgoacgdaa
open Go.RowKit
set_option linter.unusedVariables false
set_option linter.unusedSimpArgs false

/-- Numbers as data. -/
structure SeenI (w : World) (ao : Option Addr) (n : Nat) : Prop where
  cells : ∀ i, i < n → ∃ b o z, ao = some ⟨b, o, none⟩ ∧ b < w.heap.size ∧ w.cell? ⟨b, o + i, none⟩ = some (.int .i64 z) ∧ -9223372036854775808 ≤ z ∧ z ≤ 9223372036854775807
theorem SeenI.later {w w' : World} {ao : Option Addr} {n : Nat} (h : SeenI w ao n) {B : Nat} (hb : Below B w w') (hB : w.heap.size ≤ B) : SeenI w' ao n :=
  ⟨fun i hi => by
    obtain ⟨b, o, z, e, hl, hc, hz⟩ := h.cells i hi
    exact ⟨b, o, z, e, Nat.lt_of_lt_of_le hl hb.size, (hb.cell (p := ⟨b, o + i, none⟩) (Nat.lt_of_lt_of_le hl hB)).trans hc, hz⟩⟩
theorem sub_none {ao : Option Addr} {a c : Nat} (hc : ao = none → c = 0) : subA ao a c = none → c - a = 0 := by
  intro h
  unfold subA at h
  split at h
  · omega
  · cases ao with
    | none => have := hc rfl; omega
    | some x => cases h
/-- A piece of what is laid over is the piece laid over. -/
theorem over_piece (key nonce : List Int) (p a r : Nat) (zs : List Int) (h : a + r ≤ zs.length) : ((over key nonce p zs).drop a).take r = over key nonce (p + a) ((zs.drop a).take r) := by
  have l1 : (((over key nonce p zs).drop a).take r).length = r := by rw [List.length_take, List.length_drop, over_length]; omega
  have l2 : ((zs.drop a).take r).length = r := by rw [List.length_take, List.length_drop]; omega
  apply List.ext_getElem
  · rw [l1, over_length, l2]
  · intro j h1 h2
    have hj : j < r := by rw [l1] at h1; exact h1
    have e1 := over_at key nonce p zs (a + j) (by omega)
    have e2 := over_at key nonce (p + a) ((zs.drop a).take r) j (by omega)
    have g1 : ((zs.drop a).take r).getD j 0 = zs.getD (a + j) 0 := by
      simp only [List.getD, List.getElem?_take, if_pos hj, List.getElem?_drop]
    rw [g1, show p + a + j = p + (a + j) by omega, ← e1] at e2
    have k1 : a + j < (over key nonce p zs).length := by rw [over_length]; omega
    simp only [List.getD, List.getElem?_eq_getElem k1, List.getElem?_eq_getElem h2, Option.getD_some] at e2
    rw [e2]
    simp
/-- What Xor answers, and where its bytes lie. -/
def isW (g m : Nat) (E : Int) (R : List Int) (v : Value) (w : World) : Prop := ∃ vo c, v = .tuple #[.slice vo m c, .int .i64 E] ∧ Seen w vo m R ∧ m ≤ c ∧ ∀ b o, vo = some ⟨b, o, none⟩ → g < b
theorem isW_later (g m : Nat) (E : Int) (R : List Int) : ∀ v w w', Below w.heap.size w w' → isW g m E R v w → isW g m E R v w' := fun _ _ _ hb ⟨b, c, h1, h2, h3⟩ => ⟨b, c, h1, h2.later hb (Nat.le_refl _), h3⟩
def isU (g m : Nat) (R : List Int) (v : Value) (w : World) : Prop := ∃ vo c, v = .slice vo m c ∧ Seen w vo m R ∧ m ≤ c ∧ ∀ b o, vo = some ⟨b, o, none⟩ → g < b
theorem isU_later (g m : Nat) (R : List Int) : ∀ v w w', Below w.heap.size w w' → isU g m R v w → isU g m R v w' := fun _ _ _ hb ⟨b, c, h1, h2, h3⟩ => ⟨b, c, h1, h2.later hb (Nat.le_refl _), h3⟩
def isQ (n : Nat) (L : List Int) (v : Value) (w : World) : Prop := ∃ vo c, v = .slice vo n c ∧ Seen w vo n L
theorem isQ_later (n : Nat) (L : List Int) : ∀ v w w', Below w.heap.size w w' → isQ n L v w → isQ n L v w' := fun _ _ _ hb ⟨b, c, h1, h2⟩ => ⟨b, c, h1, h2.later hb (Nat.le_refl _)⟩
theorem last_val {o : Oper} {a : Act} {w : World} {K : Act → World → Prop} {Q : Exit → Act → World → Prop} (d : Option Tmp) (hdst : o.dst = d) (v : Value) (hv : (execOp a.eval o).run Try.prog w = .ok (.value v) w) (h : K (a.put d v) w) : o.wp Try.prog a w K Q := by
  subst hdst
  unfold Oper.wp
  rw [hv]
  exact h
theorem BgAt.kept {S : Nat → Prop} {w w' : World} {g : Nat} {key nonce : List Int} {ctr : Nat} (h : BgAt w g key nonce ctr) (hk : Kept S w w') (hS : ¬ S g) : BgAt w' g key nonce ctr := ⟨h.blk.kept hk hS, h.k32, h.n12, h.kb, h.nb, h.top⟩
/-- What stands while the stream g goes on. -/
structure Goes (w w5 wr : World) (g : Nat) (key nonce : List Int) (ctr a : Nat) (ao : Option Addr) (n : Nat) (zs : List Int) (qo : Option Addr) (qn : Nat) (vo : Option Addr) (L : List Int) : Prop where
  st : StAt wr g key nonce (64 * ctr + a)
  bg : BgAt wr w.heap.size key nonce ctr
  txt : Seen wr ao n zs
  nums : SeenI wr qo qn
  whole : Seen wr vo n L
  kept : Kept (fun b => b = g) w5 wr
theorem Goes.go {w w5 wr w' : World} {g : Nat} {key nonce : List Int} {ctr a a' : Nat} {ao : Option Addr} {n : Nat} {zs : List Int} {qo : Option Addr} {qn : Nat} {vo : Option Addr} {L : List Int} (h : Goes w w5 wr g key nonce ctr a ao n zs qo qn vo L)
    (hx : ∀ b o, 0 < n → ao = some ⟨b, o, none⟩ → b < g) (hq : ∀ b o, 0 < qn → qo = some ⟨b, o, none⟩ → b < g) (hv : ∀ b o, vo = some ⟨b, o, none⟩ → g < b) (hw : w.heap.size < g) (hk : Kept (fun b => b = g) wr w') (st : StAt w' g key nonce (64 * ctr + a')) : Goes w w5 w' g key nonce ctr a' ao n zs qo qn vo L :=
  ⟨st, h.bg.kept hk (by omega), h.txt.kept hk (fun b o h0 e => by have := hx b o h0 e; omega),
   ⟨fun i hi => by
    obtain ⟨b, o, z, e, hl, hc, hz⟩ := h.nums.cells i hi
    have hb := hq b o (by omega) e
    exact ⟨b, o, z, e, Nat.lt_of_lt_of_le hl hk.size, (hk.cell (p := ⟨b, o + i, none⟩) hl (show ¬ b = g by omega)).trans hc, hz⟩⟩,
   h.whole.kept hk (fun b o _ e => by have := hv b o e; omega), h.kept.trans hk⟩
set_option maxRecDepth 20000 in
set_option maxHeartbeats 4000000 in
theorem pieces_walk (key nonce : List Int) (ctr : Nat) (ao : Option Addr) (n c : Nat) (zs : List Int) (qo : Option Addr) (qn qc : Nat) (w : World) (h1 : key.length = 32) (h2 : nonce.length = 12) (h3 : Bytes key) (h4 : Bytes nonce) (hct : ctr < 4294967296)
    (hx : Seen w ao n zs) (hn : n ≤ 140737488351232) (hc : ao = none → c = 0) (hnc : n ≤ c) (hq : SeenI w qo qn) (hqn : qn ≤ 140737488351232) :
    Calls Try.prog 6 #[.agg (bCells key nonce ctr).toArray, .slice ao n c, .slice qo qn qc] w fun e w' => e = .returned (.bool true) ∧ Below w.heap.size w w' := by
  have HK : Hid (key.length = 32 ∧ nonce.length = 12 ∧ Bytes key ∧ Bytes nonce) := ⟨h1, h2, h3, h4⟩
  have uK : Hid ((Try.prog.info? 23).map (·.size) = some (u8s key).length ∧ (Try.prog.info? 25).map (·.size) = some (u8s nonce).length) := ⟨by rw [u8s_length, h1]; exact sizeKey, by rw [u8s_length, h2]; exact sizeNonce⟩
  have HX : Hid (Seen w ao n zs ∧ (ao = none → c = 0) ∧ n ≤ c ∧ SeenI w qo qn) := ⟨hx, hc, hnc, hq⟩
  clear h1 h2 h3 h4 hx hc hnc hq
  go_enter Try.func6, Try.ntmps6
  go_wp2_with (first | (refine wpList_box_new rfl 28 (.tmp 0) rfl (bCells key nonce ctr) rfl ?_; intro w1 b1 s1 l1) | (go_at_call 22; refine (awake_any _).mono ?_; rintro e w2 ⟨rfl, l2⟩; have B2 : Hid (BgAt w2 w.heap.size key nonce ctr ∧ Below w.heap.size w w2 ∧ w.heap.size < w2.heap.size) := ⟨⟨b1.later l2 (by omega), HK.out.1, HK.out.2.1, HK.out.2.2.1, HK.out.2.2.2, hct⟩, below_chain l1 l2 (by omega), by have := l2.size; omega⟩; have c2 := B2.out.1.ctr; clear b1 s1 l1 l2) | (refine wpList_load_mid rfl 23 _ rfl w.heap.size 0 rfl (u8s key) _ B2.out.1.key Try.underlying23 rfl uK.out.1 ?_) | (refine wpList_load_mid rfl 25 _ rfl w.heap.size 32 rfl (u8s nonce) _ B2.out.1.nonce Try.underlying25 rfl uK.out.2 ?_) | (go_at_call 11; refine (new_any key ctr nonce HK.out.1 HK.out.2.1 HK.out.2.2.1 HK.out.2.2.2 hct _).mono ?_; rintro e w3 ⟨g, rfl, hg, st3, l3⟩; have Y3 : Hid (StAt w3 g key nonce (64 * ctr) ∧ BgAt w3 w.heap.size key nonce ctr ∧ Below w.heap.size w w3 ∧ Below w2.heap.size w2 w3 ∧ w2.heap.size ≤ g ∧ g < w3.heap.size ∧ Seen w3 ao n zs ∧ SeenI w3 qo qn) := ⟨st3, B2.out.1.later l3 B2.out.1.blk.lt, below_chain B2.out.2.1 l3 B2.out.2.1.size, l3, hg, st3.blk.lt, (HX.out.1.later B2.out.2.1 (Nat.le_refl _)).later l3 (Nat.le_refl _), (HX.out.2.2.2.later B2.out.2.1 (Nat.le_refl _)).later l3 (Nat.le_refl _)⟩; clear c2 hg st3 l3))
  obtain ⟨m, E, R, hR⟩ : ∃ (m : Nat) (E : Int) (R : List Int), (n + 64 * ctr ≤ 274877906944 ∧ m = n ∧ E = 0 ∧ R = over key nonce (64 * ctr) zs) ∨ (274877906944 < n + 64 * ctr ∧ m = 0 ∧ E = 50 ∧ R = []) := by
    by_cases h : n + 64 * ctr ≤ 274877906944
    · exact ⟨_, _, _, .inl ⟨h, rfl, rfl, rfl⟩⟩
    · exact ⟨_, _, _, .inr ⟨by omega, rfl, rfl, rfl⟩⟩
  have HR : Hid (∀ m' E' R', ((n + 64 * ctr ≤ 274877906944 ∧ m' = n ∧ E' = 0 ∧ R' = over key nonce (64 * ctr) zs) ∨ (274877906944 < n + 64 * ctr ∧ m' = 0 ∧ E' = 50 ∧ R' = [])) → m' = m ∧ E' = E ∧ R' = R) := by
    intro m' E' R' h
    rcases hR with ⟨h1, rfl, rfl, rfl⟩ | ⟨h1, rfl, rfl, rfl⟩ <;> rcases h with ⟨h2, rfl, rfl, rfl⟩ | ⟨h2, rfl, rfl, rfl⟩ <;> first | exact ⟨rfl, rfl, rfl⟩ | omega
  refine region_inv [.val (.pointer (some ⟨w.heap.size, 0, none⟩)), .val (.agg (u8s key).toArray), .val (.pointer (some ⟨w.heap.size, 32, none⟩)), .val (.agg (u8s nonce).toArray), .val (.pointer (some ⟨w.heap.size, 44, none⟩)), .val (.int .u32 (ctr : Int)), .val (.slice ao n c), .any (isQ n zs) (isQ_later _ _), .any (isW g m E R) (isW_later _ _ _ _), .any (isW g m E R) (isW_later _ _ _ _), .any (isU g m R) (isU_later _ _ _), .val (.int .i64 E), .any (isU g m R) (isU_later _ _ _)] (by kernel_rfl) (by kernel_rfl) (by kernel_rfl) ?_ ?_
  · refine Steps'.cons ?_ (Steps'.cons ?_ (Steps'.cons ?_ (Steps'.cons ?_ (Steps'.cons ?_ (Steps'.cons ?_ (Steps'.cons ?_ (Steps'.cons ?_ (Steps'.cons ?_ (Steps'.cons ?_ (Steps'.cons ?_ (Steps'.cons ?_ (Steps'.cons ?_ (Steps'.one _ _ _ _ _ _ _)))))))))))))
    · intro ax wx hb hs hd
      have h3 : ax.tmps.getD 3 undef = (.pointer (some ⟨w.heap.size, 0, none⟩)) := hs 3 (by kernel_rfl)
      refine Does.value _ ?_ rfl
      go_simp
    · intro ax wx hb hs hd
      have h26 : ax.tmps.getD 26 undef = (.pointer (some ⟨w.heap.size, 0, none⟩)) := hd 0 26 rfl (by kernel_rfl) (by decide)
      exact Does.load 23 (.tmp 26) rfl w.heap.size 0 h26 (u8s key) _ ((BgAt.later Y3.out.2.1 hb Y3.out.2.1.blk.lt).key) Try.underlying23 rfl uK.out.1
    · intro ax wx hb hs hd
      have h3 : ax.tmps.getD 3 undef = (.pointer (some ⟨w.heap.size, 0, none⟩)) := hs 3 (by kernel_rfl)
      refine Does.value _ ?_ rfl
      go_simp
    · intro ax wx hb hs hd
      have h28 : ax.tmps.getD 28 undef = (.pointer (some ⟨w.heap.size, 32, none⟩)) := hd 2 28 rfl (by kernel_rfl) (by decide)
      exact Does.load 25 (.tmp 28) rfl w.heap.size 32 h28 (u8s nonce) _ ((BgAt.later Y3.out.2.1 hb Y3.out.2.1.blk.lt).nonce) Try.underlying25 rfl uK.out.2
    · intro ax wx hb hs hd
      have h3 : ax.tmps.getD 3 undef = (.pointer (some ⟨w.heap.size, 0, none⟩)) := hs 3 (by kernel_rfl)
      refine Does.value _ ?_ rfl
      go_simp
    · intro ax wx hb hs hd
      have h30 : ax.tmps.getD 30 undef = (.pointer (some ⟨w.heap.size, 44, none⟩)) := hd 4 30 rfl (by kernel_rfl) (by decide)
      have cx := (BgAt.later Y3.out.2.1 hb Y3.out.2.1.blk.lt).ctr
      refine Does.value _ ?_ rfl
      go_simp
    · intro ax wx hb hs hd
      have h1 : ax.tmps.getD 1 undef = (.slice ao n c) := hs 1 (by kernel_rfl)
      refine Does.value (.slice ao n c) ?_ rfl
      go_simp
    · intro ax wx hb hs hd
      have h32 : ax.tmps.getD 32 undef = (.slice ao n c) := hd 6 32 rfl (by kernel_rfl) (by decide)
      refine Does.call 21 #[.slice ao n c] (by go_simp) ?_
      have sx := Y3.out.2.2.2.2.2.2.1.later hb (Nat.le_refl _)
      refine (copied_any ao n c zs wx sx HX.out.2.1).mono ?_
      rintro e w' ⟨v, rfl, o1, l1⟩
      obtain ⟨p1, pc, rfl, s1, _⟩ := own_seen sx.len sx.bytes sx.top o1
      exact ⟨_, rfl, ⟨_, _, rfl, s1⟩, l1⟩
    · intro ax wx hb hs hd
      have h27 : ax.tmps.getD 27 undef = (.agg (u8s key).toArray) := hd 1 27 rfl (by kernel_rfl) (by decide)
      have h29 : ax.tmps.getD 29 undef = (.agg (u8s nonce).toArray) := hd 3 29 rfl (by kernel_rfl) (by decide)
      have h31 : ax.tmps.getD 31 undef = (.int .u32 (ctr : Int)) := hd 5 31 rfl (by kernel_rfl) (by decide)
      obtain ⟨zo, zc, h33, zs'⟩ : isQ n zs (ax.tmps.getD 33 undef) wx := hd 7 33 rfl (by kernel_rfl) (by decide)
      refine Does.call 17 #[.agg (u8s key).toArray, .agg (u8s nonce).toArray, .int .u32 (ctr : Int), .slice zo n zc] (by go_simp) ?_
      refine (xor_all key nonce ctr n zc zo zs HK.out.1 HK.out.2.1 HK.out.2.2.1 HK.out.2.2.2 hct wx zs').mono ?_
      rintro e w' ⟨xo, m', xc, R', E', rfl, hR', hs', hv1, hv2, hmc, l⟩
      obtain ⟨rfl, rfl, rfl⟩ := HR.out _ _ _ hR'
      exact ⟨_, rfl, ⟨_, _, rfl, hs', hmc, fun b o e => by have := hv2 b o e; have := hb.size; have := Y3.out.2.2.2.2.2.1; omega⟩, l⟩
    · intro ax wx hb hs hd
      obtain ⟨zo, zc, h34, zs', zl⟩ : isW g m E R (ax.tmps.getD 34 undef) wx := hd 8 34 rfl (by kernel_rfl) (by decide)
      refine Does.value (.tuple #[.slice zo m zc, .int .i64 E]) (by go_simp) ⟨zo, zc, rfl, zs', zl⟩
    · intro ax wx hb hs hd
      obtain ⟨zo, zc, h25, zs', zl⟩ : isW g m E R (ax.tmps.getD 25 undef) wx := hd 9 25 rfl (by kernel_rfl) (by decide)
      refine Does.value (.slice zo m zc) (by go_simp) ⟨zo, zc, rfl, zs', zl⟩
    · intro ax wx hb hs hd
      obtain ⟨zo, zc, h25, zs', zl⟩ : isW g m E R (ax.tmps.getD 25 undef) wx := hd 9 25 rfl (by kernel_rfl) (by decide)
      refine Does.value (.int .i64 E) (by go_simp) rfl
    · intro ax wx hb hs hd
      obtain ⟨zo, zc, h35, zs', zl⟩ : isU g m R (ax.tmps.getD 35 undef) wx := hd 10 35 rfl (by kernel_rfl) (by decide)
      refine Does.value (.slice zo m zc) (by go_simp) ⟨zo, zc, rfl, zs', zl⟩
  · intro wx hb
    refine @Ends.val _ _ _ _ _ _ _ _ _ (.pointer (some ⟨w.heap.size, 0, none⟩)) rfl ?_
    refine @Ends.val _ _ _ _ _ _ _ _ _ (.agg (u8s key).toArray) rfl ?_
    refine @Ends.val _ _ _ _ _ _ _ _ _ (.pointer (some ⟨w.heap.size, 32, none⟩)) rfl ?_
    refine @Ends.val _ _ _ _ _ _ _ _ _ (.agg (u8s nonce).toArray) rfl ?_
    refine @Ends.val _ _ _ _ _ _ _ _ _ (.pointer (some ⟨w.heap.size, 44, none⟩)) rfl ?_
    refine @Ends.val _ _ _ _ _ _ _ _ _ (.int .u32 (ctr : Int)) rfl ?_
    refine @Ends.val _ _ _ _ _ _ _ _ _ (.slice ao n c) rfl ?_
    refine @Ends.any _ _ _ _ _ _ _ _ _ (isQ n zs) (isQ_later _ _) rfl ?_
    intro v7 p7
    refine @Ends.any _ _ _ _ _ _ _ _ _ (isW g m E R) (isW_later _ _ _ _) rfl ?_
    intro v8 p8
    refine @Ends.any _ _ _ _ _ _ _ _ _ (isW g m E R) (isW_later _ _ _ _) rfl ?_
    intro v9 p9
    refine @Ends.any _ _ _ _ _ _ _ _ _ (isU g m R) (isU_later _ _ _) rfl ?_
    intro v10 p10
    refine @Ends.val _ _ _ _ _ _ _ _ _ (.int .i64 E) rfl ?_
    refine @Ends.any _ _ _ _ _ _ _ _ _ (isU g m R) (isU_later _ _ _) rfl ?_
    intro v12 p12
    refine @Ends.one _ _ _ _ _ _ _ ?_
    simp only [Act.put, List.setIfInBounds_toArray, List.set_cons_zero, List.set_cons_succ]
    refine last_assign (.tmp 36) rfl (some 9) rfl (.int .i64 E) rfl ?_
    simp only [Act.put, List.setIfInBounds_toArray, List.set_cons_zero, List.set_cons_succ]
    obtain ⟨vo, vc, rfl, xs, xl, xg⟩ := p12
    have Y5 : Hid (Below w3.heap.size w3 wx ∧ Seen wx vo m R ∧ m ≤ vc ∧ ∀ b o, vo = some ⟨b, o, none⟩ → g < b) := ⟨hb, xs, xl, xg⟩
    have c5 := (Y3.out.2.1.later hb Y3.out.2.1.blk.lt).ctr
    have v1 : IntKind.u64.wrap (n : Int) = (n : Int) := by simp only [IntKind.wrap, IntKind.bits, IntKind.signed]; simp; omega
    clear hb p7 p8 p9 p10 xs xl xg HR
    rcases hR with ⟨hle, rfl, rfl, rfl⟩ | ⟨hgt, rfl, rfl, rfl⟩
    rotate_left
    · have i1 : 274877906944 - 64 * (ctr : Int) < (n : Int) := by omega
      go_wp2_with (go_at_call 23; refine (left_any ctr hct _).mono ?_; rintro e w' ⟨rfl, rfl⟩)
      go_ret
      exact ⟨rfl, below_chain Y3.out.2.2.1 Y5.out.1 Y3.out.2.2.1.size⟩
    · obtain ⟨L, hL⟩ : ∃ L, over key nonce (64 * ctr) zs = L := ⟨_, rfl⟩
      rw [hL] at Y5
      have HL : Hid (m ≤ vc ∧ L = over key nonce (64 * ctr) zs) := ⟨Y5.out.2.2.1, hL.symm⟩
      clear hL
      have HG : Hid ((∀ b o, 0 < m → ao = some ⟨b, o, none⟩ → b < g) ∧ (∀ b o, 0 < qn → qo = some ⟨b, o, none⟩ → b < g) ∧ (∀ b o, vo = some ⟨b, o, none⟩ → g < b) ∧ w.heap.size < g) := by
        have g1 := B2.out.2.2
        have g2 := Y3.out.2.2.2.2.1
        refine ⟨fun b o h0 e => ?_, fun b o h0 e => ?_, Y5.out.2.2.2, by omega⟩
        · obtain ⟨b', o', e', hb', _⟩ := HX.out.1.cells (by omega)
          rw [e] at e'; cases e'; omega
        · obtain ⟨b', o', z', e', hb', _⟩ := HX.out.2.2.2.cells 0 (by omega)
          rw [e] at e'; cases e'; omega
      have GS : Hid (Goes w wx wx g key nonce ctr 0 ao m zs qo qn vo L) := by
        have l := Y5.out.1
        exact ⟨Y3.out.1.later l Y3.out.1.blk.lt, Y3.out.2.1.later l Y3.out.2.1.blk.lt, Y3.out.2.2.2.2.2.2.1.later l (Nat.le_refl _), Y3.out.2.2.2.2.2.2.2.later l (Nat.le_refl _), Y5.out.2.1, Kept.refl _ _⟩
      have BW : Hid (Below w.heap.size w wx) := below_chain Y3.out.2.2.1 Y5.out.1 Y3.out.2.2.1.size
      clear c5 v1
      go_wp2_with fail
      go_loopw [10, 11] (fun at_ i wr => ∃ a k : Nat, a ≤ m ∧ k ≤ qn + 1 ∧ at_ = .int .i64 a ∧ i = .int .i64 k ∧ Goes w wx wr g key nonce ctr a ao m zs qo qn vo L) (fun _ i _ => qn + 1 - (intOf i).toNat)
      case atStart => exact ⟨0, 0, by omega, by omega, rfl, rfl, GS.out⟩
      case round =>
        obtain ⟨a, k, ha, hk, rfl, rfl, G0⟩ := hrel
        have G : Hid (Goes w wx wr g key nonce ctr a ao m zs qo qn vo L) := G0
        clear G0 GS
        by_cases hkq : k ≤ qn
        · have i2 : (k : Int) ≤ (qn : Int) := by omega
          by_cases ham : a < m
          · have i3 : (a : Int) < (m : Int) := by omega
            obtain ⟨d, hd⟩ : ∃ d : Nat, (m : Int) - (a : Int) = (d : Int) := ⟨m - a, by omega⟩
            by_cases hkl : k < qn
            · have i5 : (k : Int) < (qn : Int) := by omega
              obtain ⟨b, o, z, rfl, hbl, hcz, hz1, hz2⟩ := G.out.nums.cells k hkl
              obtain ⟨y, hy, hy1, hy2⟩ := tmod_bd z (d + 1) (by omega)
              rw [show ((d + 1 : Nat) : Int) = (d : Int) + 1 by omega] at hy hy1 hy2
              have hne : (d : Int) + 1 ≠ 0 := by omega
              have hyv : Value.int .i64 (wrap64 y) = Value.int .i64 y := by congr 1; unfold wrap64; omega
              by_cases hneg : y < 0
              · obtain ⟨r, hr⟩ : ∃ r : Nat, -y = (r : Int) := ⟨(-y).toNat, by omega⟩
                have hrd : a + r ≤ m := by omega
                go_wp2_with (go_at_call 24; refine (skip_ok g key nonce (64 * ctr + a) r (by omega) _ G.out.st).mono ?_; rintro e w6 ⟨rfl, st6, k6⟩; have G6 : Hid (Goes w wx w6 g key nonce ctr (a + r) ao m zs (some ⟨b, o, none⟩) qn vo L) := G.out.go HG.out.1 HG.out.2.1 HG.out.2.2.1 HG.out.2.2.2 k6 (by rw [← Nat.add_assoc]; exact st6); clear st6 k6)
                clear hd hy hy1 hy2 hr hyv hneg hne hcz hbl
                have he : Hid (Value.int .u64 ((64 * ctr + (a + r) : Nat) : Int) = Value.int .u64 (64 * (ctr : Int) + ((a : Int) + (r : Int)))) := by rw [show ((64 * ctr + (a + r) : Nat) : Int) = (64 * (ctr : Int) + ((a : Int) + (r : Int))) by omega]; exact rfl
                have u1 : IntKind.u64.wrap (ctr : Int) = (ctr : Int) := by simp only [IntKind.wrap, IntKind.bits, IntKind.signed]; simp; omega
                have u2 : IntKind.u64.wrap (64 * (ctr : Int)) = 64 * (ctr : Int) := by simp only [IntKind.wrap, IntKind.bits, IntKind.signed]; simp; omega
                have u3 : IntKind.u64.wrap ((a : Int) + (r : Int)) = (a : Int) + (r : Int) := by simp only [IntKind.wrap, IntKind.bits, IntKind.signed]; simp; omega
                have u4 : IntKind.u64.wrap (64 * (ctr : Int) + ((a : Int) + (r : Int))) = (64 * (ctr : Int) + ((a : Int) + (r : Int))) := by simp only [IntKind.wrap, IntKind.bits, IntKind.signed]; simp; omega
                refine region_invT [.val (.pointer (some ⟨g, 0, none⟩)), .val (.int .u64 (64 * (ctr : Int) + ((a : Int) + (r : Int)))), .val (.pointer (some ⟨w.heap.size, 44, none⟩)), .val (.int .u32 (ctr : Int)), .val (.int .u64 (ctr : Int)), .val (.int .u64 (64 * (ctr : Int))), .val (.int .i64 ((a : Int) + (r : Int))), .val (.int .u64 ((a : Int) + (r : Int))), .val (.int .u64 (64 * (ctr : Int) + ((a : Int) + (r : Int))))] (by kernel_rfl) (by kernel_rfl) (by kernel_rfl) ?_ ?_
                · refine Steps'.cons ?_ (Steps'.cons ?_ (Steps'.cons ?_ (Steps'.cons ?_ (Steps'.cons ?_ (Steps'.cons ?_ (Steps'.cons ?_ (Steps'.cons ?_ (Steps'.cons ?_ (Steps'.one _ _ _ _ _ _ _)))))))))
                  · intro ax wz hb hs hd
                    have h7 : ax.tmps.getD 7 undef = (.pointer (some ⟨g, 0, none⟩)) := hs 7 (by kernel_rfl)
                    refine Does.value (.pointer (some ⟨g, 0, none⟩)) ?_ rfl
                    go_simp
                  · intro ax wz hb hs hd
                    have h121 : ax.tmps.getD 121 undef = (.pointer (some ⟨g, 0, none⟩)) := hd 0 121 rfl (by kernel_rfl) (by decide)
                    refine Does.call 13 #[.pointer (some ⟨g, 0, none⟩)] (by go_simp) ?_
                    refine (at_any g key nonce (64 * ctr + (a + r)) wz (G6.out.st.later hb G6.out.st.blk.lt)).mono ?_
                    rintro e w' ⟨rfl, rfl⟩
                    exact ⟨_, rfl, he.out, Below.refl _ _⟩
                  · intro ax wz hb hs hd
                    have h3 : ax.tmps.getD 3 undef = (.pointer (some ⟨w.heap.size, 0, none⟩)) := hs 3 (by kernel_rfl)
                    refine Does.value _ ?_ rfl
                    go_simp
                  · intro ax wz hb hs hd
                    have h123 : ax.tmps.getD 123 undef = (.pointer (some ⟨w.heap.size, 44, none⟩)) := hd 2 123 rfl (by kernel_rfl) (by decide)
                    have cx := (G6.out.bg.later hb G6.out.bg.blk.lt).ctr
                    refine Does.value _ ?_ rfl
                    go_simp
                  · intro ax wz hb hs hd
                    have h124 : ax.tmps.getD 124 undef = (.int .u32 (ctr : Int)) := hd 3 124 rfl (by kernel_rfl) (by decide)
                    refine Does.value _ ?_ rfl
                    go_simp
                  · intro ax wz hb hs hd
                    have h125 : ax.tmps.getD 125 undef = (.int .u64 (ctr : Int)) := hd 4 125 rfl (by kernel_rfl) (by decide)
                    refine Does.value _ ?_ rfl
                    go_simp
                  · intro ax wz hb hs hd
                    have h10 : ax.tmps.getD 10 undef = (.int .i64 ((a : Int) + (r : Int))) := hs 10 (by kernel_rfl)
                    refine Does.value (.int .i64 ((a : Int) + (r : Int))) ?_ rfl
                    go_simp
                  · intro ax wz hb hs hd
                    have h127 : ax.tmps.getD 127 undef = (.int .i64 ((a : Int) + (r : Int))) := hd 6 127 rfl (by kernel_rfl) (by decide)
                    refine Does.value _ ?_ rfl
                    go_simp
                  · intro ax wz hb hs hd
                    have h126 : ax.tmps.getD 126 undef = (.int .u64 (64 * (ctr : Int))) := hd 5 126 rfl (by kernel_rfl) (by decide)
                    have h128 : ax.tmps.getD 128 undef = (.int .u64 ((a : Int) + (r : Int))) := hd 7 128 rfl (by kernel_rfl) (by decide)
                    refine Does.value _ ?_ rfl
                    go_simp
                · intro wz hb
                  refine @Ends.val _ _ _ _ _ _ _ _ _ (.pointer (some ⟨g, 0, none⟩)) rfl ?_
                  refine @Ends.val _ _ _ _ _ _ _ _ _ (.int .u64 (64 * (ctr : Int) + ((a : Int) + (r : Int)))) rfl ?_
                  refine @Ends.val _ _ _ _ _ _ _ _ _ (.pointer (some ⟨w.heap.size, 44, none⟩)) rfl ?_
                  refine @Ends.val _ _ _ _ _ _ _ _ _ (.int .u32 (ctr : Int)) rfl ?_
                  refine @Ends.val _ _ _ _ _ _ _ _ _ (.int .u64 (ctr : Int)) rfl ?_
                  refine @Ends.val _ _ _ _ _ _ _ _ _ (.int .u64 (64 * (ctr : Int))) rfl ?_
                  refine @Ends.val _ _ _ _ _ _ _ _ _ (.int .i64 ((a : Int) + (r : Int))) rfl ?_
                  refine @Ends.val _ _ _ _ _ _ _ _ _ (.int .u64 ((a : Int) + (r : Int))) rfl ?_
                  refine @Ends.val _ _ _ _ _ _ _ _ _ (.int .u64 (64 * (ctr : Int) + ((a : Int) + (r : Int)))) rfl ?_
                  refine @Ends.one _ _ _ _ _ _ _ ?_
                  simp only [Act.put, List.setIfInBounds_toArray, List.set_cons_zero, List.set_cons_succ]
                  refine last_val (some 130) rfl (.bool false) (by go_simp) ?_
                  simp only [Act.put, List.setIfInBounds_toArray, List.set_cons_zero, List.set_cons_succ]
                  have G9 : Hid (Goes w wx wz g key nonce ctr (a + r) ao m zs (some ⟨b, o, none⟩) qn vo L) := G6.out.go HG.out.1 HG.out.2.1 HG.out.2.2.1 HG.out.2.2.2 (Kept.new _ hb) (G6.out.st.later hb G6.out.st.blk.lt)
                  clear hb
                  go_wp2_with fail
                  exact ⟨⟨a + r, k + 1, by omega, by omega, by go_num, by go_num, G9.out⟩, by simp [intOf] <;> omega⟩
              · obtain ⟨r, rfl⟩ : ∃ r : Nat, y = (r : Int) := ⟨y.toNat, by omega⟩
                have hrd : a + r ≤ m := by omega
                have hsl : ∀ W, (Instr.sliceAt 44 (.slice ao m c) (some (.int .i64 (a : Int))) (some (.int .i64 ((a : Int) + (r : Int)))) none).run Try.prog W = .ok (.slice (subA ao a c) r (c - a)) W := fun W => by
                  have := sl_lh ao m c a (a + r) (by omega) (by have := HX.out.2.2.1; omega) W
                  rw [show a + r - a = r by omega] at this
                  simpa using this
                have hsw : ∀ W, (Instr.sliceAt 44 (.slice vo m vc) (some (.int .i64 (a : Int))) (some (.int .i64 ((a : Int) + (r : Int)))) none).run Try.prog W = .ok (.slice (subA vo a vc) r (vc - a)) W := fun W => by
                  have := sl_lh vo m vc a (a + r) (by omega) (by have := HL.out.1; omega) W
                  rw [show a + r - a = r by omega] at this
                  simpa using this
                have SP : Hid (Seen wr (subA ao a c) r ((zs.drop a).take r)) := by
                  have := G.out.txt.sub a (a + r) c (by omega) (by omega) HX.out.2.2.1
                  rw [show a + r - a = r by omega] at this
                  exact this
                obtain ⟨Z, hZ⟩ : ∃ Z, (zs.drop a).take r = Z := ⟨_, rfl⟩
                rw [hZ] at SP
                have HZ : Hid ((L.drop a).take r = over key nonce (64 * ctr + a) Z) := by
                  rw [HL.out.2, ← hZ]; exact over_piece key nonce (64 * ctr) a r zs (by have := G.out.txt.len; omega)
                clear hZ
                go_wp2_with (first | (go_at_call 21; refine (copied_any (subA ao a c) r (c - a) Z _ SP.out (sub_none HX.out.2.1)).mono ?_; rintro e w6 ⟨v, rfl, o6, l6⟩; obtain ⟨p6, c6, rfl, s6, _⟩ := own_seen SP.out.len SP.out.bytes SP.out.top o6; have X6 : Hid (Seen w6 p6 r Z ∧ Below wr.heap.size wr w6) := ⟨s6, l6⟩; clear s6 l6 o6) | (go_at_call 25; refine (sxor_any g key nonce (64 * ctr + a) r c6 p6 Z (by omega) _ (G.out.st.later X6.out.2 G.out.st.blk.lt) X6.out.1).mono ?_; rintro e w7 ⟨v, rfl, o7, st7, k7⟩; obtain ⟨p7, c7, rfl, s7, _⟩ := own_seen ((over_length _ _ _ _).trans SP.out.len) (over_bytes _ _ _ _ SP.out.bytes) SP.out.top o7; have G7 : Hid (Goes w wx w7 g key nonce ctr (a + r) ao m zs (some ⟨b, o, none⟩) qn vo L ∧ Seen w7 p7 r (over key nonce (64 * ctr + a) Z)) := ⟨G.out.go HG.out.1 HG.out.2.1 HG.out.2.2.1 HG.out.2.2.2 ((Kept.new _ X6.out.2).trans k7) (by rw [← Nat.add_assoc]; exact st7), s7⟩; clear o7 st7 k7 s7) | (go_at_call 18; (have q2 := G7.out.1.whole.sub a (a + r) vc (by omega) (by omega) HL.out.1); rw [show a + r - a = r by omega, HZ.out] at q2; refine (same_yes _ _ r r _ _ _ _ G7.out.2 q2).mono ?_; rintro e w8 ⟨rfl, q, hw8⟩; have G8 : Hid (Goes w wx w8 g key nonce ctr (a + r) ao m zs (some ⟨b, o, none⟩) qn vo L) := (by rw [hw8]; exact G7.out.1.go HG.out.1 HG.out.2.1 HG.out.2.2.1 HG.out.2.2.2 ((Kept.refl _ _).drewN q) (G7.out.1.st.later (below_dn (Below.refl _ _) q) G7.out.1.st.blk.lt)); clear hw8 q2))
                clear hd hy hy1 hy2 hyv hneg hne hcz hbl
                have he : Hid (Value.int .u64 ((64 * ctr + (a + r) : Nat) : Int) = Value.int .u64 (64 * (ctr : Int) + ((a : Int) + (r : Int)))) := by rw [show ((64 * ctr + (a + r) : Nat) : Int) = (64 * (ctr : Int) + ((a : Int) + (r : Int))) by omega]; exact rfl
                have u1 : IntKind.u64.wrap (ctr : Int) = (ctr : Int) := by simp only [IntKind.wrap, IntKind.bits, IntKind.signed]; simp; omega
                have u2 : IntKind.u64.wrap (64 * (ctr : Int)) = 64 * (ctr : Int) := by simp only [IntKind.wrap, IntKind.bits, IntKind.signed]; simp; omega
                have u3 : IntKind.u64.wrap ((a : Int) + (r : Int)) = (a : Int) + (r : Int) := by simp only [IntKind.wrap, IntKind.bits, IntKind.signed]; simp; omega
                have u4 : IntKind.u64.wrap (64 * (ctr : Int) + ((a : Int) + (r : Int))) = (64 * (ctr : Int) + ((a : Int) + (r : Int))) := by simp only [IntKind.wrap, IntKind.bits, IntKind.signed]; simp; omega
                refine region_invT [.val (.pointer (some ⟨g, 0, none⟩)), .val (.int .u64 (64 * (ctr : Int) + ((a : Int) + (r : Int)))), .val (.pointer (some ⟨w.heap.size, 44, none⟩)), .val (.int .u32 (ctr : Int)), .val (.int .u64 (ctr : Int)), .val (.int .u64 (64 * (ctr : Int))), .val (.int .i64 ((a : Int) + (r : Int))), .val (.int .u64 ((a : Int) + (r : Int))), .val (.int .u64 (64 * (ctr : Int) + ((a : Int) + (r : Int))))] (by kernel_rfl) (by kernel_rfl) (by kernel_rfl) ?_ ?_
                · refine Steps'.cons ?_ (Steps'.cons ?_ (Steps'.cons ?_ (Steps'.cons ?_ (Steps'.cons ?_ (Steps'.cons ?_ (Steps'.cons ?_ (Steps'.cons ?_ (Steps'.cons ?_ (Steps'.one _ _ _ _ _ _ _)))))))))
                  · intro ax wz hb hs hd
                    have h7 : ax.tmps.getD 7 undef = (.pointer (some ⟨g, 0, none⟩)) := hs 7 (by kernel_rfl)
                    refine Does.value (.pointer (some ⟨g, 0, none⟩)) ?_ rfl
                    go_simp
                  · intro ax wz hb hs hd
                    have h121 : ax.tmps.getD 121 undef = (.pointer (some ⟨g, 0, none⟩)) := hd 0 121 rfl (by kernel_rfl) (by decide)
                    refine Does.call 13 #[.pointer (some ⟨g, 0, none⟩)] (by go_simp) ?_
                    refine (at_any g key nonce (64 * ctr + (a + r)) wz (G8.out.st.later hb G8.out.st.blk.lt)).mono ?_
                    rintro e w' ⟨rfl, rfl⟩
                    exact ⟨_, rfl, he.out, Below.refl _ _⟩
                  · intro ax wz hb hs hd
                    have h3 : ax.tmps.getD 3 undef = (.pointer (some ⟨w.heap.size, 0, none⟩)) := hs 3 (by kernel_rfl)
                    refine Does.value _ ?_ rfl
                    go_simp
                  · intro ax wz hb hs hd
                    have h123 : ax.tmps.getD 123 undef = (.pointer (some ⟨w.heap.size, 44, none⟩)) := hd 2 123 rfl (by kernel_rfl) (by decide)
                    have cx := (G8.out.bg.later hb G8.out.bg.blk.lt).ctr
                    refine Does.value _ ?_ rfl
                    go_simp
                  · intro ax wz hb hs hd
                    have h124 : ax.tmps.getD 124 undef = (.int .u32 (ctr : Int)) := hd 3 124 rfl (by kernel_rfl) (by decide)
                    refine Does.value _ ?_ rfl
                    go_simp
                  · intro ax wz hb hs hd
                    have h125 : ax.tmps.getD 125 undef = (.int .u64 (ctr : Int)) := hd 4 125 rfl (by kernel_rfl) (by decide)
                    refine Does.value _ ?_ rfl
                    go_simp
                  · intro ax wz hb hs hd
                    have h10 : ax.tmps.getD 10 undef = (.int .i64 ((a : Int) + (r : Int))) := hs 10 (by kernel_rfl)
                    refine Does.value (.int .i64 ((a : Int) + (r : Int))) ?_ rfl
                    go_simp
                  · intro ax wz hb hs hd
                    have h127 : ax.tmps.getD 127 undef = (.int .i64 ((a : Int) + (r : Int))) := hd 6 127 rfl (by kernel_rfl) (by decide)
                    refine Does.value _ ?_ rfl
                    go_simp
                  · intro ax wz hb hs hd
                    have h126 : ax.tmps.getD 126 undef = (.int .u64 (64 * (ctr : Int))) := hd 5 126 rfl (by kernel_rfl) (by decide)
                    have h128 : ax.tmps.getD 128 undef = (.int .u64 ((a : Int) + (r : Int))) := hd 7 128 rfl (by kernel_rfl) (by decide)
                    refine Does.value _ ?_ rfl
                    go_simp
                · intro wz hb
                  refine @Ends.val _ _ _ _ _ _ _ _ _ (.pointer (some ⟨g, 0, none⟩)) rfl ?_
                  refine @Ends.val _ _ _ _ _ _ _ _ _ (.int .u64 (64 * (ctr : Int) + ((a : Int) + (r : Int)))) rfl ?_
                  refine @Ends.val _ _ _ _ _ _ _ _ _ (.pointer (some ⟨w.heap.size, 44, none⟩)) rfl ?_
                  refine @Ends.val _ _ _ _ _ _ _ _ _ (.int .u32 (ctr : Int)) rfl ?_
                  refine @Ends.val _ _ _ _ _ _ _ _ _ (.int .u64 (ctr : Int)) rfl ?_
                  refine @Ends.val _ _ _ _ _ _ _ _ _ (.int .u64 (64 * (ctr : Int))) rfl ?_
                  refine @Ends.val _ _ _ _ _ _ _ _ _ (.int .i64 ((a : Int) + (r : Int))) rfl ?_
                  refine @Ends.val _ _ _ _ _ _ _ _ _ (.int .u64 ((a : Int) + (r : Int))) rfl ?_
                  refine @Ends.val _ _ _ _ _ _ _ _ _ (.int .u64 (64 * (ctr : Int) + ((a : Int) + (r : Int)))) rfl ?_
                  refine @Ends.one _ _ _ _ _ _ _ ?_
                  simp only [Act.put, List.setIfInBounds_toArray, List.set_cons_zero, List.set_cons_succ]
                  refine last_val (some 130) rfl (.bool false) (by go_simp) ?_
                  simp only [Act.put, List.setIfInBounds_toArray, List.set_cons_zero, List.set_cons_succ]
                  have G9 : Hid (Goes w wx wz g key nonce ctr (a + r) ao m zs (some ⟨b, o, none⟩) qn vo L) := G8.out.go HG.out.1 HG.out.2.1 HG.out.2.2.1 HG.out.2.2.2 (Kept.new _ hb) (G8.out.st.later hb G8.out.st.blk.lt)
                  clear hb
                  go_wp2_with fail
                  exact ⟨⟨a + r, k + 1, by omega, by omega, by go_num, by go_num, G9.out⟩, by simp [intOf] <;> omega⟩
            · obtain rfl : k = qn := by omega
              have i5 : ¬ (k : Int) < (k : Int) := by omega
              have hrd : a + d ≤ m := by omega
              have hsl : ∀ W, (Instr.sliceAt 44 (.slice ao m c) (some (.int .i64 (a : Int))) (some (.int .i64 ((a : Int) + (d : Int)))) none).run Try.prog W = .ok (.slice (subA ao a c) d (c - a)) W := fun W => by
                have := sl_lh ao m c a (a + d) (by omega) (by have := HX.out.2.2.1; omega) W
                rw [show a + d - a = d by omega] at this
                simpa using this
              have hsw : ∀ W, (Instr.sliceAt 44 (.slice vo m vc) (some (.int .i64 (a : Int))) (some (.int .i64 ((a : Int) + (d : Int)))) none).run Try.prog W = .ok (.slice (subA vo a vc) d (vc - a)) W := fun W => by
                have := sl_lh vo m vc a (a + d) (by omega) (by have := HL.out.1; omega) W
                rw [show a + d - a = d by omega] at this
                simpa using this
              have SP : Hid (Seen wr (subA ao a c) d ((zs.drop a).take d)) := by
                have := G.out.txt.sub a (a + d) c (by omega) (by omega) HX.out.2.2.1
                rw [show a + d - a = d by omega] at this
                exact this
              obtain ⟨Z, hZ⟩ : ∃ Z, (zs.drop a).take d = Z := ⟨_, rfl⟩
              rw [hZ] at SP
              have HZ : Hid ((L.drop a).take d = over key nonce (64 * ctr + a) Z) := by
                rw [HL.out.2, ← hZ]; exact over_piece key nonce (64 * ctr) a d zs (by have := G.out.txt.len; omega)
              clear hZ
              go_wp2_with (first | (go_at_call 21; refine (copied_any (subA ao a c) d (c - a) Z _ SP.out (sub_none HX.out.2.1)).mono ?_; rintro e w6 ⟨v, rfl, o6, l6⟩; obtain ⟨p6, c6, rfl, s6, _⟩ := own_seen SP.out.len SP.out.bytes SP.out.top o6; have X6 : Hid (Seen w6 p6 d Z ∧ Below wr.heap.size wr w6) := ⟨s6, l6⟩; clear s6 l6 o6) | (go_at_call 25; refine (sxor_any g key nonce (64 * ctr + a) d c6 p6 Z (by omega) _ (G.out.st.later X6.out.2 G.out.st.blk.lt) X6.out.1).mono ?_; rintro e w7 ⟨v, rfl, o7, st7, k7⟩; obtain ⟨p7, c7, rfl, s7, _⟩ := own_seen ((over_length _ _ _ _).trans SP.out.len) (over_bytes _ _ _ _ SP.out.bytes) SP.out.top o7; have G7 : Hid (Goes w wx w7 g key nonce ctr (a + d) ao m zs qo k vo L ∧ Seen w7 p7 d (over key nonce (64 * ctr + a) Z)) := ⟨G.out.go HG.out.1 HG.out.2.1 HG.out.2.2.1 HG.out.2.2.2 ((Kept.new _ X6.out.2).trans k7) (by rw [← Nat.add_assoc]; exact st7), s7⟩; clear o7 st7 k7 s7) | (go_at_call 18; (have q2 := G7.out.1.whole.sub a (a + d) vc (by omega) (by omega) HL.out.1); rw [show a + d - a = d by omega, HZ.out] at q2; refine (same_yes _ _ d d _ _ _ _ G7.out.2 q2).mono ?_; rintro e w8 ⟨rfl, q, hw8⟩; have G8 : Hid (Goes w wx w8 g key nonce ctr (a + d) ao m zs qo k vo L) := (by rw [hw8]; exact G7.out.1.go HG.out.1 HG.out.2.1 HG.out.2.2.1 HG.out.2.2.2 ((Kept.refl _ _).drewN q) (G7.out.1.st.later (below_dn (Below.refl _ _) q) G7.out.1.st.blk.lt)); clear hw8 q2))
              clear hd
              have he : Hid (Value.int .u64 ((64 * ctr + (a + d) : Nat) : Int) = Value.int .u64 (64 * (ctr : Int) + ((a : Int) + (d : Int)))) := by rw [show ((64 * ctr + (a + d) : Nat) : Int) = (64 * (ctr : Int) + ((a : Int) + (d : Int))) by omega]; exact rfl
              have u1 : IntKind.u64.wrap (ctr : Int) = (ctr : Int) := by simp only [IntKind.wrap, IntKind.bits, IntKind.signed]; simp; omega
              have u2 : IntKind.u64.wrap (64 * (ctr : Int)) = 64 * (ctr : Int) := by simp only [IntKind.wrap, IntKind.bits, IntKind.signed]; simp; omega
              have u3 : IntKind.u64.wrap ((a : Int) + (d : Int)) = (a : Int) + (d : Int) := by simp only [IntKind.wrap, IntKind.bits, IntKind.signed]; simp; omega
              have u4 : IntKind.u64.wrap (64 * (ctr : Int) + ((a : Int) + (d : Int))) = (64 * (ctr : Int) + ((a : Int) + (d : Int))) := by simp only [IntKind.wrap, IntKind.bits, IntKind.signed]; simp; omega
              refine region_invT [.val (.pointer (some ⟨g, 0, none⟩)), .val (.int .u64 (64 * (ctr : Int) + ((a : Int) + (d : Int)))), .val (.pointer (some ⟨w.heap.size, 44, none⟩)), .val (.int .u32 (ctr : Int)), .val (.int .u64 (ctr : Int)), .val (.int .u64 (64 * (ctr : Int))), .val (.int .i64 ((a : Int) + (d : Int))), .val (.int .u64 ((a : Int) + (d : Int))), .val (.int .u64 (64 * (ctr : Int) + ((a : Int) + (d : Int))))] (by kernel_rfl) (by kernel_rfl) (by kernel_rfl) ?_ ?_
              · refine Steps'.cons ?_ (Steps'.cons ?_ (Steps'.cons ?_ (Steps'.cons ?_ (Steps'.cons ?_ (Steps'.cons ?_ (Steps'.cons ?_ (Steps'.cons ?_ (Steps'.cons ?_ (Steps'.one _ _ _ _ _ _ _)))))))))
                · intro ax wz hb hs hd
                  have h7 : ax.tmps.getD 7 undef = (.pointer (some ⟨g, 0, none⟩)) := hs 7 (by kernel_rfl)
                  refine Does.value (.pointer (some ⟨g, 0, none⟩)) ?_ rfl
                  go_simp
                · intro ax wz hb hs hd
                  have h121 : ax.tmps.getD 121 undef = (.pointer (some ⟨g, 0, none⟩)) := hd 0 121 rfl (by kernel_rfl) (by decide)
                  refine Does.call 13 #[.pointer (some ⟨g, 0, none⟩)] (by go_simp) ?_
                  refine (at_any g key nonce (64 * ctr + (a + d)) wz (G8.out.st.later hb G8.out.st.blk.lt)).mono ?_
                  rintro e w' ⟨rfl, rfl⟩
                  exact ⟨_, rfl, he.out, Below.refl _ _⟩
                · intro ax wz hb hs hd
                  have h3 : ax.tmps.getD 3 undef = (.pointer (some ⟨w.heap.size, 0, none⟩)) := hs 3 (by kernel_rfl)
                  refine Does.value _ ?_ rfl
                  go_simp
                · intro ax wz hb hs hd
                  have h123 : ax.tmps.getD 123 undef = (.pointer (some ⟨w.heap.size, 44, none⟩)) := hd 2 123 rfl (by kernel_rfl) (by decide)
                  have cx := (G8.out.bg.later hb G8.out.bg.blk.lt).ctr
                  refine Does.value _ ?_ rfl
                  go_simp
                · intro ax wz hb hs hd
                  have h124 : ax.tmps.getD 124 undef = (.int .u32 (ctr : Int)) := hd 3 124 rfl (by kernel_rfl) (by decide)
                  refine Does.value _ ?_ rfl
                  go_simp
                · intro ax wz hb hs hd
                  have h125 : ax.tmps.getD 125 undef = (.int .u64 (ctr : Int)) := hd 4 125 rfl (by kernel_rfl) (by decide)
                  refine Does.value _ ?_ rfl
                  go_simp
                · intro ax wz hb hs hd
                  have h10 : ax.tmps.getD 10 undef = (.int .i64 ((a : Int) + (d : Int))) := hs 10 (by kernel_rfl)
                  refine Does.value (.int .i64 ((a : Int) + (d : Int))) ?_ rfl
                  go_simp
                · intro ax wz hb hs hd
                  have h127 : ax.tmps.getD 127 undef = (.int .i64 ((a : Int) + (d : Int))) := hd 6 127 rfl (by kernel_rfl) (by decide)
                  refine Does.value _ ?_ rfl
                  go_simp
                · intro ax wz hb hs hd
                  have h126 : ax.tmps.getD 126 undef = (.int .u64 (64 * (ctr : Int))) := hd 5 126 rfl (by kernel_rfl) (by decide)
                  have h128 : ax.tmps.getD 128 undef = (.int .u64 ((a : Int) + (d : Int))) := hd 7 128 rfl (by kernel_rfl) (by decide)
                  refine Does.value _ ?_ rfl
                  go_simp
              · intro wz hb
                refine @Ends.val _ _ _ _ _ _ _ _ _ (.pointer (some ⟨g, 0, none⟩)) rfl ?_
                refine @Ends.val _ _ _ _ _ _ _ _ _ (.int .u64 (64 * (ctr : Int) + ((a : Int) + (d : Int)))) rfl ?_
                refine @Ends.val _ _ _ _ _ _ _ _ _ (.pointer (some ⟨w.heap.size, 44, none⟩)) rfl ?_
                refine @Ends.val _ _ _ _ _ _ _ _ _ (.int .u32 (ctr : Int)) rfl ?_
                refine @Ends.val _ _ _ _ _ _ _ _ _ (.int .u64 (ctr : Int)) rfl ?_
                refine @Ends.val _ _ _ _ _ _ _ _ _ (.int .u64 (64 * (ctr : Int))) rfl ?_
                refine @Ends.val _ _ _ _ _ _ _ _ _ (.int .i64 ((a : Int) + (d : Int))) rfl ?_
                refine @Ends.val _ _ _ _ _ _ _ _ _ (.int .u64 ((a : Int) + (d : Int))) rfl ?_
                refine @Ends.val _ _ _ _ _ _ _ _ _ (.int .u64 (64 * (ctr : Int) + ((a : Int) + (d : Int)))) rfl ?_
                refine @Ends.one _ _ _ _ _ _ _ ?_
                simp only [Act.put, List.setIfInBounds_toArray, List.set_cons_zero, List.set_cons_succ]
                refine last_val (some 130) rfl (.bool false) (by go_simp) ?_
                simp only [Act.put, List.setIfInBounds_toArray, List.set_cons_zero, List.set_cons_succ]
                have G9 : Hid (Goes w wx wz g key nonce ctr (a + d) ao m zs qo k vo L) := G8.out.go HG.out.1 HG.out.2.1 HG.out.2.2.1 HG.out.2.2.2 (Kept.new _ hb) (G8.out.st.later hb G8.out.st.blk.lt)
                clear hb
                go_wp2_with fail
                exact ⟨⟨a + d, k + 1, by omega, by omega, by go_num, by go_num, G9.out⟩, by simp [intOf] <;> omega⟩
          · have i3 : ¬ (a : Int) < (m : Int) := by omega
            go_wp2_with fail
            go_ret
            exact ⟨rfl, below_kept BW.out G.out.kept BW.out.size (fun j hj => by have := HG.out.2.2.2; omega)⟩
        · have i2 : ¬ (k : Int) ≤ (qn : Int) := by omega
          go_wp2_with fail
          go_ret
          exact ⟨rfl, below_kept BW.out G.out.kept BW.out.size (fun j hj => by have := HG.out.2.2.2; omega)⟩
end Go.Proofs.Ytillphlgoacgdaa
