/- Layer host: a byte turned; what a read answers. -/
import Derived.Test.YtobcolpdkcppoaaHAgo
namespace Go.Proofs.Ytobcolpdkcppoaa
open Go.RowKit
set_option linter.unusedVariables false
set_option linter.unusedSimpArgs false

/-- A byte is turned. -/
def turnL (zs : List Int) (f : Fl) : List Int := if 0 ≤ f.b ∧ f.b < zs.length then zs.set f.b.toNat (bits .xor .u8 (zs.getD f.b.toNat 0) f.y) else zs
theorem turnL_length (zs : List Int) (f : Fl) : (turnL zs f).length = zs.length := by unfold turnL; split <;> simp
set_option maxRecDepth 20000 in
set_option maxHeartbeats 1000000 in
theorem turn_any (g : Nat) (zs : List Int) (f : Fl) (hf : f.Good) (hz : Bytes zs) (hl : zs.length ≤ 1048576) (w : World) (x : Blk w g 5 (u8s zs)) :
    Calls Try.prog 67 #[.slice (some ⟨g, 0, none⟩) zs.length zs.length, .agg (flC f).toArray] w fun e w' => e = .returned (.tuple #[]) ∧ Blk w' g 5 (u8s (turnL zs f)) ∧ Kept (fun k => k = g) w w' := by
  have X : Hid (Blk w g 5 (u8s zs)) := x
  have hg : g < w.heap.size := x.lt
  have hgw : w.heap.size ≠ g := by omega
  have hb3 := hf.2.2.2.1
  have hy := hf.2.2.2.2.1
  obtain ⟨n, hn⟩ : ∃ n, zs.length = n := ⟨_, rfl⟩
  rw [hn] at hl ⊢
  have HN : Hid (zs.length = n) := hn
  clear hn hf
  rcases (show f.b < 0 ∨ (n : Int) ≤ f.b ∧ 0 ≤ f.b ∨ (0 ≤ f.b ∧ f.b < (n : Int)) by omega) with h0 | ⟨h0, h1⟩ | ⟨h0, h1⟩
  · have HF : Hid (turnL zs f = zs) := if_neg (by omega)
    clear x
    go_enter Try.func67, Try.ntmps67
    go_wp2_with (first | (refine wpList_box_new rfl 55 _ rfl (flC f) rfl ?_; intro w1 b1 s1 l1; have c3 : w1.cell? ⟨w.heap.size, 3, none⟩ = some (.int .i64 f.b) := b1.cell 3))
    go_end0
    exact ⟨rfl, by rw [HF.out]; exact X.out.later l1 X.out.lt, Kept.new _ l1⟩
  · have HF : Hid (turnL zs f = zs) := if_neg (by have := HN.out; omega)
    clear x
    go_enter Try.func67, Try.ntmps67
    go_wp2_with (first | (refine wpList_box_new rfl 55 _ rfl (flC f) rfl ?_; intro w1 b1 s1 l1; have c3 : w1.cell? ⟨w.heap.size, 3, none⟩ = some (.int .i64 f.b) := b1.cell 3))
    go_end0
    exact ⟨rfl, by rw [HF.out]; exact X.out.later l1 X.out.lt, Kept.new _ l1⟩
  · obtain ⟨j, hj⟩ : ∃ j : Nat, f.b = (j : Int) := ⟨f.b.toNat, by omega⟩
    obtain ⟨z, hzz⟩ : ∃ z, zs.getD j 0 = z := ⟨_, rfl⟩
    have HF : Hid (turnL zs f = zs.set j (bits .xor .u8 z f.y)) := by
      have e : turnL zs f = zs.set f.b.toNat (bits .xor .u8 (zs.getD f.b.toNat 0) f.y) := if_pos ⟨h0, by have := HN.out; omega⟩
      rw [hj, Int.toNat_natCast, hzz] at e; exact e
    have cz : w.cell? ⟨g, j, none⟩ = some (.int .u8 z) := by rw [← hzz]; exact u8s_cell x j (by have := HN.out; omega)
    have fz : w.frozen? ⟨g, j, none⟩ = false := x.frozen j
    have bz := hz.at j (by have := HN.out; omega)
    rw [hzz] at bz
    clear x hzz
    have h1' : (j : Int) < (n : Int) := by omega
    have h0' : (0 : Int) ≤ (j : Int) := by omega
    have HJ : Hid (f.b = (j : Int)) := hj
    clear hj h0 h1 hb3
    go_enter Try.func67, Try.ntmps67
    go_wp2_with (first | (refine wpList_box_new rfl 55 _ rfl (flC f) rfl ?_; intro w1 b1 s1 l1; have c3 : w1.cell? ⟨w.heap.size, 3, none⟩ = some (.int .i64 j) := by { rw [b1.cell 3, ← HJ.out]; rfl }; have c4 : w1.cell? ⟨w.heap.size, 4, none⟩ = some (.int .u8 f.y) := b1.cell 4; have cz1 : w1.cell? ⟨g, j, none⟩ = some (.int .u8 z) := (l1.cell (p := ⟨g, j, none⟩) hg).trans cz; have fz1 : w1.frozen? ⟨g, j, none⟩ = false := (X.out.later l1 X.out.lt).frozen j))
    go_region_with (fail)
    all_goals
      go_end0
      have B2 := (X.out.later l1 X.out.lt).set j (.int .u8 (bits .xor .u8 z f.y))
      rw [u8s_set] at B2
      exact ⟨rfl, by rw [HF.out]; exact B2.drew, ((Kept.new (fun k => k = g) l1).setCell (p := ⟨g, j, none⟩) rfl _).drew⟩
def spL (s : HSt) (p : Nat) (z : List Int) (f : Fl) : List Int :=
  if f.k = 0 then turnL z f else if f.k = 1 then agoL s p f.c else if f.k = 2 ∧ hasP s f.p then agoL s f.p.toNat 0 else z
/-- What a read answers under these faults. -/
def spoL (s : HSt) (p : Nat) (fs : List Fl) : List Int := fs.foldl (spL s p) (agoL s p 0)
theorem spL_length {s : HSt} (g : s.Good) (p : Nat) (z : List Int) (f : Fl) (h : z.length = s.size) : (spL s p z f).length = s.size := by
  unfold spL
  split
  · rw [turnL_length, h]
  · split
    · exact agoL_length g _ _
    · split
      · exact agoL_length g _ _
      · exact h
theorem spoL_take {s : HSt} (p : Nat) (fs : List Fl) (k : Nat) (hk : k < fs.length) : spoL s p (fs.take (k + 1)) = spL s p (spoL s p (fs.take k)) (fs.getD k default) := by
  unfold spoL
  rw [List.take_succ_eq_append_getElem hk, List.foldl_append]
  simp [List.getD, hk]
theorem spoL_length {s : HSt} (g : s.Good) (p : Nat) (fs : List Fl) : (spoL s p fs).length = s.size := by
  unfold spoL
  have : ∀ (l : List Fl) (z : List Int), z.length = s.size → (l.foldl (spL s p) z).length = s.size := by
    intro l
    induction l with
    | nil => intro z hz; exact hz
    | cons f l ih => intro z hz; exact ih _ (spL_length g p z f hz)
  exact this fs _ (agoL_length g p 0)
theorem xor8 (x y : Int) (hx : 0 ≤ x ∧ x < 256) (hy : 0 ≤ y ∧ y < 256) : 0 ≤ bits .xor .u8 x y ∧ bits .xor .u8 x y < 256 := by
  have h1 : x.toNat ^^^ y.toNat < 2 ^ 8 := Nat.xor_lt_two_pow (by omega) (by omega)
  rw [u8_xor x y hx.1 hx.2 hy.1 hy.2]
  omega
theorem turnL_bytes {z : List Int} {f : Fl} (hz : Bytes z) (hf : f.Good) : Bytes (turnL z f) := by
  unfold turnL
  split
  · next h =>
    intro y hy
    rcases List.mem_or_eq_of_mem_set hy with h1 | rfl
    · exact hz y h1
    · exact xor8 _ _ (hz.at _ (by omega)) hf.2.2.2.2.1
  · exact hz
theorem spL_bytes {w : World} {M : Nat → Prop} {h : Nat} {s : HSt} (x : HostAt w M h s) {p : Nat} (hp : p < s.pages) {z : List Int} {f : Fl} (hz : Bytes z) (hf : f.Good) : Bytes (spL s p z f) := by
  unfold spL
  split
  · exact turnL_bytes hz hf
  · split
    · exact agoL_bytes x p hp _
    · split
      · next h => exact agoL_bytes x _ (by have := h.2; simp [hasP] at this; omega) _
      · exact hz
set_option maxRecDepth 20000 in
set_option maxHeartbeats 2000000 in
theorem spoilt_any (h : Nat) (s : HSt) (p : Nat) (hp : p < s.pages) (v : Value) (fs : List Fl) (M : Nat → Prop) (w : World) (x : HostAt w M h s) (y : FlS w M v fs) :
    Calls Try.prog 52 #[.pointer (some ⟨h, 0, none⟩), .int .i64 p, v] w fun e w' => ∃ v, e = .returned v ∧ NewB w w' v (spoL s p fs) ∧ Below w.heap.size w w' := by
  obtain ⟨ao, c, rfl, hx⟩ := y.ex
  have G : Hid s.Good := by obtain ⟨_, _, _, _, _, _, x⟩ := x; exact x.good
  have X : Hid (HostAt w M h s ∧ FlS w M (.slice ao fs.length c) fs ∧ p < s.pages) := ⟨x, y, hp⟩
  have HX : Hid (∀ i, i < fs.length → ∃ b o, ao = some ⟨b, o, none⟩ ∧ b < w.heap.size ∧ M b ∧ w.rangeAt b (o + i * 6) (flC (fs.getD i default))) := hx
  have ht := y.top
  have CA : Hid (∀ (W : World), Below w.heap.size w W → ∀ (q : Nat) (b : Int), q < s.pages → I64 b → Calls Try.prog 48 #[.pointer (some ⟨h, 0, none⟩), .int .i64 q, .int .i64 b] W fun e w' => ∃ v, e = .returned v ∧ NewB W w' v (agoL s q b) ∧ Below W.heap.size W w') :=
    fun W hW q b hq hb => ago_any h s q b hq hb M W (X.out.1.later hW)
  have CH : Hid (∀ (W : World), Below w.heap.size w W → ∀ (q : Int), Calls Try.prog 64 #[.pointer (some ⟨h, 0, none⟩), .int .i64 q] W fun e w' => e = .returned (.bool (hasP s q)) ∧ W = w') :=
    fun W hW q => has_any h s q M W (X.out.1.later hW)
  have C0 := CA.out w (Below.refl _ _) p 0 hp (by decide)
  clear x y hx
  obtain ⟨n, hn⟩ : ∃ n, fs.length = n := ⟨_, rfl⟩
  rw [hn] at ht ⊢
  have HN : Hid (fs.length = n) := hn
  clear hn hp
  go_enter Try.func52, Try.ntmps52
  go_wp2_with (go_at_call 48; refine C0.mono ?_; rintro e w1 ⟨v1, rfl, n1, l1⟩)
  go_loopw [7, 15] (fun b i wr => ∃ k : Nat, k ≤ n ∧ i = .int .i64 k ∧ Below w.heap.size w wr ∧ NewB w wr b (spoL s p (fs.take k))) (fun _ i _ => n - (intOf i).toNat)
  case atStart => exact ⟨0, Nat.zero_le _, rfl, l1, n1⟩
  case round =>
    obtain ⟨k, hk, rfl, hbel, hnb⟩ := hrel
    obtain ⟨g, rfl, hbk, hgw, hby⟩ := hnb
    have hlz := spoL_length G.out p (fs.take k)
    rw [hlz]
    obtain ⟨zs, hzs⟩ : ∃ q, spoL s p (fs.take k) = q := ⟨_, rfl⟩
    rw [hzs] at hbk hby hlz
    obtain ⟨sz, hsz⟩ : ∃ q, s.size = q := ⟨_, rfl⟩
    rw [hsz] at hlz ⊢
    have hs4 : sz ≤ 4124 := by rw [← hsz]; exact G.out.size.2
    by_cases hlt : k < n
    · obtain ⟨b, o, rfl, hbl, _, hrg⟩ := HX.out k (by rw [HN.out]; exact hlt)
      have hlt' : k < fs.length := by rw [HN.out]; exact hlt
      obtain ⟨f, hf⟩ : ∃ f, fs.getD k default = f := ⟨_, rfl⟩
      rw [hf] at hrg
      have hg : f.Good := by rw [← hf]; exact Fl.good_at X.out.2.1.good k hlt'
      have hst : spoL s p (fs.take (k + 1)) = spL s p zs f := by rw [spoL_take p fs k hlt', hzs, hf]
      have HB : Hid (Below w.heap.size w wr ∧ wr.rangeAt b (o + k * 6) (flC f) ∧ Blk wr g 5 (u8s zs) ∧ w.heap.size ≤ g ∧ g < wr.heap.size ∧ Bytes zs ∧ f.Good ∧ spoL s p (fs.take (k + 1)) = spL s p zs f ∧ zs.length = sz ∧ s.size = sz) := ⟨hbel, rangeAt_same hrg (hbel.block b hbl), hbk, hgw, hbk.lt, hby, hg, hst, hlz, hsz⟩
      have HE : Hid (∀ (v : Value) (W W' : World), Below w.heap.size w W → NewB W W' v (spL s p zs f) → Below W.heap.size W W' → NewB w W' v (spoL s p (fs.take (k + 1))) ∧ Below w.heap.size w W') := fun v W W' h1 h2 h3 => by
        obtain ⟨q, e1, e2, e3, e4⟩ := h2
        exact ⟨⟨q, by rw [hst]; exact e1, by rw [hst]; exact e2, Nat.le_trans h1.size e3, by rw [hst]; exact e4⟩, below_chain h1 h3 h1.size⟩
      have i1 : (0 : Int) ≤ (k : Int) := by omega
      have i2 : (k : Int) < (n : Int) := by omega
      clear hbl hrg hf hg hst hbk hgw hby hlt' hbel hzs hlz hsz
      rcases (show f.k = 0 ∨ f.k = 1 ∨ (f.k = 2 ∧ hasP s f.p = true) ∨ (f.k = 2 ∧ hasP s f.p = false) ∨ (f.k ≠ 0 ∧ f.k ≠ 1 ∧ f.k ≠ 2) by
        cases hasP s f.p <;> simp <;> omega) with h0 | h0 | ⟨h0, h1⟩ | ⟨h0, h1⟩ | ⟨h0, h1, h2⟩
      · have q0 : (f.k == 0) = true := by simp [h0]
        have HF : Hid (spL s p zs f = turnL zs f) := if_pos h0
        clear h0
        go_wp2_with (first | (refine wpList_load_mid rfl 55 (.tmp 17) rfl b (o + k * 6) rfl (flC f) _ HB.out.2.1 Try.underlying55 rfl (sizeFl f) ?_) | (refine wpList_alloc_new rfl 55 rfl 6 _ zeroFl ?_; intro w4 b4 s4 l4) | (refine wpList_store_blk rfl 55 55 (.tmp 9) _ rfl _ rfl _ (flC f) rfl b4 rfl (sizeFl f) (flC_one f) ?_; intro w5 b5 s5 k5; have c1 : w5.cell? ⟨wr.heap.size, 1, none⟩ = some (.int .i64 f.k) := b5.cell 1) | (refine wpList_load_blk rfl 55 (.tmp 9) rfl _ rfl (flC f) _ b5 Try.underlying55 rfl (sizeFl f) ?_))
        have U5 : Hid (Below wr.heap.size wr w5) := below_kept l4 k5 (by omega) (fun j hj => by omega)
        have CT := turn_any g zs f HB.out.2.2.2.2.2.2.1 HB.out.2.2.2.2.2.1 (by rw [HB.out.2.2.2.2.2.2.2.2.1]; omega) w5 (HB.out.2.2.1.later U5.out HB.out.2.2.2.2.1)
        rw [HB.out.2.2.2.2.2.2.2.2.1] at CT
        refine CT.mono ?_
        rintro e w6 ⟨rfl, b6, k6⟩
        have R : Hid (NewB w w6 (.slice (some ⟨g, 0, none⟩) sz sz) (spoL s p (fs.take (k + 1))) ∧ Below w.heap.size w w6) := by
          refine ⟨⟨g, ?_, ?_, HB.out.2.2.2.1, ?_⟩, below_kept (below_chain HB.out.1 U5.out HB.out.1.size) k6 (by have := U5.out.size; have := HB.out.1.size; omega) (fun j hj => by have := HB.out.2.2.2.1; omega)⟩
          · rw [HB.out.2.2.2.2.2.2.2.1, HF.out, turnL_length, HB.out.2.2.2.2.2.2.2.2.1]
          · rw [HB.out.2.2.2.2.2.2.2.1, HF.out]; exact b6
          · rw [HB.out.2.2.2.2.2.2.2.1, HF.out]; exact turnL_bytes HB.out.2.2.2.2.2.1 HB.out.2.2.2.2.2.2.1
        clear b4 s4 l4 b5 s5 k5 c1 b6 k6 U5 CT
        go_wp2
        go_roundw
        case rel => exact ⟨k + 1, by omega, by go_num, R.out.2, R.out.1⟩
        case measure => simp [intOf] <;> omega
      · have q0 : (f.k == 0) = false := by simp [h0]
        have q1 : (f.k == 1) = true := by simp [h0]
        have HF : Hid (spL s p zs f = agoL s p f.c) := by
          have : spL s p zs f = agoL s p f.c := by unfold spL; rw [if_neg (by omega), if_pos h0]
          exact this
        clear h0
        go_wp2_with (first | (refine wpList_load_mid rfl 55 (.tmp 17) rfl b (o + k * 6) rfl (flC f) _ HB.out.2.1 Try.underlying55 rfl (sizeFl f) ?_) | (refine wpList_alloc_new rfl 55 rfl 6 _ zeroFl ?_; intro w4 b4 s4 l4) | (refine wpList_store_blk rfl 55 55 (.tmp 9) _ rfl _ rfl _ (flC f) rfl b4 rfl (sizeFl f) (flC_one f) ?_; intro w5 b5 s5 k5; have c1 : w5.cell? ⟨wr.heap.size, 1, none⟩ = some (.int .i64 f.k) := b5.cell 1; have c5 : w5.cell? ⟨wr.heap.size, 5, none⟩ = some (.int .i64 f.c) := b5.cell 5))
        have U5 : Hid (Below w.heap.size w w5) := below_chain HB.out.1 (below_kept l4 k5 (by omega) (fun j hj => by omega)) HB.out.1.size
        refine (CA.out w5 U5.out p f.c X.out.2.2 HB.out.2.2.2.2.2.2.1.2.2.2.2.2).mono ?_
        rintro e w6 ⟨v6, rfl, n6, l6⟩
        have R : Hid (NewB w w6 v6 (spoL s p (fs.take (k + 1))) ∧ Below w.heap.size w w6) := HE.out v6 w5 w6 U5.out (by rw [HF.out]; exact n6) l6
        clear c5
        clear b4 s4 l4 b5 s5 k5 c1 n6 l6 U5
        go_wp2
        go_roundw
        case rel => exact ⟨k + 1, by omega, by go_num, R.out.2, R.out.1⟩
        case measure => simp [intOf] <;> omega
      · have q0 : (f.k == 0) = false := by simp [h0]
        have q1 : (f.k == 1) = false := by simp [h0]
        have q2 : (f.k == 2) = true := by simp [h0]
        obtain ⟨q, hq⟩ : ∃ q : Nat, f.p = (q : Int) := ⟨f.p.toNat, by simp [hasP] at h1; omega⟩
        have HQ : Hid (f.p = (q : Int) ∧ q < s.pages) := ⟨hq, by simp [hasP] at h1; omega⟩
        have HF : Hid (spL s p zs f = agoL s q 0) := by
          have : spL s p zs f = agoL s q 0 := by unfold spL; rw [if_neg (by omega), if_neg (by omega), if_pos ⟨h0, h1⟩, hq, Int.toNat_natCast]
          exact this
        have C5 := fun W hW => CH.out W hW f.p
        rw [h1, hq] at C5
        clear h0 h1 hq
        go_wp2_with (first | (refine wpList_load_mid rfl 55 (.tmp 17) rfl b (o + k * 6) rfl (flC f) _ HB.out.2.1 Try.underlying55 rfl (sizeFl f) ?_) | (refine wpList_alloc_new rfl 55 rfl 6 _ zeroFl ?_; intro w4 b4 s4 l4) | (refine wpList_store_blk rfl 55 55 (.tmp 9) _ rfl _ rfl _ (flC f) rfl b4 rfl (sizeFl f) (flC_one f) ?_; intro w5 b5 s5 k5; have c1 : w5.cell? ⟨wr.heap.size, 1, none⟩ = some (.int .i64 f.k) := b5.cell 1; have c2 : w5.cell? ⟨wr.heap.size, 2, none⟩ = some (.int .i64 q) := by { rw [b5.cell 2, ← HQ.out.1]; rfl }) | (go_at_call 64; refine (C5 w5 (below_chain HB.out.1 (below_kept l4 k5 (by omega) (fun j hj => by omega)) HB.out.1.size)).mono ?_; rintro e _ ⟨rfl, rfl⟩))
        have U5 : Hid (Below w.heap.size w w5) := below_chain HB.out.1 (below_kept l4 k5 (by omega) (fun j hj => by omega)) HB.out.1.size
        refine (CA.out w5 U5.out q 0 HQ.out.2 (by decide)).mono ?_
        rintro e w6 ⟨v6, rfl, n6, l6⟩
        have R : Hid (NewB w w6 v6 (spoL s p (fs.take (k + 1))) ∧ Below w.heap.size w w6) := HE.out v6 w5 w6 U5.out (by rw [HF.out]; exact n6) l6
        clear c2
        clear b4 s4 l4 b5 s5 k5 c1 n6 l6 U5
        go_wp2
        go_roundw
        case rel => exact ⟨k + 1, by omega, by go_num, R.out.2, R.out.1⟩
        case measure => simp [intOf] <;> omega
      · have q0 : (f.k == 0) = false := by simp [h0]
        have q1 : (f.k == 1) = false := by simp [h0]
        have q2 : (f.k == 2) = true := by simp [h0]
        have HF : Hid (spL s p zs f = zs) := by
          have : spL s p zs f = zs := by unfold spL; rw [if_neg (by omega), if_neg (by omega), if_neg (by rw [h1]; simp)]
          exact this
        have C5 := fun W hW => CH.out W hW f.p
        rw [h1] at C5
        clear h0 h1
        go_wp2_with (first | (refine wpList_load_mid rfl 55 (.tmp 17) rfl b (o + k * 6) rfl (flC f) _ HB.out.2.1 Try.underlying55 rfl (sizeFl f) ?_) | (refine wpList_alloc_new rfl 55 rfl 6 _ zeroFl ?_; intro w4 b4 s4 l4) | (refine wpList_store_blk rfl 55 55 (.tmp 9) _ rfl _ rfl _ (flC f) rfl b4 rfl (sizeFl f) (flC_one f) ?_; intro w5 b5 s5 k5; have c1 : w5.cell? ⟨wr.heap.size, 1, none⟩ = some (.int .i64 f.k) := b5.cell 1; have c2 : w5.cell? ⟨wr.heap.size, 2, none⟩ = some (.int .i64 f.p) := b5.cell 2) | (go_at_call 64; refine (C5 w5 (below_chain HB.out.1 (below_kept l4 k5 (by omega) (fun j hj => by omega)) HB.out.1.size)).mono ?_; rintro e _ ⟨rfl, rfl⟩))
        have R : Hid (NewB w w5 (.slice (some ⟨g, 0, none⟩) sz sz) (spoL s p (fs.take (k + 1))) ∧ Below w.heap.size w w5) := by
          have U4 : Below wr.heap.size wr w5 := below_kept l4 k5 (by omega) (fun j hj => by omega)
          refine ⟨⟨g, ?_, ?_, HB.out.2.2.2.1, ?_⟩, below_chain HB.out.1 U4 HB.out.1.size⟩
          · rw [HB.out.2.2.2.2.2.2.2.1, HF.out, HB.out.2.2.2.2.2.2.2.2.1]
          · rw [HB.out.2.2.2.2.2.2.2.1, HF.out]; exact HB.out.2.2.1.later U4 HB.out.2.2.2.2.1
          · rw [HB.out.2.2.2.2.2.2.2.1, HF.out]; exact HB.out.2.2.2.2.2.1
        clear c2
        clear b4 s4 l4 b5 s5 k5 c1
        go_roundw
        case rel => exact ⟨k + 1, by omega, by go_num, R.out.2, R.out.1⟩
        case measure => simp [intOf] <;> omega
      · have q0 : (f.k == 0) = false := by simp [h0]
        have q1 : (f.k == 1) = false := by simp [h1]
        have q2 : (f.k == 2) = false := by simp [h2]
        have HF : Hid (spL s p zs f = zs) := by
          have : spL s p zs f = zs := by unfold spL; rw [if_neg h0, if_neg h1, if_neg (fun h => h2 h.1)]
          exact this
        clear h0 h1 h2
        go_wp2_with (first | (refine wpList_load_mid rfl 55 (.tmp 17) rfl b (o + k * 6) rfl (flC f) _ HB.out.2.1 Try.underlying55 rfl (sizeFl f) ?_) | (refine wpList_alloc_new rfl 55 rfl 6 _ zeroFl ?_; intro w4 b4 s4 l4) | (refine wpList_store_blk rfl 55 55 (.tmp 9) _ rfl _ rfl _ (flC f) rfl b4 rfl (sizeFl f) (flC_one f) ?_; intro w5 b5 s5 k5; have c1 : w5.cell? ⟨wr.heap.size, 1, none⟩ = some (.int .i64 f.k) := b5.cell 1))
        have R : Hid (NewB w w5 (.slice (some ⟨g, 0, none⟩) sz sz) (spoL s p (fs.take (k + 1))) ∧ Below w.heap.size w w5) := by
          have U4 : Below wr.heap.size wr w5 := below_kept l4 k5 (by omega) (fun j hj => by omega)
          refine ⟨⟨g, ?_, ?_, HB.out.2.2.2.1, ?_⟩, below_chain HB.out.1 U4 HB.out.1.size⟩
          · rw [HB.out.2.2.2.2.2.2.2.1, HF.out, HB.out.2.2.2.2.2.2.2.2.1]
          · rw [HB.out.2.2.2.2.2.2.2.1, HF.out]; exact HB.out.2.2.1.later U4 HB.out.2.2.2.2.1
          · rw [HB.out.2.2.2.2.2.2.2.1, HF.out]; exact HB.out.2.2.2.2.2.1
        clear b4 s4 l4 b5 s5 k5 c1
        go_roundw
        case rel => exact ⟨k + 1, by omega, by go_num, R.out.2, R.out.1⟩
        case measure => simp [intOf] <;> omega
    · obtain rfl : k = n := by omega
      have HF : Hid (spoL s p fs = zs ∧ Below w.heap.size w wr ∧ Blk wr g 5 (u8s zs) ∧ w.heap.size ≤ g ∧ Bytes zs ∧ zs.length = sz) := ⟨by
        rw [← hzs, List.take_of_length_le (by rw [HN.out]; exact Nat.le_refl _)], hbel, hbk, hgw, hby, hlz⟩
      clear hbel hzs hbk hgw hby hk hlz hsz
      go_wp2
      go_ret
      exact ⟨.slice (some ⟨g, 0, none⟩) sz sz, rfl, ⟨g, by rw [HF.out.1, HF.out.2.2.2.2.2], by rw [HF.out.1]; exact HF.out.2.2.1, HF.out.2.2.2.1, by rw [HF.out.1]; exact HF.out.2.2.2.2.1⟩, HF.out.2.1⟩
end Go.Proofs.Ytobcolpdkcppoaa
