/- Joined texts: PHead PSeal POpen REqb PSheet RSQuart. -/
import Derived.Test.YtcimiajkbgabiaaGreatZA
import Derived.Test.YtcimiajkbgabiaaGreatZE
import Derived.Test.YtcimiajkbgabiaaGreatZB
namespace Go.Proofs.YtcimiajkbgabiaaGreat
open Go.RowKit
set_option linter.unusedVariables false
set_option linter.unusedSimpArgs false

theorem pzNonce : (Tryz.prog.info? 45).map (fun i => (i.zero, i.size)) = some (some (.agg (u8s (List.replicate 12 0)).toArray), 12) := by kernel_rfl
def U32 (x : Int) : Prop := 0 ≤ x ∧ x < 4294967296
/-- A place's cells. -/
def placeC (r c p q : Int) : List Value := [.int .u64 r, .int .u32 c, .int .u32 p, .int .u32 q]
def hdL (r c : Int) : List Int := leB 8 r ++ leB 4 c
def moL (p q : Int) : List Int := leB 4 p ++ leB 4 q
theorem hdL_length (r c : Int) : (hdL r c).length = 12 := by rw [hdL, List.length_append, leB_length, leB_length]
theorem moL_length (r c : Int) : (moL r c).length = 8 := by rw [moL, List.length_append, leB_length, leB_length]
theorem bytes_app' {a b : List Int} (h : Bytes a) (k : Bytes b) : Bytes (a ++ b) := fun z hz => (List.mem_append.1 hz).elim (h z) (k z)
theorem hdL_bytes (r c : Int) : Bytes (hdL r c) := bytes_app' (leB_bytes _ _) (leB_bytes _ _)
theorem moL_bytes (r c : Int) : Bytes (moL r c) := bytes_app' (leB_bytes _ _) (leB_bytes _ _)
/-- A pointer to bytes of the call's own. -/
def isPn (H : List Int) (v : Value) (w : World) : Prop := ∃ g, v = .pointer (some ⟨g, 0, none⟩) ∧ RowAt w g H
theorem isPn_later (H : List Int) : ∀ v w w', Below w.heap.size w w' → isPn H v w → isPn H v w' := fun _ _ _ hb ⟨g, h1, h2⟩ => ⟨g, h1, h2.block (hb.block g h2.lt)⟩
theorem Does.arrayAt {base : Nat} {E : Exp} {ρ : Operand → Value} {o : Oper} {w : World} (t : TypeId) (x : Operand) (ho : o.op = .sliceToArrayPointer t x) (v u : Value) (hx : ρ x = v) (hrun : (Instr.arrayAt t v).run Tryz.prog w = .ok u w) (hE : E.ok base u w) : Does base E ρ o w := by
  refine Does.value u ?_ hE
  unfold execOp
  simp only [ho, hx, Sem.run_bind, hrun, Sem.run_pure, Result.andThen_ok]
theorem at12 (g cap : Nat) (w : World) : (Instr.arrayAt 45 (.slice (some ⟨g, 0, none⟩) 12 cap)).run Tryz.prog w = .ok (.pointer (some ⟨g, 0, none⟩)) w := by kernel_rfl
theorem own_row {w : World} {base n : Nat} {v : Value} {zs : List Int} (hl : zs.length = n) (hn : 0 < n) (h : isO base n zs v w) : ∃ g cap, v = .slice (some ⟨g, 0, none⟩) n cap ∧ RowAt w g zs ∧ base ≤ g := by
  subst hl
  rcases own_cases h with ⟨_, h0⟩ | ⟨g, cap, rfl, hr, hg, _⟩
  · rw [h0] at hn; cases hn
  · exact ⟨g, cap, rfl, hr, hg⟩
theorem range_row {w : World} {g : Nat} {zs : List Int} (h : RowAt w g zs) : w.rangeAt g 0 (u8s zs) := fun j u hj => by
  obtain ⟨hj', e⟩ := List.getElem?_eq_some_iff.1 hj
  rw [u8s_length] at hj'
  rw [Nat.zero_add, h.cell j hj', ← e]
  simp [u8s, List.getD, hj']
theorem put64_own (r : Int) (hr : Word r) (W : World) : Calls Tryz.prog 39 #[.slice none 0 0, .int .u64 r] W fun e w' => ∃ v, e = .returned v ∧ isO W.heap.size 8 (leB 8 r) v w' ∧ Below W.heap.size W w' := by
  have h := put_64 none 0 0 [] r W (Seen.empty _ _) (fun _ => rfl) (by decide) hr
  rwa [List.nil_append, Nat.zero_add] at h
theorem put32_own (r : Int) (hr : U32 r) (W : World) : Calls Tryz.prog 38 #[.slice none 0 0, .int .u32 r] W fun e w' => ∃ v, e = .returned v ∧ isO W.heap.size 4 (leB 4 r) v w' ∧ Below W.heap.size W w' := by
  have h := put_32 none 0 0 [] r W (Seen.empty _ _) (fun _ => rfl) (by decide) hr
  rwa [List.nil_append, Nat.zero_add] at h
theorem put32_on (v : Value) (B n : Nat) (zs : List Int) (hn : zs.length = n) (hb : Bytes zs) (ht : n ≤ 100) (r : Int) (hr : U32 r) (W : World) (o : isO B n zs v W) : Calls Tryz.prog 38 #[v, .int .u32 r] W fun e w' => ∃ v, e = .returned v ∧ isO W.heap.size (n + 4) (zs ++ leB 4 r) v w' ∧ Below W.heap.size W w' := by
  subst hn
  obtain ⟨vo, cap, rfl, h1, h2, h3, _⟩ := own_data hb (by omega) o
  exact put_32 vo _ cap zs r W h1 h3 (by omega) hr

set_option maxRecDepth 20000 in
set_option maxHeartbeats 1000000 in
theorem headOf_any (r c p q : Int) (hr : Word r) (hc : U32 c) (w : World) :
    Calls Tryz.prog 22 #[.agg (placeC r c p q).toArray] w fun e w' => e = .returned (.agg (u8s (hdL r c)).toArray) ∧ Below w.heap.size w w' := by
  have HR : Hid (Word r ∧ U32 c) := ⟨hr, hc⟩
  obtain ⟨H, hH⟩ : ∃ H, hdL r c = H := ⟨_, rfl⟩
  have HH : Hid (leB 8 r ++ leB 4 c = H ∧ H.length = 12) := ⟨hH, by rw [← hH]; exact hdL_length r c⟩
  rw [hH]
  clear hr hc hH
  go_enter Tryz.func22, Tryz.ntmps22
  go_wp2_with (first | (refine wpList_box_new rfl 27 _ rfl (placeC r c p q) rfl ?_; intro w1 b1 s1 l1) | (refine wpList_alloc_new rfl 45 rfl 12 _ pzNonce ?_; intro w2 b2 s2 l2))
  have V : Hid (Below w.heap.size w w2 ∧ Blk w2 w.heap.size 27 (placeC r c p q) ∧ Blk w2 w1.heap.size 45 (u8s (List.replicate 12 0)) ∧ w.heap.size ≤ w1.heap.size) := ⟨below_chain l1 l2 (by omega), b1.later l2 (by omega), b2, by omega⟩
  clear b1 s2 l1 b2 l2 s1
  refine region_inv [.val (.pointer (some ⟨w.heap.size, 0, none⟩)), .val (.int .u64 r), .any (isO w.heap.size 8 (leB 8 r)) (isO_later _ _ _), .val (.pointer (some ⟨w.heap.size, 1, none⟩)), .val (.int .u32 c), .any (isO w.heap.size 12 H) (isO_later _ _ _), .any (isPn H) (isPn_later H), .val (.agg (u8s H).toArray)] (by kernel_rfl) (by kernel_rfl) (by kernel_rfl) ?_ ?_
  · refine Steps'.cons ?_ (Steps'.cons ?_ (Steps'.cons ?_ (Steps'.cons ?_ (Steps'.cons ?_ (Steps'.cons ?_ (Steps'.cons ?_ (Steps'.cons ?_ (Steps'.one _ _ _ _ _ _ _))))))))
    · intro ax wx hb hs hd
      have h1 : ax.tmps.getD 1 undef = (.pointer (some ⟨w.heap.size, 0, none⟩)) := hs 1 (by kernel_rfl)
      refine Does.value (.pointer (some ⟨w.heap.size, 0, none⟩)) ?_ rfl
      clear hs hd
      go_simp
    · intro ax wx hb hs hd
      have h3 : ax.tmps.getD 3 undef = (.pointer (some ⟨w.heap.size, 0, none⟩)) := hd 0 3 rfl (by kernel_rfl) (by decide)
      have cx : wx.cell? ⟨w.heap.size, 0, none⟩ = some (.int .u64 r) := (V.out.2.1.later hb V.out.2.1.lt).cell 0
      refine Does.value (.int .u64 r) ?_ rfl
      clear hs hd
      go_simp
    · intro ax wx hb hs hd
      have h4 : ax.tmps.getD 4 undef = (.int .u64 r) := hd 1 4 rfl (by kernel_rfl) (by decide)
      refine Does.call 39 #[.slice none 0 0, .int .u64 r] (by clear hs hd; go_simp) ?_
      refine (put64_own r HR.out.1 wx).mono ?_
      rintro e w' ⟨v, rfl, o, l⟩
      exact ⟨_, rfl, ownsRow_base o (by have := hb.size; have := V.out.1.size; omega), l⟩
    · intro ax wx hb hs hd
      have h1 : ax.tmps.getD 1 undef = (.pointer (some ⟨w.heap.size, 0, none⟩)) := hs 1 (by kernel_rfl)
      refine Does.value (.pointer (some ⟨w.heap.size, 1, none⟩)) ?_ rfl
      clear hs hd
      go_simp
    · intro ax wx hb hs hd
      have h6 : ax.tmps.getD 6 undef = (.pointer (some ⟨w.heap.size, 1, none⟩)) := hd 3 6 rfl (by kernel_rfl) (by decide)
      have cx : wx.cell? ⟨w.heap.size, 1, none⟩ = some (.int .u32 c) := (V.out.2.1.later hb V.out.2.1.lt).cell 1
      refine Does.value (.int .u32 c) ?_ rfl
      clear hs hd
      go_simp
    · intro ax wx hb hs hd
      have h7 : ax.tmps.getD 7 undef = (.int .u32 c) := hd 4 7 rfl (by kernel_rfl) (by decide)
      have p5 : isO w.heap.size 8 (leB 8 r) (ax.tmps.getD 5 undef) wx := hd 2 5 rfl (by kernel_rfl) (by decide)
      obtain ⟨v5, h5⟩ : ∃ v, ax.tmps.getD 5 undef = v := ⟨_, rfl⟩
      rw [h5] at p5
      refine Does.call 38 #[v5, .int .u32 c] (by clear hs hd; go_simp) ?_
      refine (put32_on v5 _ 8 (leB 8 r) (leB_length _ _) (leB_bytes _ _) (by decide) c HR.out.2 wx p5).mono ?_
      rintro e w' ⟨v, rfl, o, l⟩
      rw [HH.out.1] at o
      exact ⟨_, rfl, ownsRow_base o (by have := hb.size; have := V.out.1.size; omega), l⟩
    · intro ax wx hb hs hd
      have p8 : isO w.heap.size 12 H (ax.tmps.getD 8 undef) wx := hd 5 8 rfl (by kernel_rfl) (by decide)
      obtain ⟨g, cap, h8, hrow, _⟩ := own_row HH.out.2 (by decide) p8
      exact Does.arrayAt 45 (.tmp 8) rfl _ _ h8 (at12 g cap wx) ⟨g, rfl, hrow⟩
    · intro ax wx hb hs hd
      obtain ⟨g, h9, hrow⟩ : isPn H (ax.tmps.getD 9 undef) wx := hd 6 9 rfl (by kernel_rfl) (by decide)
      exact Does.load 45 (.tmp 9) rfl g 0 h9 (u8s H) _ (range_row hrow) Tryz.underlying45 rfl (by rw [u8s_length, HH.out.2]; exact sizeNonce)
  · intro wx hb
    refine @Ends.val _ _ _ _ _ _ _ _ _ (.pointer (some ⟨w.heap.size, 0, none⟩)) rfl ?_
    refine @Ends.val _ _ _ _ _ _ _ _ _ (.int .u64 r) rfl ?_
    refine @Ends.any _ _ _ _ _ _ _ _ _ (isO w.heap.size 8 (leB 8 r)) (isO_later _ _ _) rfl ?_
    intro v2 p2
    refine @Ends.val _ _ _ _ _ _ _ _ _ (.pointer (some ⟨w.heap.size, 1, none⟩)) rfl ?_
    refine @Ends.val _ _ _ _ _ _ _ _ _ (.int .u32 c) rfl ?_
    refine @Ends.any _ _ _ _ _ _ _ _ _ (isO w.heap.size 12 H) (isO_later _ _ _) rfl ?_
    intro v5 p5
    refine @Ends.any _ _ _ _ _ _ _ _ _ (isPn H) (isPn_later H) rfl ?_
    intro v6 p6
    refine @Ends.val _ _ _ _ _ _ _ _ _ (.agg (u8s H).toArray) rfl ?_
    refine @Ends.one _ _ _ _ _ _ _ ?_
    simp only [Act.put, List.setIfInBounds_toArray, List.set_cons_zero, List.set_cons_succ]
    have B := V.out.2.2.1.later hb V.out.2.2.1.lt
    have q0 := V.out.2.2.2
    refine last_store 45 (.tmp 2) (.tmp 10) rfl rfl w1.heap.size rfl 45 _ (u8s H) rfl B (by rw [u8s_length, HH.out.2]; rfl) (by rw [u8s_length, HH.out.2]; exact sizeNonce) (u8s_one _) ?_
    intro y6 b6 s6 k6
    have q1 := V.out.1.size
    have q2 := hb.size
    have L : Below w.heap.size w y6 := below_kept (below_chain V.out.1 hb (by omega)) k6 (by omega) (fun j hj => by omega)
    clear p2 p5 p6
    go_wp2
    exact ret_blk rfl w1.heap.size (u8s H) _ rfl b6 Tryz.underlying45 rfl (by rw [u8s_length, HH.out.2]; exact sizeNonce) rfl ⟨rfl, L⟩

set_option maxRecDepth 20000 in
set_option maxHeartbeats 1000000 in
theorem vouch_any (r c p q : Int) (hp : U32 p) (hq : U32 q) (w : World) :
    Calls Tryz.prog 24 #[.agg (placeC r c p q).toArray] w fun e w' => ∃ v, e = .returned v ∧ isO w.heap.size 8 (moL p q) v w' ∧ Below w.heap.size w w' := by
  have HR : Hid (U32 p ∧ U32 q) := ⟨hp, hq⟩
  obtain ⟨H, hH⟩ : ∃ H, moL p q = H := ⟨_, rfl⟩
  have HH : Hid (leB 4 p ++ leB 4 q = H ∧ H.length = 8) := ⟨hH, by rw [← hH]; exact moL_length p q⟩
  rw [hH]
  clear hp hq hH
  go_enter Tryz.func24, Tryz.ntmps24
  go_wp2_with (first | (refine wpList_box_new rfl 27 _ rfl (placeC r c p q) rfl ?_; intro w1 b1 s1 l1))
  have V : Hid (Below w.heap.size w w1 ∧ Blk w1 w.heap.size 27 (placeC r c p q)) := ⟨l1, b1⟩
  clear b1 l1 s1
  refine region_inv [.val (.pointer (some ⟨w.heap.size, 2, none⟩)), .val (.int .u32 p), .any (isO w.heap.size 4 (leB 4 p)) (isO_later _ _ _), .val (.pointer (some ⟨w.heap.size, 3, none⟩)), .val (.int .u32 q), .any (isO w.heap.size 8 H) (isO_later _ _ _)] (by kernel_rfl) (by kernel_rfl) (by kernel_rfl) ?_ ?_
  · refine Steps'.cons ?_ (Steps'.cons ?_ (Steps'.cons ?_ (Steps'.cons ?_ (Steps'.cons ?_ (Steps'.cons ?_ (Steps'.one _ _ _ _ _ _ _))))))
    · intro ax wx hb hs hd
      have h1 : ax.tmps.getD 1 undef = (.pointer (some ⟨w.heap.size, 0, none⟩)) := hs 1 (by kernel_rfl)
      refine Does.value (.pointer (some ⟨w.heap.size, 2, none⟩)) ?_ rfl
      clear hs hd
      go_simp
    · intro ax wx hb hs hd
      have h3 : ax.tmps.getD 3 undef = (.pointer (some ⟨w.heap.size, 2, none⟩)) := hd 0 3 rfl (by kernel_rfl) (by decide)
      have cx : wx.cell? ⟨w.heap.size, 2, none⟩ = some (.int .u32 p) := (V.out.2.later hb V.out.2.lt).cell 2
      refine Does.value (.int .u32 p) ?_ rfl
      clear hs hd
      go_simp
    · intro ax wx hb hs hd
      have h4 : ax.tmps.getD 4 undef = (.int .u32 p) := hd 1 4 rfl (by kernel_rfl) (by decide)
      refine Does.call 38 #[.slice none 0 0, .int .u32 p] (by clear hs hd; go_simp) ?_
      refine (put32_own p HR.out.1 wx).mono ?_
      rintro e w' ⟨v, rfl, o, l⟩
      exact ⟨_, rfl, ownsRow_base o (by have := hb.size; have := V.out.1.size; omega), l⟩
    · intro ax wx hb hs hd
      have h1 : ax.tmps.getD 1 undef = (.pointer (some ⟨w.heap.size, 0, none⟩)) := hs 1 (by kernel_rfl)
      refine Does.value (.pointer (some ⟨w.heap.size, 3, none⟩)) ?_ rfl
      clear hs hd
      go_simp
    · intro ax wx hb hs hd
      have h6 : ax.tmps.getD 6 undef = (.pointer (some ⟨w.heap.size, 3, none⟩)) := hd 3 6 rfl (by kernel_rfl) (by decide)
      have cx : wx.cell? ⟨w.heap.size, 3, none⟩ = some (.int .u32 q) := (V.out.2.later hb V.out.2.lt).cell 3
      refine Does.value (.int .u32 q) ?_ rfl
      clear hs hd
      go_simp
    · intro ax wx hb hs hd
      have h7 : ax.tmps.getD 7 undef = (.int .u32 q) := hd 4 7 rfl (by kernel_rfl) (by decide)
      have p5 : isO w.heap.size 4 (leB 4 p) (ax.tmps.getD 5 undef) wx := hd 2 5 rfl (by kernel_rfl) (by decide)
      obtain ⟨v5, h5⟩ : ∃ v, ax.tmps.getD 5 undef = v := ⟨_, rfl⟩
      rw [h5] at p5
      refine Does.call 38 #[v5, .int .u32 q] (by clear hs hd; go_simp) ?_
      refine (put32_on v5 _ 4 (leB 4 p) (leB_length _ _) (leB_bytes _ _) (by decide) q HR.out.2 wx p5).mono ?_
      rintro e w' ⟨v, rfl, o, l⟩
      rw [HH.out.1] at o
      exact ⟨_, rfl, ownsRow_base o (by have := hb.size; have := V.out.1.size; omega), l⟩
  · intro wx hb
    refine @Ends.val _ _ _ _ _ _ _ _ _ (.pointer (some ⟨w.heap.size, 2, none⟩)) rfl ?_
    refine @Ends.val _ _ _ _ _ _ _ _ _ (.int .u32 p) rfl ?_
    refine @Ends.any _ _ _ _ _ _ _ _ _ (isO w.heap.size 4 (leB 4 p)) (isO_later _ _ _) rfl ?_
    intro v2 p2
    refine @Ends.val _ _ _ _ _ _ _ _ _ (.pointer (some ⟨w.heap.size, 3, none⟩)) rfl ?_
    refine @Ends.val _ _ _ _ _ _ _ _ _ (.int .u32 q) rfl ?_
    refine @Ends.any _ _ _ _ _ _ _ _ _ (isO w.heap.size 8 H) (isO_later _ _ _) rfl ?_
    intro v5 p5
    refine @Ends.one _ _ _ _ _ _ _ ?_
    simp only [Act.put, List.setIfInBounds_toArray, List.set_cons_zero, List.set_cons_succ]
    have HE : Hid (isO w.heap.size 8 H v5 wx ∧ Below w.heap.size w wx) := ⟨p5, below_chain V.out.1 hb V.out.1.size⟩
    clear p2 p5
    refine last_assign (.tmp 8) rfl (some 2) rfl v5 rfl ?_
    simp only [Act.put, List.setIfInBounds_toArray, List.set_cons_zero, List.set_cons_succ]
    go_wp2
    go_ret
    exact ⟨_, rfl, HE.out.1, HE.out.2⟩
end Go.Proofs.YtcimiajkbgabiaaGreat

namespace Go.Proofs.YtcimiajkbgabiaaGreat
open Go.RowKit
set_option linter.unusedVariables false
set_option linter.unusedSimpArgs false

/-- What a page's first bytes tell. -/
def tellR (zs : List Int) : Int := le (zs.take 8)
def tellC (zs : List Int) : Int := le ((zs.drop 8).take 4)
set_option maxRecDepth 20000 in
theorem phead_bad (ao : Option Addr) (n c : Nat) (hn : n < 28) (w : World) :
    Calls Tryz.prog 16 #[.slice ao n c] w fun e w' => e = .returned (.tuple #[.int .u64 0, .int .u32 0, .int .i64 20]) ∧ w = w' := by
  have i1 : (n : Int) < 28 := by omega
  go_enter Tryz.func16, Tryz.ntmps16
  go_wp2
  go_ret3
  exact ⟨rfl, rfl⟩
set_option maxRecDepth 20000 in
set_option maxHeartbeats 1000000 in
theorem phead_any (ao : Option Addr) (n c : Nat) (zs : List Int) (w : World) (hx : Seen w ao n zs) (h28 : 28 ≤ n) (hc : n ≤ c) :
    Calls Tryz.prog 16 #[.slice ao n c] w fun e w' => e = .returned (.tuple #[.int .u64 (tellR zs), .int .u32 (tellC zs), .int .i64 0]) ∧ Below w.heap.size w w' := by
  have i1 : ¬ (n : Int) < 28 := by omega
  have t1 := hx.top
  have S12 : ∀ W, (Instr.sliceAt 28 (.slice ao n c) none (some (.int .i64 12)) none).run Tryz.prog W = .ok (.slice (subA ao 0 c) 12 c) W := fun W => sl_h ao n c 12 (by omega) W
  obtain ⟨T, hT⟩ : ∃ T, zs.take 12 = T := ⟨_, rfl⟩
  have hs : Seen w (subA ao 0 c) 12 T := by
    have h := hx.sub 0 12 c (by omega) (by omega) hc
    rwa [List.drop_zero, Nat.sub_zero, hT] at h
  have HT : Hid (T.length = 12 ∧ T.take 8 = zs.take 8 ∧ (T.drop 8).take 4 = (zs.drop 8).take 4) := ⟨hs.len, by rw [← hT, List.take_take]; rfl, by rw [← hT, List.drop_take, List.take_take]; rfl⟩
  have HS : Hid (Seen w (subA ao 0 c) 12 T) := hs
  have N1 : nxL T 0 0 8 = T.take 8 ∧ nxP T 0 0 8 = 8 ∧ nxE T 0 0 8 = 0 := by
    have h := nx_ok (zs := T) (p := 0) (m := 8) (by have := HT.out.1; omega)
    rw [List.drop_zero, Nat.zero_add] at h; exact h
  have N2 : nxL T 8 0 4 = (T.drop 8).take 4 ∧ nxP T 8 0 4 = 12 ∧ nxE T 8 0 4 = 0 := nx_ok (zs := T) (p := 8) (m := 4) (by have := HT.out.1; omega)
  have HN : Hid ((nxL T 0 0 8 = T.take 8 ∧ nxP T 0 0 8 = 8 ∧ nxE T 0 0 8 = 0) ∧ (nxL T 8 0 4 = (T.drop 8).take 4 ∧ nxP T 8 0 4 = 12 ∧ nxE T 8 0 4 = 0)) := ⟨N1, N2⟩
  have HV : Hid (leV 8 (nxL T 0 0 8).length (nxL T 0 0 8) = tellR zs ∧ leV 4 (nxL T 8 0 4).length (nxL T 8 0 4) = tellC zs ∧ endE T.length 12 0 = 0) := by
    have hl := HT.out.1
    refine ⟨?_, ?_, ?_⟩
    · rw [N1.1, List.length_take, hl]; show leV 8 8 _ = _; rw [leV_ok, HT.out.2.1]; rfl
    · rw [N2.1, List.length_take, List.length_drop, hl]; show leV 4 4 _ = _; rw [leV_ok, HT.out.2.2]; rfl
    · rw [hl]; rfl
  clear hx hT hs N1 N2
  go_enter Tryz.func16, Tryz.ntmps16
  go_wp2_with fail
  refine (newReader_any (subA ao 0 c) 12 c T w HS.out).mono ?_
  rintro e w1 ⟨r, ao', c', rfl, d1, g1, g2, l1⟩
  have D1 : Hid (Rd w1 r ao' c' T 0 0 ∧ w.heap.size ≤ r ∧ Below w.heap.size w w1) := ⟨d1, g1, l1⟩
  clear d1 g1 g2 l1
  go_wp2_with fail
  refine (ru_64 r ao' c' T 0 0 w1 D1.out.1).mono ?_
  rintro e w2 ⟨rfl, d2, k2⟩
  rw [HV.out.1]
  rw [HN.out.1.2.1, HN.out.1.2.2] at d2
  have D2 : Hid (Rd w2 r ao' c' T 8 0 ∧ Below w.heap.size w w2) := ⟨d2, below_kept D1.out.2.2 k2 D1.out.2.2.size (fun j hj => by have := D1.out.2.1; omega)⟩
  clear d2 k2
  go_wp2_with fail
  refine (ru_32 r ao' c' T 8 0 w2 D2.out.1).mono ?_
  rintro e w3 ⟨rfl, d3, k3⟩
  rw [HV.out.2.1]
  rw [HN.out.2.2.1, HN.out.2.2.2] at d3
  have D3 : Hid (Rd w3 r ao' c' T 12 0 ∧ Below w.heap.size w w3) := ⟨d3, below_kept D2.out.2 k3 D2.out.2.size (fun j hj => by have := D1.out.2.1; omega)⟩
  clear d3 k3
  go_wp2_with fail
  refine (end_any r ao' c' T 12 0 w3 D3.out.1).mono ?_
  rintro e w4 ⟨rfl, q, rfl⟩
  rw [HV.out.2.2]
  go_wp2_with fail
  go_ret3
  exact ⟨rfl, below_dn D3.out.2 q⟩

/-- The page of a text. -/
def pageL (key : List Int) (r c p q : Int) (zs : List Int) : List Int := hdL r c ++ boxL key (hdL r c) (moL p q) zs
theorem pageL_length (key : List Int) (r c p q : Int) (zs : List Int) : (pageL key r c p q zs).length = zs.length + 28 := by rw [pageL, List.length_append, hdL_length, boxL_length]; omega
theorem pageL_bytes (key : List Int) (r c p q : Int) {zs : List Int} (h : Bytes zs) : Bytes (pageL key r c p q zs) := bytes_app' (hdL_bytes _ _) (boxL_bytes _ _ _ h)
theorem pageL_head (key : List Int) (r c p q : Int) (zs : List Int) : (pageL key r c p q zs).take 12 = hdL r c := by rw [pageL, List.take_append_of_le_length (by rw [hdL_length]; omega), List.take_of_length_le (by rw [hdL_length]; omega)]
theorem pageL_box (key : List Int) (r c p q : Int) (zs : List Int) : (pageL key r c p q zs).drop 12 = boxL key (hdL r c) (moL p q) zs := by rw [pageL]; exact List.drop_left' (hdL_length r c)
/-- A tuple of bytes of the call's own and a number. -/
def isT (base n : Nat) (zs : List Int) (E : Int) (v : Value) (w : World) : Prop := ∃ u, v = .tuple #[u, .int .i64 E] ∧ isO base n zs u w
theorem isT_later (base n : Nat) (zs : List Int) (E : Int) : ∀ v w w', Below w.heap.size w w' → isT base n zs E v w → isT base n zs E v w' := fun _ _ _ hb ⟨u, h1, h2⟩ => ⟨u, h1, isO_later _ _ _ _ _ _ hb h2⟩
theorem grow_seen {w : World} {b : Addr} {xs : List Int} {n : Nat} (hX : Seen w (some b) n xs) {ao : Option Addr} {m c : Nat} {zs : List Int} (hZ : Seen w ao m zs) (hm : 0 < m) (hb : n + m ≤ 1000000) : ∃ v w', (Builtin.append_ #[28, 28] 28 #[.slice (some b) n n, .slice ao m c]).run Tryz.prog w = .ok v w' ∧ isO w.heap.size (n + m) (xs ++ zs) v w' ∧ Below w.heap.size w w' := by
  obtain ⟨i0, hi, hz0, hz1, hz2⟩ := info_parts info_byte
  obtain ⟨g, o, rfl, _, _⟩ := hZ.cells hm
  have hr := run_append_grow (P := Tryz.prog) (w := w) 28 28 5 i0 (.int .u8 0) Tryz.underlying28 hi hz0 b n n (xs.map (Value.int .u8)) (by rw [List.length_map, hX.len, hz1, Nat.mul_one]) (seen_news hX rfl) ⟨g, o, none⟩ m c (zs.map (Value.int .u8)) (by rw [List.length_map, hZ.len, hz1, Nat.mul_one]) (seen_news hZ rfl) (by omega) (by omega) (growslice_fits (by omega) (by rw [hz2]; omega))
  have hge := grownCap_ge w (n + m) n 5
  have hle := grownCap_le_maxLen w (n + m) n 5 (by unfold maxLen; omega)
  refine ⟨_, _, hr, ⟨by rw [List.length_map, List.length_append, hX.len, hZ.len, Nat.mul_one], .inr ⟨w.heap.size, _, _, rfl, Nat.le_refl _, heap_alloc_new w.drew _, hge, hle, ?_, ?_⟩⟩, below_ahead (k := 1) ((Below.refl _ (w.drewN 1)).alloc (Nat.le_refl _) _)⟩
  · simp [Builtin.zeroCells, Value.cells, hX.len, hZ.len]; omega
  · rw [Nat.mul_one, Array.toList_append, Array.toList_append, List.map_append]
    exact List.take_left' (by simp [hX.len, hZ.len])
theorem pown_sl {w : World} {B n : Nat} {v : Value} {zs : List Int} (hl : zs.length = n) (hb : Bytes zs) (ht : n ≤ 140737488355328) (o : isO B n zs v w) : ∃ vo cap, v = .slice vo n cap ∧ Seen w vo n zs ∧ n ≤ cap ∧ (vo = none → cap = 0) := by
  subst hl
  obtain ⟨a1, a2, a3, a4, a5, a6, _⟩ := own_data hb ht o
  exact ⟨a1, a2, a3, a4, a5, a6⟩
theorem wpList_append_go {ops : Array Oper} {rest : List Oper} {o : Oper} {a : Act} {Q : Exit → Act → World → Prop} {w : World} (hgd : o.guard = none) (s x : Operand) (t ty : TypeId) (ho : o.op = .call { callee := .builtin .append, args := #[s, x], argTypes := #[t, t] }) (hty : o.type = ty)
    (va vb : Value) (hs : a.eval s = va) (hx : a.eval x = vb) (v' : Value) (w' : World) (hr : (Builtin.append_ #[t, t] ty #[va, vb]).run Tryz.prog w = .ok v' w') (h : wpList Tryz.prog ops Q rest (a.put o.dst v') w') : wpList Tryz.prog ops Q (o :: rest) a w := by
  refine wpList_plain hgd fun K hK => ?_
  subst hty
  unfold Oper.wp execOp
  simp only [ho, resolve, invoke, builtin, Sem.run_bind, Sem.run_pure, Result.andThen_ok, List.map_toArray, List.map_cons, List.map_nil, hs, hx, hr]
  exact hK _ _ h
theorem seen12 {w : World} {g : Nat} {H : List Int} (b : Blk w g 45 (u8s H)) (hl : H.length = 12) (hb : Bytes H) : Seen w (some ⟨g, 0, none⟩) 12 H := by
  have h := seen_blk b hb (by omega)
  rwa [hl] at h
theorem sl_arr12 (g : Nat) (w : World) : (Instr.sliceAt 45 (.pointer (some ⟨g, 0, none⟩)) none none none).run Tryz.prog w = .ok (.slice (some ⟨g, 0, none⟩) 12 12) w := by kernel_rfl
theorem pzKey : (Tryz.prog.info? 27).map (·.size) = some 4 := by kernel_rfl
theorem placeC_one (r c p q : Int) : ∀ v ∈ placeC r c p q, v.oneCell' = true := by intro v hv; simp [placeC] at hv; rcases hv with rfl | rfl | rfl | rfl <;> rfl

set_option maxRecDepth 20000 in
set_option maxHeartbeats 1000000 in
theorem pseal_bad (key : List Int) (r c p q : Int) (bo : Option Addr) (m d : Nat) (t1 : m ≤ 140737488355328) (hm : 4096 < m) (w : World) :
    Calls Tryz.prog 7 #[.agg (u8s key).toArray, .agg (placeC r c p q).toArray, .slice bo m d] w fun e w' => e = .returned (.tuple #[.slice none 0 0, .int .i64 3]) ∧ Below w.heap.size w w' := by
  have i1 : (4096 : Int) < (m : Int) := by omega
  go_enter Tryz.func7, Tryz.ntmps7
  go_wp2_with (first | (refine wpList_box_new rfl 23 _ rfl (u8s key) rfl ?_; intro w1 b1 s1 l1) | (refine wpList_box_new rfl 27 _ rfl (placeC r c p q) rfl ?_; intro w2 b2 s2 l2))
  go_ret2
  exact ⟨rfl, below_chain l1 l2 (by omega)⟩
set_option maxRecDepth 20000 in
set_option maxHeartbeats 1000000 in
theorem pseal_any (key : List Int) (r c p q : Int) (bo : Option Addr) (m d : Nat) (zs : List Int) (hk : key.length = 32) (hkb : Bytes key) (hr : Word r) (hc : U32 c) (hp : U32 p) (hq : U32 q) (hm : m ≤ 4096) (w : World) (hy : Seen w bo m zs) (hd : m ≤ d) :
    Calls Tryz.prog 7 #[.agg (u8s key).toArray, .agg (placeC r c p q).toArray, .slice bo m d] w fun e w' => ∃ v, e = .returned (.tuple #[v, .int .i64 0]) ∧ isO w.heap.size (m + 28) (pageL key r c p q zs) v w' ∧ Below w.heap.size w w' := by
  have i1 : ¬ (4096 : Int) < (m : Int) := by omega
  obtain ⟨H, hH⟩ : ∃ H, hdL r c = H := ⟨_, rfl⟩
  obtain ⟨M, hM⟩ : ∃ H, moL p q = H := ⟨_, rfl⟩
  obtain ⟨X, hX⟩ : ∃ X, boxL key H M zs = X := ⟨_, rfl⟩
  have HH : Hid (hdL r c = H ∧ H.length = 12 ∧ Bytes H) := ⟨hH, by rw [← hH]; exact hdL_length r c, by rw [← hH]; exact hdL_bytes r c⟩
  have HM : Hid (moL p q = M ∧ M.length = 8 ∧ Bytes M) := ⟨hM, by rw [← hM]; exact moL_length p q, by rw [← hM]; exact moL_bytes p q⟩
  have HX : Hid (boxL key H M zs = X ∧ X.length = m + 16 ∧ Bytes X ∧ pageL key r c p q zs = H ++ X) := ⟨hX, by rw [← hX, boxL_length, hy.len], by rw [← hX]; exact boxL_bytes _ _ _ hy.bytes, by rw [pageL, hH, hM, hX]⟩
  have HK : Hid (key.length = 32 ∧ Bytes key ∧ Word r ∧ U32 c ∧ U32 p ∧ U32 q ∧ m ≤ 4096 ∧ m ≤ d) := ⟨hk, hkb, hr, hc, hp, hq, hm, hd⟩
  have HY : Hid (Seen w bo m zs) := hy
  clear hH hM hX hk hkb hr hc hp hq hy hd
  go_enter Tryz.func7, Tryz.ntmps7
  go_wp2_with (first | (refine wpList_box_new rfl 23 _ rfl (u8s key) rfl ?_; intro w1 b1 s1 l1) | (refine wpList_box_new rfl 27 _ rfl (placeC r c p q) rfl ?_; intro w2 b2 s2 l2) | (refine wpList_load_blk rfl 27 _ rfl _ rfl (placeC r c p q) _ (by first | exact b2 | (rw [← s1]; exact b2)) Tryz.underlying27 rfl pzKey ?_))
  refine (headOf_any r c p q HK.out.2.2.1 HK.out.2.2.2.1 w2).mono ?_
  rintro e w3 ⟨rfl, l3⟩
  rw [HH.out.1]
  have q3 := l3.size
  go_wp2_with (first | (refine wpList_alloc_new rfl 45 rfl 12 _ pzNonce ?_; intro w4 b4 s4 l4) | (refine wpList_store_blk rfl 45 45 _ _ rfl _ rfl _ (u8s H) rfl b4 (by rw [u8s_length, HH.out.2.1]; rfl) (by rw [u8s_length, HH.out.2.1]; exact sizeNonce) (u8s_one _) ?_; intro w5 b5 s5 k5))
  rw [s1] at b2
  have V : Hid (Blk w5 w.heap.size 23 (u8s key) ∧ Blk w5 (w.heap.size + 1) 27 (placeC r c p q) ∧ Blk w5 w3.heap.size 45 (u8s H) ∧ Below w.heap.size w w5 ∧ Seen w5 bo m zs) := by
    have L4 : Below w2.heap.size w2 w4 := below_chain l3 l4 (by omega)
    have L5 : Below w2.heap.size w2 w5 := below_kept L4 k5 (by omega) (fun j hj => by omega)
    have L : Below w.heap.size w w5 := below_chain (below_chain l1 l2 (by omega)) L5 (by omega)
    exact ⟨(b1.later l2 (by omega)).later L5 (by omega), b2.later L5 (by omega), b5, L, HY.out.later L (Nat.le_refl _)⟩
  clear b1 b2 b4 b5 l1 l2 l3 l4 k5 s2 s4 s5 q3 s1
  simp only [Act.put, List.setIfInBounds_toArray, List.set_cons_zero, List.set_cons_succ]
  refine region_inv [.val (.agg (u8s key).toArray), .val (.agg (u8s H).toArray), .val (.agg (placeC r c p q).toArray), .any (isO w.heap.size 8 M) (isO_later _ _ _), .val (.slice bo m d), .any (isT w.heap.size (m + 16) X 0) (isT_later _ _ _ _), .any (isT w.heap.size (m + 16) X 0) (isT_later _ _ _ _), .any (isO w.heap.size (m + 16) X) (isO_later _ _ _), .val (.int .i64 0), .any (isO w.heap.size (m + 16) X) (isO_later _ _ _)] (by kernel_rfl) (by kernel_rfl) (by kernel_rfl) ?_ ?_
  · refine Steps'.cons ?_ (Steps'.cons ?_ (Steps'.cons ?_ (Steps'.cons ?_ (Steps'.cons ?_ (Steps'.cons ?_ (Steps'.cons ?_ (Steps'.cons ?_ (Steps'.cons ?_ (Steps'.cons ?_ (Steps'.one _ _ _ _ _ _ _))))))))))
    · intro ax wx hb hs hd
      have h3 : ax.tmps.getD 3 undef = (.pointer (some ⟨w.heap.size, 0, none⟩)) := hs 3 (by kernel_rfl)
      exact Does.load 23 (.tmp 3) rfl w.heap.size 0 h3 (u8s key) _ ((V.out.1).later hb (V.out.1).lt).all Tryz.underlying23 rfl (by rw [u8s_length, HK.out.1]; exact sizeKey)
    · intro ax wx hb hs hd
      have h8 : ax.tmps.getD 8 undef = (.pointer (some ⟨w3.heap.size, 0, none⟩)) := hs 8 (by kernel_rfl)
      exact Does.load 45 (.tmp 8) rfl w3.heap.size 0 h8 (u8s H) _ ((V.out.2.2.1).later hb (V.out.2.2.1).lt).all Tryz.underlying45 rfl (by rw [u8s_length, HH.out.2.1]; exact sizeNonce)
    · intro ax wx hb hs hd
      have h4 : ax.tmps.getD 4 undef = (.pointer (some ⟨w.heap.size + 1, 0, none⟩)) := hs 4 (by kernel_rfl)
      exact Does.load 27 (.tmp 4) rfl (w.heap.size + 1) 0 h4 (placeC r c p q) _ ((V.out.2.1).later hb (V.out.2.1).lt).all Tryz.underlying27 rfl pzKey
    · intro ax wx hb hs hd
      have h19 : ax.tmps.getD 19 undef = (.agg (placeC r c p q).toArray) := hd 2 19 rfl (by kernel_rfl) (by decide)
      refine Does.call 24 #[.agg (placeC r c p q).toArray] (by clear hs hd; go_simp) ?_
      refine (vouch_any r c p q HK.out.2.2.2.2.1 HK.out.2.2.2.2.2.1 wx).mono ?_
      rintro e w' ⟨v, rfl, o, l⟩
      rw [HM.out.1] at o
      exact ⟨_, rfl, ownsRow_base o (by have := hb.size; have := V.out.2.2.2.1.size; omega), l⟩
    · intro ax wx hb hs hd
      have h2 : ax.tmps.getD 2 undef = (.slice bo m d) := hs 2 (by kernel_rfl)
      refine Does.value (.slice bo m d) ?_ rfl
      clear hs hd
      go_simp
    · intro ax wx hb hs hd
      have h17 : ax.tmps.getD 17 undef = (.agg (u8s key).toArray) := hd 0 17 rfl (by kernel_rfl) (by decide)
      have h18 : ax.tmps.getD 18 undef = (.agg (u8s H).toArray) := hd 1 18 rfl (by kernel_rfl) (by decide)
      have p20 : (isO w.heap.size 8 M) (ax.tmps.getD 20 undef) wx := hd 3 20 rfl (by kernel_rfl) (by decide)
      have h21 : ax.tmps.getD 21 undef = (.slice bo m d) := hd 4 21 rfl (by kernel_rfl) (by decide)
      obtain ⟨mo, mc, h20, s20, c20, _⟩ := pown_sl HM.out.2.1 HM.out.2.2 (by decide) p20
      clear p20
      refine Does.call 23 #[.agg (u8s key).toArray, .agg (u8s H).toArray, .slice mo 8 mc, .slice bo m d] (by clear hs hd; go_simp) ?_
      refine (seal_any key H 8 mc m d mo bo M zs HK.out.1 HH.out.2.1 HK.out.2.1 HH.out.2.2 (by decide) (by have := HK.out.2.2.2.2.2.2.1; omega) wx s20 (V.out.2.2.2.2.later hb (Nat.le_refl _)) c20 HK.out.2.2.2.2.2.2.2).mono ?_
      rintro e w' ⟨v, rfl, o, l⟩
      rw [HX.out.1] at o
      exact ⟨_, rfl, ⟨v, rfl, ownsRow_base o (by have := hb.size; have := V.out.2.2.2.1.size; omega)⟩, l⟩
    · intro ax wx hb hs hd
      have p22 : (isT w.heap.size (m + 16) X 0) (ax.tmps.getD 22 undef) wx := hd 5 22 rfl (by kernel_rfl) (by decide)
      obtain ⟨u, h22, o⟩ := p22
      refine Does.value (.tuple #[u, .int .i64 0]) ?_ ⟨u, rfl, o⟩
      clear hs hd
      go_simp
    · intro ax wx hb hs hd
      have p16 : (isT w.heap.size (m + 16) X 0) (ax.tmps.getD 16 undef) wx := hd 6 16 rfl (by kernel_rfl) (by decide)
      obtain ⟨u, h16, o⟩ := p16
      refine Does.value u ?_ o
      clear hs hd
      go_simp
    · intro ax wx hb hs hd
      have p16 : (isT w.heap.size (m + 16) X 0) (ax.tmps.getD 16 undef) wx := hd 6 16 rfl (by kernel_rfl) (by decide)
      obtain ⟨u, h16, o⟩ := p16
      refine Does.value (.int .i64 0) ?_ rfl
      clear hs hd
      go_simp
    · intro ax wx hb hs hd
      have p23 : (isO w.heap.size (m + 16) X) (ax.tmps.getD 23 undef) wx := hd 7 23 rfl (by kernel_rfl) (by decide)
      obtain ⟨u, h23⟩ : ∃ u, ax.tmps.getD 23 undef = u := ⟨_, rfl⟩
      rw [h23] at p23
      refine Does.value u ?_ p23
      clear hs hd
      go_simp
  · intro wx hb
    refine @Ends.val _ _ _ _ _ _ _ _ _ (.agg (u8s key).toArray) rfl ?_
    refine @Ends.val _ _ _ _ _ _ _ _ _ (.agg (u8s H).toArray) rfl ?_
    refine @Ends.val _ _ _ _ _ _ _ _ _ (.agg (placeC r c p q).toArray) rfl ?_
    refine @Ends.any _ _ _ _ _ _ _ _ _ (isO w.heap.size 8 M) (isO_later _ _ _) rfl ?_
    intro v20 p20
    refine @Ends.val _ _ _ _ _ _ _ _ _ (.slice bo m d) rfl ?_
    refine @Ends.any _ _ _ _ _ _ _ _ _ (isT w.heap.size (m + 16) X 0) (isT_later _ _ _ _) rfl ?_
    intro v22 p22
    refine @Ends.any _ _ _ _ _ _ _ _ _ (isT w.heap.size (m + 16) X 0) (isT_later _ _ _ _) rfl ?_
    intro v16 p16
    refine @Ends.any _ _ _ _ _ _ _ _ _ (isO w.heap.size (m + 16) X) (isO_later _ _ _) rfl ?_
    intro v23 p23
    refine @Ends.val _ _ _ _ _ _ _ _ _ (.int .i64 0) rfl ?_
    refine @Ends.any _ _ _ _ _ _ _ _ _ (isO w.heap.size (m + 16) X) (isO_later _ _ _) rfl ?_
    intro v9 p9
    refine @Ends.one _ _ _ _ _ _ _ ?_
    simp only [Act.put, List.setIfInBounds_toArray, List.set_cons_zero, List.set_cons_succ]
    obtain ⟨xo, xc, rfl, sx, cx, nx⟩ := pown_sl HX.out.2.1 HX.out.2.2.1 (by omega) p9
    have W1 : Hid (Blk wx w3.heap.size 45 (u8s H) ∧ Below w.heap.size w wx ∧ Seen wx xo (m + 16) X) := ⟨V.out.2.2.1.later hb V.out.2.2.1.lt, below_chain V.out.2.2.2.1 hb V.out.2.2.2.1.size, sx⟩
    clear p9 p23 p22 p20 p16 sx nx
    refine last_assign (.tmp 24) rfl (some 10) rfl (.int .i64 0) rfl ?_
    simp only [Act.put, List.setIfInBounds_toArray, List.set_cons_zero, List.set_cons_succ]
    have SA := sl_arr12 w3.heap.size
    obtain ⟨v7, w7, hr7, o7, l7⟩ := grow_seen (c := xc) (seen12 W1.out.1 HH.out.2.1 HH.out.2.2) W1.out.2.2 (by omega) (by omega)
    have G7 : Hid (isO wx.heap.size (12 + (m + 16)) (H ++ X) v7 w7 ∧ Below wx.heap.size wx w7) := ⟨o7, l7⟩
    clear o7 l7
    go_wp2_with (first | (go_at_call 25; refine (is_any 0 _).mono ?_; rintro e w' ⟨rfl, rfl⟩; rw [show ((0 : Int) == 0) = true from rfl]) | (at_builtin; refine wpList_append_go rfl _ _ 28 28 rfl rfl _ _ rfl rfl v7 w7 hr7 ?_))
    go_ret2
    exact ⟨_, rfl, by rw [HX.out.2.2.2, show m + 28 = 12 + (m + 16) by omega]; exact ownsRow_base G7.out.1 W1.out.2.1.size, below_chain W1.out.2.1 G7.out.2 W1.out.2.1.size⟩
end Go.Proofs.YtcimiajkbgabiaaGreat

namespace Go.Proofs.YtcimiajkbgabiaaGreat
open Go.RowKit
set_option linter.unusedVariables false
set_option linter.unusedSimpArgs false

theorem neq_place (r c p q r' c' : Int) (w : World) : (binOp .neq 27 (.agg (placeC r c p q).toArray) (.agg (placeC r' c' p q).toArray)).run Tryz.prog w = .ok (.bool (!(r == r' && c == c'))) w := by
  have hf : Tryz.prog.underlying 27 = some (.struct (Tryz.prog.fieldsOf 27)) := by kernel_rfl
  have hp : Tryz.prog.stoodInHeld 27 = false := by kernel_rfl
  have hl : (Tryz.prog.fieldsOf 27).toList = [{ name := "Round", type := 24, offset := 0, embedded := false, tag := "", pkgPath := "", byteOffset := 0 }, { name := "Counter", type := 25, offset := 1, embedded := false, tag := "", pkgPath := "", byteOffset := 8 }, { name := "Page", type := 25, offset := 2, embedded := false, tag := "", pkgPath := "", byteOffset := 12 }, { name := "Version", type := 25, offset := 3, embedded := false, tag := "", pkgPath := "", byteOffset := 16 }] := by kernel_rfl
  rw [run_neq_struct, run_equalIn_struct w 9999 27 _ _ hf hp, hl]
  have p0 : ∀ r c : Int, (Go.part 24 (placeC r c p q).toArray 0).run Tryz.prog w = .ok (.int .u64 r) w := fun r c => by simp [Go.part, isAgg, run_underlying Tryz.underlying24, placeC]
  have p1 : ∀ r c : Int, (Go.part 25 (placeC r c p q).toArray 1).run Tryz.prog w = .ok (.int .u32 c) w := fun r c => by simp [Go.part, isAgg, run_underlying Tryz.underlying25, placeC]
  have p2 : ∀ r c : Int, (Go.part 25 (placeC r c p q).toArray 2).run Tryz.prog w = .ok (.int .u32 p) w := fun r c => by simp [Go.part, isAgg, run_underlying Tryz.underlying25, placeC]
  have p3 : ∀ r c : Int, (Go.part 25 (placeC r c p q).toArray 3).run Tryz.prog w = .ok (.int .u32 q) w := fun r c => by simp [Go.part, isAgg, run_underlying Tryz.underlying25, placeC]
  have q0 : ∀ x y : Int, (Op.equalIn 9999 24 (.int .u64 x) (.int .u64 y)).run Tryz.prog w = .ok (x == y) w := fun x y => by rw [run_equalIn_int w 9998 24 .u64 .u64 _ _ Tryz.underlying24]
  have q1 : ∀ x y : Int, (Op.equalIn 9999 25 (.int .u32 x) (.int .u32 y)).run Tryz.prog w = .ok (x == y) w := fun x y => by rw [run_equalIn_int w 9998 25 .u32 .u32 _ _ Tryz.underlying25]
  cases h0 : (r == r') <;> cases h1 : (c == c') <;> simp [Op.eqFields, p0, p1, p2, p3, q0, q1, h0, h1]
theorem pbuild (r c p q : Int) (w : World) : (Instr.build 27 #[(0, .int .u64 r), (1, .int .u32 c), (2, .int .u32 p), (3, .int .u32 q)]).run Tryz.prog w = .ok (.agg (placeC r c p q).toArray) w := by kernel_rfl
theorem pzPlace : (Tryz.prog.info? 27).map (fun i => (i.zero, i.size)) = some (some (.agg (placeC 0 0 0 0).toArray), 4) := by kernel_rfl
/-- What a page's first bytes tell is its head. -/
theorem tell_head {zs : List Int} {r c : Int} (hb : Bytes zs) (hl : 12 ≤ zs.length) (hr : Word r) (hc : U32 c) : (tellR zs = r ∧ tellC zs = c) ↔ zs.take 12 = hdL r c := by
  have e8 : (zs.take 8).length = 8 := by simp; omega
  have e4 : ((zs.drop 8).take 4).length = 4 := by simp; omega
  have ex : zs.take 12 = zs.take 8 ++ (zs.drop 8).take 4 := by rw [show 12 = 8 + 4 from rfl, List.take_add]
  constructor
  · rintro ⟨rfl, rfl⟩
    have h8 := leB_le (zs.take 8) (fun z hz => hb z (List.mem_of_mem_take hz))
    have h4 := leB_le ((zs.drop 8).take 4) (fun z hz => hb z (List.mem_of_mem_drop (List.mem_of_mem_take hz)))
    rw [e8] at h8
    rw [e4] at h4
    rw [ex, hdL, tellR, tellC, h8, h4]
  · intro h
    rw [ex, hdL] at h
    have hh := List.append_inj h (by rw [e8, leB_length])
    rw [tellR, tellC, hh.1, hh.2, le_leB, le_leB]
    have h1 := hr.1
    have h2 := hr.2
    have h3 := hc.1
    have h4 := hc.2
    exact ⟨Int.emod_eq_of_lt h1 (by omega), Int.emod_eq_of_lt h3 (by omega)⟩

set_option maxRecDepth 20000 in
set_option maxHeartbeats 1000000 in
theorem popen_long (key : List Int) (r c p q : Int) (bo : Option Addr) (m d : Nat) (t1 : m ≤ 140737488355328) (hm : 4124 < m) (w : World) :
    Calls Tryz.prog 15 #[.agg (u8s key).toArray, .agg (placeC r c p q).toArray, .slice bo m d] w fun e w' => e = .returned (.tuple #[.slice none 0 0, .int .i64 120]) ∧ Below w.heap.size w w' := by
  have i1 : (4124 : Int) < (m : Int) := by omega
  go_enter Tryz.func15, Tryz.ntmps15
  go_wp2_with (first | (refine wpList_box_new rfl 23 _ rfl (u8s key) rfl ?_; intro w1 b1 s1 l1) | (refine wpList_box_new rfl 27 _ rfl (placeC r c p q) rfl ?_; intro w2 b2 s2 l2))
  go_ret2
  exact ⟨rfl, below_chain l1 l2 (by omega)⟩
set_option maxRecDepth 20000 in
set_option maxHeartbeats 1000000 in
theorem popen_short (key : List Int) (r c p q : Int) (bo : Option Addr) (m d : Nat) (hm : m < 28) (w : World) :
    Calls Tryz.prog 15 #[.agg (u8s key).toArray, .agg (placeC r c p q).toArray, .slice bo m d] w fun e w' => e = .returned (.tuple #[.slice none 0 0, .int .i64 120]) ∧ Below w.heap.size w w' := by
  have i1 : ¬ (4124 : Int) < (m : Int) := by omega
  go_enter Tryz.func15, Tryz.ntmps15
  go_wp2_with (first | (refine wpList_box_new rfl 23 _ rfl (u8s key) rfl ?_; intro w1 b1 s1 l1) | (refine wpList_box_new rfl 27 _ rfl (placeC r c p q) rfl ?_; intro w2 b2 s2 l2) | (go_at_call 16; refine (phead_bad bo m d hm _).mono ?_; rintro e w' ⟨rfl, rfl⟩))
  go_ret2
  exact ⟨rfl, below_chain l1 l2 (by omega)⟩
set_option maxRecDepth 20000 in
set_option maxHeartbeats 1000000 in
theorem popen_else (key : List Int) (r c p q : Int) (bo : Option Addr) (m d : Nat) (zs : List Int) (h28 : 28 ≤ m) (hm : m ≤ 4124) (w : World) (hy : Seen w bo m zs) (hd : m ≤ d) (hne : (tellR zs == r && tellC zs == c) = false) :
    Calls Tryz.prog 15 #[.agg (u8s key).toArray, .agg (placeC r c p q).toArray, .slice bo m d] w fun e w' => e = .returned (.tuple #[.slice none 0 0, .int .i64 120]) ∧ Below w.heap.size w w' := by
  have i1 : ¬ (4124 : Int) < (m : Int) := by omega
  have HY : Hid (Seen w bo m zs) := hy
  have HD : Hid (m ≤ d) := hd
  obtain ⟨R, hR⟩ : ∃ R, tellR zs = R := ⟨_, rfl⟩
  obtain ⟨C, hC⟩ : ∃ C, tellC zs = C := ⟨_, rfl⟩
  have HT : Hid (tellR zs = R ∧ tellC zs = C) := ⟨hR, hC⟩
  have HE : Hid ((!(R == r && C == c)) = true) := by show (!(R == r && C == c)) = true; rw [← hR, ← hC, hne]; rfl
  clear hy hd hR hC hne
  go_enter Tryz.func15, Tryz.ntmps15
  go_wp2_with (first | (refine wpList_box_new rfl 23 _ rfl (u8s key) rfl ?_; intro w1 b1 s1 l1) | (refine wpList_box_new rfl 27 _ rfl (placeC r c p q) rfl ?_; intro w2 b2 s2 l2))
  refine (phead_any bo m d zs w2 (HY.out.later (below_chain l1 l2 (by omega)) (Nat.le_refl _)) h28 HD.out).mono ?_
  rintro e w3 ⟨rfl, l3⟩
  rw [HT.out.1, HT.out.2]
  have q3 := l3.size
  rw [s1] at b2
  have V3 : Hid (Blk w3 w.heap.size 23 (u8s key) ∧ Blk w3 (w.heap.size + 1) 27 (placeC r c p q) ∧ Below w.heap.size w w3) := ⟨(b1.later l2 (by omega)).later l3 (by omega), b2.later l3 (by omega), below_chain (below_chain l1 l2 (by omega)) l3 (by omega)⟩
  have cp : w3.cell? ⟨w.heap.size + 1, 2, none⟩ = some (.int .u32 p) := V3.out.2.1.cell 2
  have cq : w3.cell? ⟨w.heap.size + 1, 3, none⟩ = some (.int .u32 q) := V3.out.2.1.cell 3
  clear b1 b2 l1 l2 l3 s2 s1 q3
  have NP := neq_place R C p q r c
  rw [HE.out] at NP
  go_wp2_with (first | (refine wpList_build rfl 27 _ rfl #[(0, .int .u64 R), (1, .int .u32 C), (2, .int .u32 p), (3, .int .u32 q)] (by simp only [List.map_toArray, List.map_cons, List.map_nil]; rfl) _ (pbuild R C p q _) ?_) | (refine wpList_alloc_new rfl 27 rfl 4 _ pzPlace ?_; intro w4 b4 s4 l4) | (refine wpList_store_blk rfl 27 27 _ _ rfl _ rfl _ (placeC R C p q) rfl b4 rfl pzKey (placeC_one _ _ _ _) ?_; intro w5 b5 s5 k5; have V5 : Hid (Blk w5 w.heap.size 23 (u8s key) ∧ Blk w5 (w.heap.size + 1) 27 (placeC r c p q) ∧ Below w.heap.size w w5 ∧ Blk w5 w3.heap.size 27 (placeC R C p q)) := (by have L5 : Below w3.heap.size w3 w5 := below_kept l4 k5 (by omega) (fun j hj => by omega); exact ⟨V3.out.1.later L5 V3.out.1.lt, V3.out.2.1.later L5 V3.out.2.1.lt, below_chain V3.out.2.2 L5 V3.out.2.2.size, b5⟩)) | ((with_reducible show wpList _ _ _ (({ dst := some 31, op := _, type := _, pos := _, after := _, guard := _ } : Oper) :: _) _ _); refine wpList_load_blk rfl 27 _ rfl _ rfl (placeC R C p q) _ V5.out.2.2.2 Tryz.underlying27 rfl pzKey ?_) | ((with_reducible show wpList _ _ _ (({ dst := some 32, op := _, type := _, pos := _, after := _, guard := _ } : Oper) :: _) _ _); refine wpList_load_blk rfl 27 _ rfl _ rfl (placeC r c p q) _ V5.out.2.1 Tryz.underlying27 rfl pzKey ?_))
  go_ret2
  exact ⟨rfl, V5.out.2.2.1⟩
set_option maxRecDepth 20000 in
set_option maxHeartbeats 2000000 in
theorem popen_no (key : List Int) (r c p q : Int) (bo : Option Addr) (m d : Nat) (zs : List Int) (hk : key.length = 32) (hkb : Bytes key) (hr : Word r) (hc : U32 c) (hp : U32 p) (hq : U32 q) (h28 : 28 ≤ m) (hm : m ≤ 4124) (w : World) (hy : Seen w bo m zs) (hd : m ≤ d) (heq : (tellR zs == r && tellC zs == c) = true) (hO : opensL key (hdL r c) (moL p q) (zs.drop 12) = false) :
    Calls Tryz.prog 15 #[.agg (u8s key).toArray, .agg (placeC r c p q).toArray, .slice bo m d] w fun e w' => e = .returned (.tuple #[.slice none 0 0, .int .i64 120]) ∧ Below w.heap.size w w' := by
  have i1 : ¬ (4124 : Int) < (m : Int) := by omega
  have HY : Hid (Seen w bo m zs) := hy
  have HD : Hid (m ≤ d) := hd
  obtain ⟨R, hR⟩ : ∃ R, tellR zs = R := ⟨_, rfl⟩
  obtain ⟨C, hC⟩ : ∃ C, tellC zs = C := ⟨_, rfl⟩
  have HT : Hid (tellR zs = R ∧ tellC zs = C) := ⟨hR, hC⟩
  have HE : Hid ((!(R == r && C == c)) = false) := by show (!(R == r && C == c)) = false; rw [← hR, ← hC, heq]; rfl
  obtain ⟨H, hH⟩ : ∃ H, hdL r c = H := ⟨_, rfl⟩
  obtain ⟨M, hM⟩ : ∃ H, moL p q = H := ⟨_, rfl⟩
  obtain ⟨B, hB⟩ : ∃ B, zs.drop 12 = B := ⟨_, rfl⟩
  have HH : Hid (hdL r c = H ∧ H.length = 12 ∧ Bytes H) := ⟨hH, by rw [← hH]; exact hdL_length r c, by rw [← hH]; exact hdL_bytes r c⟩
  have HM : Hid (moL p q = M ∧ M.length = 8 ∧ Bytes M) := ⟨hM, by rw [← hM]; exact moL_length p q, by rw [← hM]; exact moL_bytes p q⟩
  have HB : Hid ((∀ W, (Instr.sliceAt 28 (.slice bo m d) (some (.int .i64 12)) none none).run Tryz.prog W = .ok (.slice (subA bo 12 d) (m - 12) (d - 12)) W) ∧ Seen w (subA bo 12 d) (m - 12) B ∧ opensL key H M B = false) := by
    refine ⟨fun W => sl_l bo m d 12 (by omega) W, ?_, by rw [← hH, ← hM, ← hB]; exact hO⟩
    have h := hy.sub 12 m d (by omega) (Nat.le_refl _) hd
    rwa [hB, List.take_of_length_le (by rw [← hB, List.length_drop, hy.len]; omega)] at h
  have HK : Hid (key.length = 32 ∧ Bytes key ∧ Word r ∧ U32 c ∧ U32 p ∧ U32 q) := ⟨hk, hkb, hr, hc, hp, hq⟩
  clear hy hd hR hC heq hH hM hB hk hkb hr hc hp hq hO
  go_enter Tryz.func15, Tryz.ntmps15
  go_wp2_with (first | (refine wpList_box_new rfl 23 _ rfl (u8s key) rfl ?_; intro w1 b1 s1 l1) | (refine wpList_box_new rfl 27 _ rfl (placeC r c p q) rfl ?_; intro w2 b2 s2 l2))
  refine (phead_any bo m d zs w2 (HY.out.later (below_chain l1 l2 (by omega)) (Nat.le_refl _)) h28 HD.out).mono ?_
  rintro e w3 ⟨rfl, l3⟩
  rw [HT.out.1, HT.out.2]
  have q3 := l3.size
  rw [s1] at b2
  have V3 : Hid (Blk w3 w.heap.size 23 (u8s key) ∧ Blk w3 (w.heap.size + 1) 27 (placeC r c p q) ∧ Below w.heap.size w w3) := ⟨(b1.later l2 (by omega)).later l3 (by omega), b2.later l3 (by omega), below_chain (below_chain l1 l2 (by omega)) l3 (by omega)⟩
  have cp : w3.cell? ⟨w.heap.size + 1, 2, none⟩ = some (.int .u32 p) := V3.out.2.1.cell 2
  have cq : w3.cell? ⟨w.heap.size + 1, 3, none⟩ = some (.int .u32 q) := V3.out.2.1.cell 3
  clear b1 b2 l1 l2 l3 s2 s1 q3
  have NP := neq_place R C p q r c
  rw [HE.out] at NP
  go_wp2_with (first | (refine wpList_build rfl 27 _ rfl #[(0, .int .u64 R), (1, .int .u32 C), (2, .int .u32 p), (3, .int .u32 q)] (by simp only [List.map_toArray, List.map_cons, List.map_nil]; rfl) _ (pbuild R C p q _) ?_) | (refine wpList_alloc_new rfl 27 rfl 4 _ pzPlace ?_; intro w4 b4 s4 l4) | (refine wpList_store_blk rfl 27 27 _ _ rfl _ rfl _ (placeC R C p q) rfl b4 rfl pzKey (placeC_one _ _ _ _) ?_; intro w5 b5 s5 k5; have V5 : Hid (Blk w5 w.heap.size 23 (u8s key) ∧ Blk w5 (w.heap.size + 1) 27 (placeC r c p q) ∧ Below w.heap.size w w5 ∧ Blk w5 w3.heap.size 27 (placeC R C p q)) := (by have L5 : Below w3.heap.size w3 w5 := below_kept l4 k5 (by omega) (fun j hj => by omega); exact ⟨V3.out.1.later L5 V3.out.1.lt, V3.out.2.1.later L5 V3.out.2.1.lt, below_chain V3.out.2.2 L5 V3.out.2.2.size, b5⟩)) | ((with_reducible show wpList _ _ _ (({ dst := some 31, op := _, type := _, pos := _, after := _, guard := _ } : Oper) :: _) _ _); refine wpList_load_blk rfl 27 _ rfl _ rfl (placeC R C p q) _ V5.out.2.2.2 Tryz.underlying27 rfl pzKey ?_) | ((with_reducible show wpList _ _ _ (({ dst := some 32, op := _, type := _, pos := _, after := _, guard := _ } : Oper) :: _) _ _); refine wpList_load_blk rfl 27 _ rfl _ rfl (placeC r c p q) _ V5.out.2.1 Tryz.underlying27 rfl pzKey ?_))
  clear NP cp cq b4 s4 l4 b5 s5 k5
  refine region_inv [.val (.agg (u8s key).toArray), .val (.agg (placeC r c p q).toArray), .val (.agg (u8s H).toArray), .val (.agg (placeC r c p q).toArray), .any (isO w.heap.size 8 M) (isO_later _ _ _), .val (.slice bo m d), .val (.slice (subA bo 12 d) (m - 12) (d - 12)), .val (.tuple #[.slice none 0 0, .int .i64 70]), .val (.tuple #[.slice none 0 0, .int .i64 70]), .val (.slice none 0 0), .val (.int .i64 70), .val (.slice none 0 0)] (by kernel_rfl) (by kernel_rfl) (by kernel_rfl) ?_ ?_
  · refine Steps'.cons ?_ (Steps'.cons ?_ (Steps'.cons ?_ (Steps'.cons ?_ (Steps'.cons ?_ (Steps'.cons ?_ (Steps'.cons ?_ (Steps'.cons ?_ (Steps'.cons ?_ (Steps'.cons ?_ (Steps'.cons ?_ (Steps'.cons ?_ (Steps'.one _ _ _ _ _ _ _))))))))))))
    · intro ax wx hb hs hd
      have h3 : ax.tmps.getD 3 undef = (.pointer (some ⟨w.heap.size, 0, none⟩)) := hs 3 (by kernel_rfl)
      exact Does.load 23 (.tmp 3) rfl w.heap.size 0 h3 (u8s key) _ ((V5.out.1).later hb (V5.out.1).lt).all Tryz.underlying23 rfl (by rw [u8s_length, HK.out.1]; exact sizeKey)
    · intro ax wx hb hs hd
      have h4 : ax.tmps.getD 4 undef = (.pointer (some ⟨w.heap.size + 1, 0, none⟩)) := hs 4 (by kernel_rfl)
      exact Does.load 27 (.tmp 4) rfl (w.heap.size + 1) 0 h4 (placeC r c p q) _ ((V5.out.2.1).later hb (V5.out.2.1).lt).all Tryz.underlying27 rfl pzKey
    · intro ax wx hb hs hd
      have h36 : ax.tmps.getD 36 undef = (.agg (placeC r c p q).toArray) := hd 1 36 rfl (by kernel_rfl) (by decide)
      refine Does.call 22 #[.agg (placeC r c p q).toArray] (by clear hs hd; go_simp) ?_
      refine (headOf_any r c p q HK.out.2.2.1 HK.out.2.2.2.1 wx).mono ?_
      rintro e w' ⟨rfl, l⟩
      rw [HH.out.1]
      exact ⟨_, rfl, rfl, l⟩
    · intro ax wx hb hs hd
      have h4 : ax.tmps.getD 4 undef = (.pointer (some ⟨w.heap.size + 1, 0, none⟩)) := hs 4 (by kernel_rfl)
      exact Does.load 27 (.tmp 4) rfl (w.heap.size + 1) 0 h4 (placeC r c p q) _ ((V5.out.2.1).later hb (V5.out.2.1).lt).all Tryz.underlying27 rfl pzKey
    · intro ax wx hb hs hd
      have h38 : ax.tmps.getD 38 undef = (.agg (placeC r c p q).toArray) := hd 3 38 rfl (by kernel_rfl) (by decide)
      refine Does.call 24 #[.agg (placeC r c p q).toArray] (by clear hs hd; go_simp) ?_
      refine (vouch_any r c p q HK.out.2.2.2.2.1 HK.out.2.2.2.2.2 wx).mono ?_
      rintro e w' ⟨v, rfl, o, l⟩
      rw [HM.out.1] at o
      exact ⟨_, rfl, ownsRow_base o (by have := hb.size; have := V5.out.2.2.1.size; omega), l⟩
    · intro ax wx hb hs hd
      have h2 : ax.tmps.getD 2 undef = (.slice bo m d) := hs 2 (by kernel_rfl)
      refine Does.value (.slice bo m d) ?_ rfl
      clear hs hd
      go_simp
    · intro ax wx hb hs hd
      have h40 : ax.tmps.getD 40 undef = (.slice bo m d) := hd 5 40 rfl (by kernel_rfl) (by decide)
      have S12 := HB.out.1
      refine Does.value (.slice (subA bo 12 d) (m - 12) (d - 12)) ?_ rfl
      clear hs hd
      go_simp
    · intro ax wx hb hs hd
      have h35 : ax.tmps.getD 35 undef = (.agg (u8s key).toArray) := hd 0 35 rfl (by kernel_rfl) (by decide)
      have h37 : ax.tmps.getD 37 undef = (.agg (u8s H).toArray) := hd 2 37 rfl (by kernel_rfl) (by decide)
      have p39 : (isO w.heap.size 8 M) (ax.tmps.getD 39 undef) wx := hd 4 39 rfl (by kernel_rfl) (by decide)
      have h41 : ax.tmps.getD 41 undef = (.slice (subA bo 12 d) (m - 12) (d - 12)) := hd 6 41 rfl (by kernel_rfl) (by decide)
      obtain ⟨mo, mc, h39, s39, c39, _⟩ := pown_sl HM.out.2.1 HM.out.2.2 (by decide) p39
      clear p39
      refine Does.call 29 #[.agg (u8s key).toArray, .agg (u8s H).toArray, .slice mo 8 mc, .slice (subA bo 12 d) (m - 12) (d - 12)] (by clear hs hd; go_simp) ?_
      refine (open_no key H 8 mc (m - 12) (d - 12) mo (subA bo 12 d) M B HK.out.1 HH.out.2.1 HK.out.2.1 HH.out.2.2 (by omega) (by omega) (by decide) wx s39 (HB.out.2.1.later (below_chain V5.out.2.2.1 hb V5.out.2.2.1.size) (Nat.le_refl _)) c39 (by have := HD.out; omega) HB.out.2.2).mono ?_
      rintro e w' ⟨rfl, l⟩
      exact ⟨_, rfl, rfl, l⟩
    · intro ax wx hb hs hd
      have h42 : ax.tmps.getD 42 undef = (.tuple #[.slice none 0 0, .int .i64 70]) := hd 7 42 rfl (by kernel_rfl) (by decide)
      refine Does.value (.tuple #[.slice none 0 0, .int .i64 70]) ?_ rfl
      clear hs hd
      go_simp
    · intro ax wx hb hs hd
      have h34 : ax.tmps.getD 34 undef = (.tuple #[.slice none 0 0, .int .i64 70]) := hd 8 34 rfl (by kernel_rfl) (by decide)
      refine Does.value (.slice none 0 0) ?_ rfl
      clear hs hd
      go_simp
    · intro ax wx hb hs hd
      have h34 : ax.tmps.getD 34 undef = (.tuple #[.slice none 0 0, .int .i64 70]) := hd 8 34 rfl (by kernel_rfl) (by decide)
      refine Does.value (.int .i64 70) ?_ rfl
      clear hs hd
      go_simp
    · intro ax wx hb hs hd
      have h43 : ax.tmps.getD 43 undef = (.slice none 0 0) := hd 9 43 rfl (by kernel_rfl) (by decide)
      refine Does.value (.slice none 0 0) ?_ rfl
      clear hs hd
      go_simp
  · intro wx hb
    refine @Ends.val _ _ _ _ _ _ _ _ _ (.agg (u8s key).toArray) rfl ?_
    refine @Ends.val _ _ _ _ _ _ _ _ _ (.agg (placeC r c p q).toArray) rfl ?_
    refine @Ends.val _ _ _ _ _ _ _ _ _ (.agg (u8s H).toArray) rfl ?_
    refine @Ends.val _ _ _ _ _ _ _ _ _ (.agg (placeC r c p q).toArray) rfl ?_
    refine @Ends.any _ _ _ _ _ _ _ _ _ (isO w.heap.size 8 M) (isO_later _ _ _) rfl ?_
    intro v39 p39
    refine @Ends.val _ _ _ _ _ _ _ _ _ (.slice bo m d) rfl ?_
    refine @Ends.val _ _ _ _ _ _ _ _ _ (.slice (subA bo 12 d) (m - 12) (d - 12)) rfl ?_
    refine @Ends.val _ _ _ _ _ _ _ _ _ (.tuple #[.slice none 0 0, .int .i64 70]) rfl ?_
    refine @Ends.val _ _ _ _ _ _ _ _ _ (.tuple #[.slice none 0 0, .int .i64 70]) rfl ?_
    refine @Ends.val _ _ _ _ _ _ _ _ _ (.slice none 0 0) rfl ?_
    refine @Ends.val _ _ _ _ _ _ _ _ _ (.int .i64 70) rfl ?_
    refine @Ends.val _ _ _ _ _ _ _ _ _ (.slice none 0 0) rfl ?_
    refine @Ends.one _ _ _ _ _ _ _ ?_
    simp only [Act.put, List.setIfInBounds_toArray, List.set_cons_zero, List.set_cons_succ]
    have W1 : Hid (Below w.heap.size w wx) := below_chain V5.out.2.2.1 hb V5.out.2.2.1.size
    clear p39
    refine last_assign (.tmp 44) rfl (some 10) rfl (.int .i64 70) rfl ?_
    simp only [Act.put, List.setIfInBounds_toArray, List.set_cons_zero, List.set_cons_succ]
    go_wp2_with (go_at_call 25; refine (is_any 70 _).mono ?_; rintro e w' ⟨rfl, rfl⟩; rw [show ((70 : Int) == 0) = false from rfl])
    go_ret2
    exact ⟨rfl, W1.out⟩
set_option maxRecDepth 20000 in
set_option maxHeartbeats 2000000 in
theorem popen_yes (key : List Int) (r c p q : Int) (bo : Option Addr) (m d : Nat) (zs : List Int) (hk : key.length = 32) (hkb : Bytes key) (hr : Word r) (hc : U32 c) (hp : U32 p) (hq : U32 q) (h28 : 28 ≤ m) (hm : m ≤ 4124) (w : World) (hy : Seen w bo m zs) (hd : m ≤ d) (heq : (tellR zs == r && tellC zs == c) = true) (hO : opensL key (hdL r c) (moL p q) (zs.drop 12) = true) :
    Calls Tryz.prog 15 #[.agg (u8s key).toArray, .agg (placeC r c p q).toArray, .slice bo m d] w fun e w' => ∃ v, e = .returned (.tuple #[v, .int .i64 0]) ∧ isO w.heap.size (m - 28) (textL key (hdL r c) (zs.drop 12)) v w' ∧ Below w.heap.size w w' := by
  have i1 : ¬ (4124 : Int) < (m : Int) := by omega
  have HY : Hid (Seen w bo m zs) := hy
  have HD : Hid (m ≤ d) := hd
  obtain ⟨R, hR⟩ : ∃ R, tellR zs = R := ⟨_, rfl⟩
  obtain ⟨C, hC⟩ : ∃ C, tellC zs = C := ⟨_, rfl⟩
  have HT : Hid (tellR zs = R ∧ tellC zs = C) := ⟨hR, hC⟩
  have HE : Hid ((!(R == r && C == c)) = false) := by show (!(R == r && C == c)) = false; rw [← hR, ← hC, heq]; rfl
  obtain ⟨H, hH⟩ : ∃ H, hdL r c = H := ⟨_, rfl⟩
  obtain ⟨M, hM⟩ : ∃ H, moL p q = H := ⟨_, rfl⟩
  obtain ⟨B, hB⟩ : ∃ B, zs.drop 12 = B := ⟨_, rfl⟩
  have HH : Hid (hdL r c = H ∧ H.length = 12 ∧ Bytes H) := ⟨hH, by rw [← hH]; exact hdL_length r c, by rw [← hH]; exact hdL_bytes r c⟩
  have HM : Hid (moL p q = M ∧ M.length = 8 ∧ Bytes M) := ⟨hM, by rw [← hM]; exact moL_length p q, by rw [← hM]; exact moL_bytes p q⟩
  have HB : Hid ((∀ W, (Instr.sliceAt 28 (.slice bo m d) (some (.int .i64 12)) none none).run Tryz.prog W = .ok (.slice (subA bo 12 d) (m - 12) (d - 12)) W) ∧ Seen w (subA bo 12 d) (m - 12) B ∧ opensL key H M B = true) := by
    refine ⟨fun W => sl_l bo m d 12 (by omega) W, ?_, by rw [← hH, ← hM, ← hB]; exact hO⟩
    have h := hy.sub 12 m d (by omega) (Nat.le_refl _) hd
    rwa [hB, List.take_of_length_le (by rw [← hB, List.length_drop, hy.len]; omega)] at h
  have HK : Hid (key.length = 32 ∧ Bytes key ∧ Word r ∧ U32 c ∧ U32 p ∧ U32 q) := ⟨hk, hkb, hr, hc, hp, hq⟩
  obtain ⟨X, hX⟩ : ∃ X, textL key H B = X := ⟨_, rfl⟩
  have HX : Hid (textL key H B = X) := hX
  rw [hH, hB, hX]
  clear hX
  clear hy hd hR hC heq hH hM hB hk hkb hr hc hp hq hO
  go_enter Tryz.func15, Tryz.ntmps15
  go_wp2_with (first | (refine wpList_box_new rfl 23 _ rfl (u8s key) rfl ?_; intro w1 b1 s1 l1) | (refine wpList_box_new rfl 27 _ rfl (placeC r c p q) rfl ?_; intro w2 b2 s2 l2))
  refine (phead_any bo m d zs w2 (HY.out.later (below_chain l1 l2 (by omega)) (Nat.le_refl _)) h28 HD.out).mono ?_
  rintro e w3 ⟨rfl, l3⟩
  rw [HT.out.1, HT.out.2]
  have q3 := l3.size
  rw [s1] at b2
  have V3 : Hid (Blk w3 w.heap.size 23 (u8s key) ∧ Blk w3 (w.heap.size + 1) 27 (placeC r c p q) ∧ Below w.heap.size w w3) := ⟨(b1.later l2 (by omega)).later l3 (by omega), b2.later l3 (by omega), below_chain (below_chain l1 l2 (by omega)) l3 (by omega)⟩
  have cp : w3.cell? ⟨w.heap.size + 1, 2, none⟩ = some (.int .u32 p) := V3.out.2.1.cell 2
  have cq : w3.cell? ⟨w.heap.size + 1, 3, none⟩ = some (.int .u32 q) := V3.out.2.1.cell 3
  clear b1 b2 l1 l2 l3 s2 s1 q3
  have NP := neq_place R C p q r c
  rw [HE.out] at NP
  go_wp2_with (first | (refine wpList_build rfl 27 _ rfl #[(0, .int .u64 R), (1, .int .u32 C), (2, .int .u32 p), (3, .int .u32 q)] (by simp only [List.map_toArray, List.map_cons, List.map_nil]; rfl) _ (pbuild R C p q _) ?_) | (refine wpList_alloc_new rfl 27 rfl 4 _ pzPlace ?_; intro w4 b4 s4 l4) | (refine wpList_store_blk rfl 27 27 _ _ rfl _ rfl _ (placeC R C p q) rfl b4 rfl pzKey (placeC_one _ _ _ _) ?_; intro w5 b5 s5 k5; have V5 : Hid (Blk w5 w.heap.size 23 (u8s key) ∧ Blk w5 (w.heap.size + 1) 27 (placeC r c p q) ∧ Below w.heap.size w w5 ∧ Blk w5 w3.heap.size 27 (placeC R C p q)) := (by have L5 : Below w3.heap.size w3 w5 := below_kept l4 k5 (by omega) (fun j hj => by omega); exact ⟨V3.out.1.later L5 V3.out.1.lt, V3.out.2.1.later L5 V3.out.2.1.lt, below_chain V3.out.2.2 L5 V3.out.2.2.size, b5⟩)) | ((with_reducible show wpList _ _ _ (({ dst := some 31, op := _, type := _, pos := _, after := _, guard := _ } : Oper) :: _) _ _); refine wpList_load_blk rfl 27 _ rfl _ rfl (placeC R C p q) _ V5.out.2.2.2 Tryz.underlying27 rfl pzKey ?_) | ((with_reducible show wpList _ _ _ (({ dst := some 32, op := _, type := _, pos := _, after := _, guard := _ } : Oper) :: _) _ _); refine wpList_load_blk rfl 27 _ rfl _ rfl (placeC r c p q) _ V5.out.2.1 Tryz.underlying27 rfl pzKey ?_))
  clear NP cp cq b4 s4 l4 b5 s5 k5
  refine region_inv [.val (.agg (u8s key).toArray), .val (.agg (placeC r c p q).toArray), .val (.agg (u8s H).toArray), .val (.agg (placeC r c p q).toArray), .any (isO w.heap.size 8 M) (isO_later _ _ _), .val (.slice bo m d), .val (.slice (subA bo 12 d) (m - 12) (d - 12)), .any (isT w.heap.size (m - 28) X 0) (isT_later _ _ _ _), .any (isT w.heap.size (m - 28) X 0) (isT_later _ _ _ _), .any (isO w.heap.size (m - 28) X) (isO_later _ _ _), .val (.int .i64 0), .any (isO w.heap.size (m - 28) X) (isO_later _ _ _)] (by kernel_rfl) (by kernel_rfl) (by kernel_rfl) ?_ ?_
  · refine Steps'.cons ?_ (Steps'.cons ?_ (Steps'.cons ?_ (Steps'.cons ?_ (Steps'.cons ?_ (Steps'.cons ?_ (Steps'.cons ?_ (Steps'.cons ?_ (Steps'.cons ?_ (Steps'.cons ?_ (Steps'.cons ?_ (Steps'.cons ?_ (Steps'.one _ _ _ _ _ _ _))))))))))))
    · intro ax wx hb hs hd
      have h3 : ax.tmps.getD 3 undef = (.pointer (some ⟨w.heap.size, 0, none⟩)) := hs 3 (by kernel_rfl)
      exact Does.load 23 (.tmp 3) rfl w.heap.size 0 h3 (u8s key) _ ((V5.out.1).later hb (V5.out.1).lt).all Tryz.underlying23 rfl (by rw [u8s_length, HK.out.1]; exact sizeKey)
    · intro ax wx hb hs hd
      have h4 : ax.tmps.getD 4 undef = (.pointer (some ⟨w.heap.size + 1, 0, none⟩)) := hs 4 (by kernel_rfl)
      exact Does.load 27 (.tmp 4) rfl (w.heap.size + 1) 0 h4 (placeC r c p q) _ ((V5.out.2.1).later hb (V5.out.2.1).lt).all Tryz.underlying27 rfl pzKey
    · intro ax wx hb hs hd
      have h36 : ax.tmps.getD 36 undef = (.agg (placeC r c p q).toArray) := hd 1 36 rfl (by kernel_rfl) (by decide)
      refine Does.call 22 #[.agg (placeC r c p q).toArray] (by clear hs hd; go_simp) ?_
      refine (headOf_any r c p q HK.out.2.2.1 HK.out.2.2.2.1 wx).mono ?_
      rintro e w' ⟨rfl, l⟩
      rw [HH.out.1]
      exact ⟨_, rfl, rfl, l⟩
    · intro ax wx hb hs hd
      have h4 : ax.tmps.getD 4 undef = (.pointer (some ⟨w.heap.size + 1, 0, none⟩)) := hs 4 (by kernel_rfl)
      exact Does.load 27 (.tmp 4) rfl (w.heap.size + 1) 0 h4 (placeC r c p q) _ ((V5.out.2.1).later hb (V5.out.2.1).lt).all Tryz.underlying27 rfl pzKey
    · intro ax wx hb hs hd
      have h38 : ax.tmps.getD 38 undef = (.agg (placeC r c p q).toArray) := hd 3 38 rfl (by kernel_rfl) (by decide)
      refine Does.call 24 #[.agg (placeC r c p q).toArray] (by clear hs hd; go_simp) ?_
      refine (vouch_any r c p q HK.out.2.2.2.2.1 HK.out.2.2.2.2.2 wx).mono ?_
      rintro e w' ⟨v, rfl, o, l⟩
      rw [HM.out.1] at o
      exact ⟨_, rfl, ownsRow_base o (by have := hb.size; have := V5.out.2.2.1.size; omega), l⟩
    · intro ax wx hb hs hd
      have h2 : ax.tmps.getD 2 undef = (.slice bo m d) := hs 2 (by kernel_rfl)
      refine Does.value (.slice bo m d) ?_ rfl
      clear hs hd
      go_simp
    · intro ax wx hb hs hd
      have h40 : ax.tmps.getD 40 undef = (.slice bo m d) := hd 5 40 rfl (by kernel_rfl) (by decide)
      have S12 := HB.out.1
      refine Does.value (.slice (subA bo 12 d) (m - 12) (d - 12)) ?_ rfl
      clear hs hd
      go_simp
    · intro ax wx hb hs hd
      have h35 : ax.tmps.getD 35 undef = (.agg (u8s key).toArray) := hd 0 35 rfl (by kernel_rfl) (by decide)
      have h37 : ax.tmps.getD 37 undef = (.agg (u8s H).toArray) := hd 2 37 rfl (by kernel_rfl) (by decide)
      have p39 : (isO w.heap.size 8 M) (ax.tmps.getD 39 undef) wx := hd 4 39 rfl (by kernel_rfl) (by decide)
      have h41 : ax.tmps.getD 41 undef = (.slice (subA bo 12 d) (m - 12) (d - 12)) := hd 6 41 rfl (by kernel_rfl) (by decide)
      obtain ⟨mo, mc, h39, s39, c39, _⟩ := pown_sl HM.out.2.1 HM.out.2.2 (by decide) p39
      clear p39
      refine Does.call 29 #[.agg (u8s key).toArray, .agg (u8s H).toArray, .slice mo 8 mc, .slice (subA bo 12 d) (m - 12) (d - 12)] (by clear hs hd; go_simp) ?_
      refine (open_yes key H 8 mc (m - 12) (d - 12) mo (subA bo 12 d) M B HK.out.1 HH.out.2.1 HK.out.2.1 HH.out.2.2 (by omega) (by omega) (by decide) wx s39 (HB.out.2.1.later (below_chain V5.out.2.2.1 hb V5.out.2.2.1.size) (Nat.le_refl _)) c39 (by have := HD.out; omega) HB.out.2.2).mono ?_
      rintro e w' ⟨v, rfl, o, l⟩
      rw [HX.out, show m - 12 - 16 = m - 28 by omega] at o
      exact ⟨_, rfl, ⟨v, rfl, ownsRow_base o (by have := hb.size; have := V5.out.2.2.1.size; omega)⟩, l⟩
    · intro ax wx hb hs hd
      have p42 : (isT w.heap.size (m - 28) X 0) (ax.tmps.getD 42 undef) wx := hd 7 42 rfl (by kernel_rfl) (by decide)
      obtain ⟨u, h42, o⟩ := p42
      refine Does.value (.tuple #[u, .int .i64 0]) ?_ ⟨u, rfl, o⟩
      clear hs hd
      go_simp
    · intro ax wx hb hs hd
      have p34 : (isT w.heap.size (m - 28) X 0) (ax.tmps.getD 34 undef) wx := hd 8 34 rfl (by kernel_rfl) (by decide)
      obtain ⟨u, h34, o⟩ := p34
      refine Does.value u ?_ o
      clear hs hd
      go_simp
    · intro ax wx hb hs hd
      have p34 : (isT w.heap.size (m - 28) X 0) (ax.tmps.getD 34 undef) wx := hd 8 34 rfl (by kernel_rfl) (by decide)
      obtain ⟨u, h34, o⟩ := p34
      refine Does.value (.int .i64 0) ?_ rfl
      clear hs hd
      go_simp
    · intro ax wx hb hs hd
      have p43 : (isO w.heap.size (m - 28) X) (ax.tmps.getD 43 undef) wx := hd 9 43 rfl (by kernel_rfl) (by decide)
      obtain ⟨u, h43⟩ : ∃ u, ax.tmps.getD 43 undef = u := ⟨_, rfl⟩
      rw [h43] at p43
      refine Does.value u ?_ p43
      clear hs hd
      go_simp
  · intro wx hb
    refine @Ends.val _ _ _ _ _ _ _ _ _ (.agg (u8s key).toArray) rfl ?_
    refine @Ends.val _ _ _ _ _ _ _ _ _ (.agg (placeC r c p q).toArray) rfl ?_
    refine @Ends.val _ _ _ _ _ _ _ _ _ (.agg (u8s H).toArray) rfl ?_
    refine @Ends.val _ _ _ _ _ _ _ _ _ (.agg (placeC r c p q).toArray) rfl ?_
    refine @Ends.any _ _ _ _ _ _ _ _ _ (isO w.heap.size 8 M) (isO_later _ _ _) rfl ?_
    intro v39 p39
    refine @Ends.val _ _ _ _ _ _ _ _ _ (.slice bo m d) rfl ?_
    refine @Ends.val _ _ _ _ _ _ _ _ _ (.slice (subA bo 12 d) (m - 12) (d - 12)) rfl ?_
    refine @Ends.any _ _ _ _ _ _ _ _ _ (isT w.heap.size (m - 28) X 0) (isT_later _ _ _ _) rfl ?_
    intro v42 p42
    refine @Ends.any _ _ _ _ _ _ _ _ _ (isT w.heap.size (m - 28) X 0) (isT_later _ _ _ _) rfl ?_
    intro v34 p34
    refine @Ends.any _ _ _ _ _ _ _ _ _ (isO w.heap.size (m - 28) X) (isO_later _ _ _) rfl ?_
    intro v43 p43
    refine @Ends.val _ _ _ _ _ _ _ _ _ (.int .i64 0) rfl ?_
    refine @Ends.any _ _ _ _ _ _ _ _ _ (isO w.heap.size (m - 28) X) (isO_later _ _ _) rfl ?_
    intro v12 p12
    refine @Ends.one _ _ _ _ _ _ _ ?_
    simp only [Act.put, List.setIfInBounds_toArray, List.set_cons_zero, List.set_cons_succ]
    have W1 : Hid (isO w.heap.size (m - 28) X v12 wx ∧ Below w.heap.size w wx) := ⟨p12, below_chain V5.out.2.2.1 hb V5.out.2.2.1.size⟩
    clear p12 p43 p42 p39 p34
    refine last_assign (.tmp 44) rfl (some 10) rfl (.int .i64 0) rfl ?_
    simp only [Act.put, List.setIfInBounds_toArray, List.set_cons_zero, List.set_cons_succ]
    go_wp2_with (go_at_call 25; refine (is_any 0 _).mono ?_; rintro e w' ⟨rfl, rfl⟩; rw [show ((0 : Int) == 0) = true from rfl])
    go_ret2
    exact ⟨_, rfl, W1.out.1, W1.out.2⟩
end Go.Proofs.YtcimiajkbgabiaaGreat

namespace Go.Proofs.YtcimiajkbgabiaaGreat
open Go.RowKit
set_option linter.unusedVariables false
set_option linter.unusedSimpArgs false

set_option maxRecDepth 20000 in
set_option maxHeartbeats 1000000 in
theorem reqb_any (ao bo : Option Addr) (n n' c c' : Nat) (xs ys : List Int) (w : World) (hx : Seen w ao n xs) (hy : Seen w bo n' ys) :
    Calls Tryz.prog 8 #[.slice ao n c, .slice bo n' c'] w fun e w' => e = .returned (.bool (decide (xs = ys))) ∧ ∃ q, w' = w.drewN q := by
  have t1 := hx.top
  have t2 := hy.top
  by_cases hne : n = n'
  · subst hne
    have HL : Hid (xs.length = n ∧ ys.length = n) := ⟨hx.len, hy.len⟩
    go_enter Tryz.func8, Tryz.ntmps8
    go_wp2
    go_loopw [5] (fun i wr => ∃ k : Nat, k ≤ n ∧ i = .int .i64 k ∧ xs.take k = ys.take k ∧ ∃ q, wr = w.drewN q) (fun i _ => n - (intOf i).toNat)
    case atStart => exact ⟨0, Nat.zero_le _, rfl, by simp, 0, rfl⟩
    case round =>
      obtain ⟨k, hk, rfl, hs, q, rfl⟩ := hrel
      by_cases hlt : k < n
      · obtain ⟨b, o, rfl, hb, hc⟩ := hx.cells (by omega)
        obtain ⟨b', o', rfl, hb', hc'⟩ := hy.cells (by omega)
        have c1 := hc k hlt
        have c2 := hc' k hlt
        have HT := take_same_succ xs ys k (by have := HL.out.1; omega) (by have := HL.out.2; omega)
        obtain ⟨X, hX⟩ : ∃ X, xs.getD k 0 = X := ⟨_, rfl⟩
        obtain ⟨Y, hY⟩ : ∃ Y, ys.getD k 0 = Y := ⟨_, rfl⟩
        rw [hX] at c1 HT
        rw [hY] at c2 HT
        have HS : Hid (xs.take k = ys.take k) := hs
        have HT' : Hid (xs.take (k + 1) = ys.take (k + 1) ↔ xs.take k = ys.take k ∧ X = Y) := HT
        have i1 : (0 : Int) ≤ (k : Int) := by omega
        have i2 : (k : Int) < (n : Int) := by omega
        clear hX hY hc hc' hx hy hs HT hb hb'
        by_cases e : X = Y
        · have hd : (X != Y) = false := by simp [e]
          have HE : Hid (X = Y) := e
          clear e
          go_wp2
          go_quiet (fail)
          go_wp2
          go_roundw
          case rel => exact ⟨k + 1, by omega, by go_num, HT'.out.2 ⟨HS.out, HE.out⟩, _, rfl⟩
          case measure => simp [intOf]; omega
        · have hd : (X != Y) = true := by simp [e]
          have HE : Hid (¬ X = Y) := e
          clear e
          have HN : Hid (decide (xs = ys) = false) := by
            show _ = _
            apply decide_eq_false
            intro h
            exact HE.out (HT'.out.1 (by rw [h])).2
          go_wp2
          go_quiet (fail)
          go_wp2
          go_ret
          exact ⟨ret_bool HN.out.symm, _, World.drewN_drewN _ _ _⟩
      · have HE : Hid (decide (xs = ys) = true) := by
          show _ = _
          apply decide_eq_true
          have e1 : xs.take k = xs := List.take_of_length_le (by have := HL.out.1; omega)
          have e2 : ys.take k = ys := List.take_of_length_le (by have := HL.out.2; omega)
          rw [← e1, ← e2]; exact hs
        clear hs
        go_wp2
        go_ret
        exact ⟨ret_bool HE.out.symm, _, rfl⟩
  · have h : ((n : Int) != (n' : Int)) = true := by simp; omega
    have HN : Hid (decide (xs = ys) = false) := by
      show _ = _
      apply decide_eq_false
      intro h
      exact hne (by rw [← hx.len, ← hy.len, h])
    go_enter Tryz.func8, Tryz.ntmps8
    go_wp2
    go_ret
    exact ⟨ret_bool HN.out.symm, 0, rfl⟩
end Go.Proofs.YtcimiajkbgabiaaGreat

namespace Go.Proofs.YtcimiajkbgabiaaGreat
open Go.RowKit
set_option linter.unusedVariables false
set_option linter.unusedSimpArgs false

/-- A sheet: a key, a place, a slice of bytes. -/
structure Sh where
  key : List Int
  r : Int
  c : Int
  p : Int
  q : Int
  bo : Option Addr
  m : Nat
  d : Nat
  zs : List Int
def sheetC (s : Sh) : List Value := u8s s.key ++ (placeC s.r s.c s.p s.q ++ [.slice s.bo s.m s.d])
structure ShIn (w : World) (s : Sh) : Prop where
  k32 : s.key.length = 32
  kb : Bytes s.key
  hr : Word s.r
  hc : U32 s.c
  hp : U32 s.p
  hq : U32 s.q
  text : Seen w s.bo s.m s.zs
  hd : s.m ≤ s.d
  hn : s.bo = none → s.d = 0
theorem ShIn.later {w w' : World} {s : Sh} (h : ShIn w s) {B : Nat} (hb : Below B w w') (hB : w.heap.size ≤ B) : ShIn w' s := ⟨h.k32, h.kb, h.hr, h.hc, h.hp, h.hq, h.text.later hb hB, h.hd, h.hn⟩
/-- A sheet in block g. -/
structure ShAt (w : World) (g : Nat) (s : Sh) : Prop where
  blk : Blk w g 30 (sheetC s)
  is : ShIn w s
theorem ShAt.later {w w' : World} {g : Nat} {s : Sh} (h : ShAt w g s) (hb : Below w.heap.size w w') : ShAt w' g s := ⟨h.blk.later hb h.blk.lt, h.is.later hb (Nat.le_refl _)⟩
theorem ShAt.dn {w : World} {g : Nat} {s : Sh} (h : ShAt w g s) (q : Nat) : ShAt (w.drewN q) g s := h.later (below_dn (Below.refl _ _) q)
theorem ShAt.key {w : World} {g : Nat} {s : Sh} (h : ShAt w g s) : w.rangeAt g 0 (u8s s.key) := by
  have := Blk.range (xs := []) (ys := u8s s.key) h.blk
  simpa using this
theorem ShAt.place {w : World} {g : Nat} {s : Sh} (h : ShAt w g s) : w.rangeAt g 32 (placeC s.r s.c s.p s.q) := by
  have := Blk.range (xs := u8s s.key) (ys := placeC s.r s.c s.p s.q) h.blk
  rwa [u8s_length, h.is.k32] at this
theorem ShAt.cell {w : World} {g : Nat} {s : Sh} (h : ShAt w g s) (j : Nat) : w.cell? ⟨g, 32 + j, none⟩ = (placeC s.r s.c s.p s.q ++ [.slice s.bo s.m s.d])[j]? := by
  rw [h.blk.cell, sheetC, List.getElem?_append_right (by rw [u8s_length, h.is.k32]; omega), u8s_length, h.is.k32, Nat.add_sub_cancel_left]
theorem ShAt.cT {w : World} {g : Nat} {s : Sh} (h : ShAt w g s) : w.cell? ⟨g, 36, none⟩ = some (.slice s.bo s.m s.d) := h.cell 4
theorem ShAt.cR {w : World} {g : Nat} {s : Sh} (h : ShAt w g s) : w.cell? ⟨g, 32, none⟩ = some (.int .u64 s.r) := h.cell 0
theorem ShAt.cC {w : World} {g : Nat} {s : Sh} (h : ShAt w g s) : w.cell? ⟨g, 33, none⟩ = some (.int .u32 s.c) := h.cell 1
/-- Does Open open it? -/
def pOpens (key : List Int) (r c p q : Int) (zs : List Int) : Bool := decide (28 ≤ zs.length) && decide (zs.length ≤ 4124) && ((tellR zs == r && tellC zs == c) && opensL key (hdL r c) (moL p q) (zs.drop 12))
/-- What Open answers then. -/
def pText (key : List Int) (r c : Int) (zs : List Int) : List Int := textL key (hdL r c) (zs.drop 12)
theorem popen_bad (key : List Int) (r c p q : Int) (bo : Option Addr) (m d : Nat) (zs : List Int) (hk : key.length = 32) (hkb : Bytes key) (hr : Word r) (hc : U32 c) (hp : U32 p) (hq : U32 q) (w : World) (hy : Seen w bo m zs) (hd : m ≤ d) (hO : pOpens key r c p q zs = false) :
    Calls Tryz.prog 15 #[.agg (u8s key).toArray, .agg (placeC r c p q).toArray, .slice bo m d] w fun e w' => e = .returned (.tuple #[.slice none 0 0, .int .i64 120]) ∧ Below w.heap.size w w' := by
  have hl := hy.len
  have t1 := hy.top
  by_cases h1 : 4124 < m
  · exact popen_long key r c p q bo m d t1 h1 w
  · by_cases h2 : m < 28
    · exact popen_short key r c p q bo m d h2 w
    · cases h3 : (tellR zs == r && tellC zs == c) with
      | false => exact popen_else key r c p q bo m d zs (by omega) (by omega) w hy hd h3
      | true =>
        refine popen_no key r c p q bo m d zs hk hkb hr hc hp hq (by omega) (by omega) w hy hd h3 ?_
        rw [pOpens, h3, decide_eq_true (by omega), decide_eq_true (by omega), Bool.true_and, Bool.true_and, Bool.true_and] at hO
        exact hO
theorem pOpens_len {key : List Int} {r c p q : Int} {zs : List Int} (h : pOpens key r c p q zs = true) : 28 ≤ zs.length ∧ zs.length ≤ 4124 ∧ (tellR zs == r && tellC zs == c) = true ∧ opensL key (hdL r c) (moL p q) (zs.drop 12) = true := by
  simp only [pOpens, Bool.and_eq_true, decide_eq_true_eq] at h
  exact ⟨h.1.1, h.1.2, by rw [h.2.1.1, h.2.1.2]; rfl, h.2.2⟩
theorem popen_good (key : List Int) (r c p q : Int) (bo : Option Addr) (m d : Nat) (zs : List Int) (hk : key.length = 32) (hkb : Bytes key) (hr : Word r) (hc : U32 c) (hp : U32 p) (hq : U32 q) (w : World) (hy : Seen w bo m zs) (hd : m ≤ d) (hO : pOpens key r c p q zs = true) :
    Calls Tryz.prog 15 #[.agg (u8s key).toArray, .agg (placeC r c p q).toArray, .slice bo m d] w fun e w' => ∃ v, e = .returned (.tuple #[v, .int .i64 0]) ∧ isO w.heap.size (m - 28) (pText key r c zs) v w' ∧ Below w.heap.size w w' := by
  obtain ⟨h1, h2, h3, h4⟩ := pOpens_len hO
  have hl := hy.len
  exact popen_yes key r c p q bo m d zs hk hkb hr hc hp hq (by omega) (by omega) w hy hd h3 h4
theorem tell_page (key : List Int) (r c p q : Int) {zs : List Int} (hb : Bytes zs) (hr : Word r) (hc : U32 c) : tellR (pageL key r c p q zs) = r ∧ tellC (pageL key r c p q zs) = c :=
  (tell_head (pageL_bytes key r c p q hb) (by rw [pageL_length]; omega) hr hc).2 (pageL_head key r c p q zs)
theorem opens_page (key : List Int) (r c p q : Int) {zs : List Int} (hb : Bytes zs) (hl : zs.length ≤ 4096) (hr : Word r) (hc : U32 c) : pOpens key r c p q (pageL key r c p q zs) = true := by
  have h := tell_page key r c p q hb hr hc
  rw [pOpens, pageL_length, decide_eq_true (by omega), decide_eq_true (by omega), h.1, h.2, pageL_box, opens_box]
  simp
theorem text_page (key : List Int) (r c p q : Int) {zs : List Int} (hb : Bytes zs) : pText key r c (pageL key r c p q zs) = zs := by rw [pText, pageL_box, text_box _ _ _ hb]
theorem page_text {key : List Int} {r c p q : Int} {zs : List Int} (hb : Bytes zs) (hr : Word r) (hc : U32 c) (h : pOpens key r c p q zs = true) : pageL key r c p q (pText key r c zs) = zs := by
  obtain ⟨h1, h2, h3, h4⟩ := pOpens_len h
  have ht : zs.take 12 = hdL r c := (tell_head hb (by omega) hr hc).1 (by simpa using h3)
  have hx := box_text key (hdL r c) (moL p q) (box := zs.drop 12) (fun z hz => hb z (List.mem_of_mem_drop hz)) h4
  rw [pageL, pText, hx, ← ht, List.take_append_drop]
def k7 : List Int := 7 :: List.replicate 31 0
theorem k7_bytes : Bytes k7 := fun z hz => by
  rcases List.mem_cons.1 hz with rfl | h
  · decide
  · rw [List.eq_of_mem_replicate h]; decide
theorem bk7 (w : World) : (Instr.build 23 #[(0, .int .u8 7)]).run Tryz.prog w = .ok (.agg (u8s k7).toArray) w := by kernel_rfl
theorem pb123 : Bytes [1, 2, 3] := fun z hz => by simp at hz; rcases hz with rfl | rfl | rfl <;> decide
set_option maxRecDepth 20000 in
set_option maxHeartbeats 4000000 in
theorem pworks_any (w : World) : Calls Tryz.prog 12 #[] w fun e w' => e = .returned (.bool true) ∧ Below w.heap.size w w' := by
  have W1 : Word 1 := ⟨by decide, by decide⟩
  have U1 : U32 1 := ⟨by decide, by decide⟩
  have U2 : U32 2 := ⟨by decide, by decide⟩
  have U5 : U32 5 := ⟨by decide, by decide⟩
  have hO := opens_page k7 1 2 5 1 pb123 (by decide) W1 U2
  have hT := text_page k7 1 2 5 1 pb123
  have hL := pageL_length k7 1 2 5 1 [1, 2, 3]
  have hB := pageL_bytes k7 1 2 5 1 pb123
  have hH := pageL_head k7 1 2 5 1 [1, 2, 3]
  have hR := tell_page k7 1 2 5 1 pb123 W1 U2
  obtain ⟨X, hX⟩ : ∃ X, pageL k7 1 2 5 1 [1, 2, 3] = X := ⟨_, rfl⟩
  rw [hX] at hO hT hL hB hH hR
  have e0 : X.getD 0 0 = 1 := by
    have : (X.take 12).getD 0 0 = 1 := by rw [hH]; decide +kernel
    simpa [List.getD, List.getElem?_take] using this
  have e8 : X.getD 8 0 = 2 := by
    have : (X.take 12).getD 8 0 = 2 := by rw [hH]; decide +kernel
    simpa [List.getD, List.getElem?_take] using this
  have HX : Hid (pageL k7 1 2 5 1 [1, 2, 3] = X ∧ X.length = 31 ∧ Bytes X ∧ pOpens k7 1 2 5 1 X = true ∧ pText k7 1 2 X = [1, 2, 3] ∧ tellR X = 1 ∧ tellC X = 2 ∧ X.getD 0 0 = 1 ∧ X.getD 8 0 = 2) := ⟨hX, hL, hB, hO, hT, hR.1, hR.2, e0, e8⟩
  clear hX hL hB hO hT hR e0 e8 hH
  go_enter Tryz.func12, Tryz.ntmps12
  go_wp2_with (first | (refine wpList_build rfl 27 _ rfl #[(0, .int .u64 1), (1, .int .u32 2), (2, .int .u32 5), (3, .int .u32 1)] (by simp only [List.map_toArray, List.map_cons, List.map_nil]; rfl) _ (pbuild 1 2 5 1 _) ?_) | (refine wpList_build rfl 23 _ rfl #[(0, .int .u8 7)] (by simp only [List.map_toArray, List.map_cons, List.map_nil]; rfl) _ (bk7 _) ?_) | (refine wpList_alloc_new rfl 27 rfl 4 _ pzPlace ?_; intro w1 b1 s1 l1) | (refine wpList_store_blk rfl 27 27 _ _ rfl _ rfl _ (placeC 1 2 5 1) rfl b1 rfl pzKey (placeC_one _ _ _ _) ?_; intro w2 b2 s2 k2) | (refine wpList_load_blk rfl 27 _ rfl w.heap.size rfl (placeC 1 2 5 1) _ b2 Tryz.underlying27 rfl pzKey ?_))
  have b4 : Blk (w2.alloc (.cells #[.int .u8 1, .int .u8 2, .int .u8 3] 5)) w2.heap.size 5 (u8s [1, 2, 3]) := heap_alloc_new w2 _
  have l4 : Below w2.heap.size w2 (w2.alloc (.cells #[.int .u8 1, .int .u8 2, .int .u8 3] 5)) := (Below.refl _ _).alloc (Nat.le_refl _) _
  obtain ⟨w4, hw4⟩ : ∃ W, w2.alloc (.cells #[.int .u8 1, .int .u8 2, .int .u8 3] 5) = W := ⟨_, rfl⟩
  rw [hw4] at b4 l4 ⊢
  clear hw4
  have e2 : w2.heap.size = w.heap.size + 1 := by omega
  have H4 : Hid (Blk w4 w.heap.size 27 (placeC 1 2 5 1) ∧ Blk w4 (w.heap.size + 1) 5 (u8s [1, 2, 3]) ∧ Below w.heap.size w w4) := by
    rw [← e2]
    exact ⟨b2.later l4 (by omega), b4, below_chain (below_kept l1 k2 (by omega) (fun j hj => by omega)) l4 (by omega)⟩
  clear b1 l1 b2 k2 b4 l4 s2 s1
  clear e2
  refine (pseal_any k7 1 2 5 1 (some ⟨w.heap.size + 1, 0, none⟩) 3 3 [1, 2, 3] rfl k7_bytes W1 U2 U5 U1 (by decide) w4 (seen_blk H4.out.2.1 pb123 (by decide)) (Nat.le_refl _)).mono ?_
  rintro e w5 ⟨v, rfl, o5, l5⟩
  rw [HX.out.1] at o5
  obtain ⟨vo, cap, rfl, d5, c5, _⟩ := pown_sl (n := 31) HX.out.2.1 HX.out.2.2.1 (by decide) o5
  obtain ⟨g, o, rfl, -, -⟩ := d5.cells (by decide)
  have x0 : w5.cell? ⟨g, o + 0, none⟩ = some (.int .u8 1) := by
    obtain ⟨b, oo, e, _, hc⟩ := d5.cells (by decide)
    cases e
    rw [hc 0 (by decide), HX.out.2.2.2.2.2.2.2.1]
  have x8 : w5.cell? ⟨g, o + 8, none⟩ = some (.int .u8 2) := by
    obtain ⟨b, oo, e, _, hc⟩ := d5.cells (by decide)
    cases e
    rw [hc 8 (by decide), HX.out.2.2.2.2.2.2.2.2]
  rw [Nat.add_zero] at x0
  have H5 : Hid (Blk w5 w.heap.size 27 (placeC 1 2 5 1) ∧ Seen w5 (some ⟨g, o, none⟩) 31 X ∧ 31 ≤ cap ∧ Below w.heap.size w w5) := ⟨H4.out.1.later l5 H4.out.1.lt, d5, c5, below_chain H4.out.2.2 l5 H4.out.2.2.size⟩
  clear o5 l5 d5 c5
  go_wp2_with (first | (refine wpList_build rfl 23 _ rfl #[(0, .int .u8 7)] (by simp only [List.map_toArray, List.map_cons, List.map_nil]; rfl) _ (bk7 _) ?_) | (refine wpList_load_blk rfl 27 _ rfl w.heap.size rfl (placeC 1 2 5 1) _ H5.out.1 Tryz.underlying27 rfl pzKey ?_))
  refine (popen_good k7 1 2 5 1 (some ⟨g, o, none⟩) 31 cap X rfl k7_bytes W1 U2 U5 U1 w5 H5.out.2.1 H5.out.2.2.1 HX.out.2.2.2.1).mono ?_
  rintro e w6 ⟨v, rfl, o6, l6⟩
  rw [HX.out.2.2.2.2.1] at o6
  obtain ⟨to, tc, rfl, d6, c6, _⟩ := pown_sl (n := 3) (zs := [1, 2, 3]) rfl pb123 (by decide) o6
  have H6 : Hid (Seen w6 (some ⟨g, o, none⟩) 31 X ∧ Seen w6 to 3 [1, 2, 3] ∧ Below w.heap.size w w6) := ⟨H5.out.2.1.later l6 (Nat.le_refl _), d6, below_chain H5.out.2.2.2 l6 H5.out.2.2.2.size⟩
  clear o6 d6 l6 x0 x8
  go_wp2_with fail
  refine (phead_any (some ⟨g, o, none⟩) 31 cap X w6 H6.out.1 (by decide) H5.out.2.2.1).mono ?_
  rintro e w7 ⟨rfl, l7⟩
  rw [HX.out.2.2.2.2.2.1, HX.out.2.2.2.2.2.2.1]
  have H7 : Hid (Seen w7 to 3 [1, 2, 3] ∧ Below w.heap.size w w7) := ⟨H6.out.2.1.later l7 (Nat.le_refl _), below_chain H6.out.2.2 l7 H6.out.2.2.size⟩
  clear l7
  go_wp2_with fail
  have b8 : Blk (w7.alloc (.cells #[.int .u8 1, .int .u8 2, .int .u8 3] 5)) w7.heap.size 5 (u8s [1, 2, 3]) := heap_alloc_new w7 _
  have l8 : Below w7.heap.size w7 (w7.alloc (.cells #[.int .u8 1, .int .u8 2, .int .u8 3] 5)) := (Below.refl _ _).alloc (Nat.le_refl _) _
  obtain ⟨w8, hw8⟩ : ∃ W, w7.alloc (.cells #[.int .u8 1, .int .u8 2, .int .u8 3] 5) = W := ⟨_, rfl⟩
  rw [hw8] at b8 l8 ⊢
  clear hw8
  have H8 : Hid (Seen w8 to 3 [1, 2, 3] ∧ Seen w8 (some ⟨w7.heap.size, 0, none⟩) 3 [1, 2, 3] ∧ Below w.heap.size w w8) := ⟨H7.out.1.later l8 (Nat.le_refl _), seen_blk b8 pb123 (by decide), below_chain H7.out.2 l8 H7.out.2.size⟩
  clear b8 l8
  refine (reqb_any to (some ⟨w7.heap.size, 0, none⟩) 3 3 tc 3 [1, 2, 3] [1, 2, 3] w8 H8.out.1 H8.out.2.1).mono ?_
  rintro e w9 ⟨rfl, q, rfl⟩
  rw [decide_eq_true rfl]
  go_wp2_with fail
  go_ret
  exact ⟨rfl, below_dn H8.out.2.2 q⟩
end Go.Proofs.YtcimiajkbgabiaaGreat

namespace Go.Proofs.YtcimiajkbgabiaaGreat
open Go.RowKit
set_option linter.unusedVariables false
set_option linter.unusedSimpArgs false

abbrev Wd (x : Int) : Prop := 0 ≤ x ∧ x < 4294967296
theorem or_sum (q r n : Nat) (h : r < 2 ^ n) : (q * 2 ^ n) ||| r = q * 2 ^ n + r := by
  rw [Nat.mul_comm, Nat.two_pow_add_eq_or_of_lt h]
theorem rotl_sum (x : Int) (n : Nat) (hx : Wd x) (hn : TurnL n) : rotl x n = x * 2 ^ n % 4294967296 + x / 2 ^ (32 - n) ∧ Wd (rotl x n) := by
  obtain ⟨X, rfl⟩ : ∃ X : Nat, x = (X : Int) := ⟨x.toNat, by omega⟩
  have hX : X < 4294967296 := by omega
  rcases hn with rfl | rfl | rfl | rfl
  all_goals
    unfold rotl
    rw [u32_or _ _ (by omega) (by omega) (by omega) (by omega)]
    suffices h : _ = _ from ⟨h, by rw [h]; constructor <;> omega⟩
    first
    | (have e : ((X : Int) * 2 ^ 16 % 4294967296).toNat = (X % 65536) * 2 ^ 16 := by omega
       have e2 : ((X : Int) / 2 ^ (32 - 16)).toNat = X / 65536 := by omega
       rw [e, e2, or_sum _ _ 16 (by omega)]; omega)
    | (have e : ((X : Int) * 2 ^ 12 % 4294967296).toNat = (X % 1048576) * 2 ^ 12 := by omega
       have e2 : ((X : Int) / 2 ^ (32 - 12)).toNat = X / 1048576 := by omega
       rw [e, e2, or_sum _ _ 12 (by omega)]; omega)
    | (have e : ((X : Int) * 2 ^ 8 % 4294967296).toNat = (X % 16777216) * 2 ^ 8 := by omega
       have e2 : ((X : Int) / 2 ^ (32 - 8)).toNat = X / 16777216 := by omega
       rw [e, e2, or_sum _ _ 8 (by omega)]; omega)
    | (have e : ((X : Int) * 2 ^ 7 % 4294967296).toNat = (X % 33554432) * 2 ^ 7 := by omega
       have e2 : ((X : Int) / 2 ^ (32 - 7)).toNat = X / 33554432 := by omega
       rw [e, e2, or_sum _ _ 7 (by omega)]; omega)
theorem xor_64 (x y : Int) (hx : Wd x) (hy : Wd y) : bits .xor .u64 x y = bits .xor .u32 x y ∧ Wd (bits .xor .u32 x y) := by
  have h1 : x.toNat ^^^ y.toNat < 2 ^ 32 := Nat.xor_lt_two_pow (by omega) (by omega)
  rw [u64_xor x y hx.1 (by omega) hy.1 (by omega), u32_xor x y hx.1 hx.2 hy.1 hy.2]
  exact ⟨rfl, by omega, by omega⟩
theorem rplus_any (a b : Int) (ha : Wd a) (hb : Wd b) (w : World) : Calls Tryz.prog 91 #[.int .u64 a, .int .u64 b] w fun e w' => e = .returned (.int .u64 ((a + b) % 4294967296)) ∧ w = w' := by
  go_enter Tryz.func91, Tryz.ntmps91
  go_wp2_with fail
  go_ret
  exact ⟨rfl, rfl⟩
theorem ragainst_any (a b : Int) (ha : Wd a) (hb : Wd b) (w : World) : Calls Tryz.prog 86 #[.int .u64 a, .int .u64 b] w fun e w' => e = .returned (.int .u64 (bits .xor .u32 a b)) ∧ w = w' := by
  rw [← (xor_64 a b ha hb).1]
  go_enter Tryz.func86, Tryz.ntmps86
  go_wp2_with fail
  go_ret
  exact ⟨rfl, rfl⟩
theorem rleft_any (a : Int) (n : Nat) (ha : Wd a) (hn : TurnL n) (w : World) : Calls Tryz.prog 108 #[.int .u64 a, .int .i64 n] w fun e w' => e = .returned (.int .u64 (rotl a n)) ∧ ∃ q, w' = w.drewN q := by
  have hr := (rotl_sum a n ha hn).1
  rw [hr]
  clear hr
  rcases hn with rfl | rfl | rfl | rfl
  all_goals
    go_enter Tryz.func108, Tryz.ntmps108
    go_wp2_with fail
    go_quiet (fail)
    go_wp2_with fail
    go_ret
    refine ⟨?_, _, rfl⟩
    simp
def q64s (zs : List Int) : List Value := zs.map (Value.int .u64)
theorem q64s_length (zs : List Int) : (q64s zs).length = zs.length := by simp [q64s]
theorem q64s_one (zs : List Int) : ∀ v ∈ q64s zs, v.oneCell' = true := one_ints _ _
theorem u64s_set (zs : List Int) (j : Nat) (z : Int) : (q64s zs).set j (.int .u64 z) = q64s (zs.set j z) := by simp [q64s, List.map_set]
theorem u64s_cell {w : World} {g : Nat} {t : TypeId} {zs : List Int} (h : Blk w g t (q64s zs)) (j : Nat) (hj : j < zs.length) : w.cell? ⟨g, j, none⟩ = some (.int .u64 (zs.getD j 0)) := by
  rw [h.cell]; simp [q64s, hj, List.getD]
theorem zero4q : (Tryz.prog.info? 137).map (fun i => (i.zero, i.size)) = some (some (.agg (q64s [0, 0, 0, 0]).toArray), 4) := by kernel_rfl
theorem size4q : (Tryz.prog.info? 137).map (·.size) = some 4 := by kernel_rfl
def turnsV : List Value := [.int .i64 16, .int .i64 12, .int .i64 8, .int .i64 7]
theorem zero4i : (Tryz.prog.info? 161).map (fun i => (i.zero, i.size)) = some (some (.agg ([.int .i64 0, .int .i64 0, .int .i64 0, .int .i64 0] : List Value).toArray), 4) := by kernel_rfl
theorem size4i : (Tryz.prog.info? 161).map (·.size) = some 4 := by kernel_rfl
def rq (q : Q4) : Nat → Q4
  | 0 => q
  | 1 => halfQ q 16 12
  | _ => quarter q
theorem half_wd (q : Q4) (n m : Nat) (ha : Wd q.a) (hb : Wd q.b) (hc : Wd q.c) (hd : Wd q.d) (hn : TurnL n) (hm : TurnL m) : Wd (halfQ q n m).a ∧ Wd (halfQ q n m).b ∧ Wd (halfQ q n m).c ∧ Wd (halfQ q n m).d := by
  have h1 : Wd ((q.a + q.b) % 4294967296) := by constructor <;> omega
  have h2 : Wd (halfD q n) := (rotl_sum _ n (xor_64 _ _ hd h1).2 hn).2
  have h3 : Wd (halfC q n) := by unfold halfC; constructor <;> omega
  exact ⟨h1, (rotl_sum _ m (xor_64 _ _ hb h3).2 hm).2, h3, h2⟩
set_option maxRecDepth 20000 in
set_option maxHeartbeats 2000000 in
theorem rq_any (q : Q4) (ha : Wd q.a) (hb : Wd q.b) (hc : Wd q.c) (hd : Wd q.d) (w : World) :
    Calls Tryz.prog 89 #[.agg (q64s q.list).toArray] w fun e w' => e = .returned (.agg (q64s (quarter q).list).toArray) ∧ Below w.heap.size w w' := by
  have HW : Hid (Wd q.a ∧ Wd q.b ∧ Wd q.c ∧ Wd q.d) := ⟨ha, hb, hc, hd⟩
  clear ha hb hc hd
  go_enter Tryz.func89, Tryz.ntmps89
  go_wp2_with (first | (refine wpList_box_new rfl 137 _ rfl (q64s q.list) rfl ?_; intro w1 b1 s1 l1) | (refine wpList_alloc_new rfl 137 rfl 4 _ zero4q ?_; intro w2 b2 s2 l2) | (refine wpList_alloc_new rfl 161 rfl 4 _ zero4i ?_; intro w3 b3 s3 l3) | (refine wpList_store_blk rfl 161 161 _ _ rfl _ rfl _ turnsV rfl b3 rfl size4i (by intro v hv; simp [turnsV] at hv; rcases hv with rfl | rfl | rfl | rfl <;> rfl) ?_; intro w4 b4 s4 k4))
  have HB : Hid (Blk w4 w.heap.size 137 (q64s q.list) ∧ Blk w4 (w.heap.size + 1) 137 (q64s [0, 0, 0, 0]) ∧ Blk w4 (w.heap.size + 1 + 1) 161 turnsV ∧ Below w.heap.size w w4 ∧ w4.heap.size = w.heap.size + 3) := by
    rw [s1] at b2
    rw [s2, s1] at b4
    exact ⟨((b1.later l2 (by omega)).later l3 (by omega)).kept k4 (by omega), (b2.later l3 (by omega)).kept k4 (by omega), b4, below_kept (below_chain (below_chain l1 l2 (by omega)) l3 (by omega)) k4 (by omega) (fun j hj => by omega), by omega⟩
  try rw [s2, s1]
  clear b1 s1 l1 b2 s2 l2 b3 s3 l3 b4 s4 k4
  go_loopw [4] (fun i wr => ∃ r : Nat, r ≤ 2 ∧ i = .int .i64 (2 * (r : Int)) ∧ Blk wr w.heap.size 137 (q64s (rq q r).list) ∧ Blk wr (w.heap.size + 1 + 1) 161 turnsV ∧ Kept (fun b => b = w.heap.size) w4 wr) (fun i _ => 4 - (intOf i).toNat)
  case atStart => exact ⟨0, by omega, rfl, HB.out.1, HB.out.2.2.1, Kept.refl _ _⟩
  case round =>
    obtain ⟨r, hr, rfl, hb, ht, hkp⟩ := hrel
    rcases (by omega : r = 0 ∨ r = 1 ∨ r = 2) with rfl | rfl | rfl
    · rw [show 2 * ((0 : Nat) : Int) = 0 from rfl]
      obtain ⟨ha, hB, hc, hd⟩ := HW.out
      obtain ⟨⟨a, b, c, d⟩, hp⟩ : ∃ p, rq q 0 = p := ⟨_, rfl⟩
      have HP : Hid (rq q 0 = ⟨a, b, c, d⟩) := hp
      rw [show q = ⟨a, b, c, d⟩ from hp] at ha hB hc hd
      rw [hp] at hb
      have BR : Hid (Blk wr w.heap.size 137 (q64s [a, b, c, d]) ∧ Blk wr (w.heap.size + 1 + 1) 161 turnsV ∧ Kept (fun b => b = w.heap.size) w4 wr) := ⟨hb, ht, hkp⟩
      clear hb ht hkp hp
      have hb : Wd b := hB
      have p1 := u64s_cell BR.out.1 0 (by simp)
      have q1 := u64s_cell BR.out.1 1 (by simp)
      have f1 := BR.out.1.frozen 0
      simp only [List.getD_cons_zero, List.getD_cons_succ] at p1 q1
      go_wp2_with (go_at_call 91; refine (rplus_any a b ha hb _).mono ?_; rintro e w' ⟨rfl, rfl⟩)
      have B1 : Hid (Blk (wr.setCell ⟨w.heap.size, 0, none⟩ (.int .u64 ((a + b) % 4294967296))) w.heap.size 137 (q64s [(a + b) % 4294967296, b, c, d]) ∧ Blk (wr.setCell ⟨w.heap.size, 0, none⟩ (.int .u64 ((a + b) % 4294967296))) (w.heap.size + 1 + 1) 161 turnsV ∧ Kept (fun b => b = w.heap.size) w4 (wr.setCell ⟨w.heap.size, 0, none⟩ (.int .u64 ((a + b) % 4294967296)))) := ⟨BR.out.1.set 0 (.int .u64 ((a + b) % 4294967296)), BR.out.2.1.other (show w.heap.size + 1 + 1 ≠ w.heap.size by omega) _, BR.out.2.2.setCell rfl _⟩
      obtain ⟨x1, hx1⟩ : ∃ x, World.setCell wr ⟨w.heap.size, 0, none⟩ (.int .u64 ((a + b) % 4294967296)) = x := ⟨_, rfl⟩
      rw [hx1] at B1 ⊢
      clear hx1 p1 q1 f1
      obtain ⟨A, hA⟩ : ∃ x, (a + b) % 4294967296 = x := ⟨_, rfl⟩
      have wA : Wd A := by rw [← hA]; constructor <;> omega
      rw [hA] at B1 ⊢
      have HA : Hid ((a + b) % 4294967296 = A) := hA
      clear hA
      obtain ⟨d2, hd2⟩ : ∃ x, x1.drew = x := ⟨_, rfl⟩
      have Bd2 : Hid (Blk d2 w.heap.size 137 (q64s [A, b, c, d]) ∧ Blk d2 (w.heap.size + 1 + 1) 161 turnsV ∧ Kept (fun b => b = w.heap.size) w4 d2) := by rw [← hd2]; exact ⟨B1.out.1.drew, B1.out.2.1.drew, B1.out.2.2.drew⟩
      have HS2 : Hid (d2.cell? ⟨w.heap.size, 3, none⟩ = some (.int .u64 d) ∧ d2.cell? ⟨w.heap.size, 0, none⟩ = some (.int .u64 A) ∧ d2.cell? ⟨w.heap.size + 1 + 1, 0, none⟩ = some (.int .i64 16)) := ⟨u64s_cell Bd2.out.1 3 (by simp), u64s_cell Bd2.out.1 0 (by simp), by rw [Bd2.out.2.1.cell]; rfl⟩
      refine wp_region_noPanic (till_region 10 (fun W => W.cell? ⟨w.heap.size, 3, none⟩ = some (.int .u64 d) ∧ W.cell? ⟨w.heap.size, 0, none⟩ = some (.int .u64 A) ∧ W.cell? ⟨w.heap.size + 1 + 1, 0, none⟩ = some (.int .i64 16)) (by kernel_rfl) ?_)
      change wpTill _ _ _ _ _ _ _ _ x1.drew
      rw [hd2]
      clear hd2
      refine tTake 0 (some 16) (.pointer (some ⟨w.heap.size, 3, none⟩)) rfl rfl (by kernel_rfl) (by kernel_rfl) (by kernel_rfl) (by decide) (fun _ _ _ h => h) (by rfl) (fun _ => by go_simp) HS2.out ?_
      simp only [Act.put, List.setIfInBounds_toArray, List.set_cons_zero, List.set_cons_succ]
      refine tLoad 1 (some 17) (.int .u64 d) rfl rfl (by kernel_rfl) (by kernel_rfl) (by kernel_rfl) (by decide) (by kernel_rfl) (by kernel_rfl) (fun _ _ _ h => h) (by rfl) (fun W' hS' => by obtain ⟨s1, s2, s3⟩ := hS'; go_simp) HS2.out ?_
      simp only [Act.put, List.setIfInBounds_toArray, List.set_cons_zero, List.set_cons_succ]
      refine tTake 2 (some 18) (.pointer (some ⟨w.heap.size, 0, none⟩)) rfl rfl (by kernel_rfl) (by kernel_rfl) (by kernel_rfl) (by decide) (fun _ _ _ h => h) (by rfl) (fun _ => by go_simp) HS2.out ?_
      simp only [Act.put, List.setIfInBounds_toArray, List.set_cons_zero, List.set_cons_succ]
      refine tLoad 3 (some 19) (.int .u64 A) rfl rfl (by kernel_rfl) (by kernel_rfl) (by kernel_rfl) (by decide) (by kernel_rfl) (by kernel_rfl) (fun _ _ _ h => h) (by rfl) (fun W' hS' => by obtain ⟨s1, s2, s3⟩ := hS'; go_simp) HS2.out ?_
      simp only [Act.put, List.setIfInBounds_toArray, List.set_cons_zero, List.set_cons_succ]
      refine tTake 5 (some 21) (.int .i64 0) rfl rfl (by kernel_rfl) (by kernel_rfl) (by kernel_rfl) (by decide) (fun _ _ _ h => h) (by rfl) (fun _ => by rfl) HS2.out ?_
      simp only [Act.put, List.setIfInBounds_toArray, List.set_cons_zero, List.set_cons_succ]
      refine tTake 6 (some 22) (.pointer (some ⟨w.heap.size + 1 + 1, 0, none⟩)) rfl rfl (by kernel_rfl) (by kernel_rfl) (by kernel_rfl) (by decide) (fun _ _ _ h => h) (by rfl) (fun _ => by go_simp) HS2.out ?_
      simp only [Act.put, List.setIfInBounds_toArray, List.set_cons_zero, List.set_cons_succ]
      refine tLoad 7 (some 23) (.int .i64 16) rfl rfl (by kernel_rfl) (by kernel_rfl) (by kernel_rfl) (by decide) (by kernel_rfl) (by kernel_rfl) (fun _ _ _ h => h) (by rfl) (fun W' hS' => by obtain ⟨s1, s2, s3⟩ := hS'; go_simp) HS2.out ?_
      simp only [Act.put, List.setIfInBounds_toArray, List.set_cons_zero, List.set_cons_succ]
      refine till_ready 4 (by kernel_rfl) rfl (fun K hK => ?_)
      go_simp
      go_wp2_with (go_at_call 86; refine (ragainst_any _ _ hd wA _).mono ?_; rintro e w' ⟨rfl, rfl⟩)
      refine ⟨HS2.out, ?_⟩
      refine till_ready 8 (by kernel_rfl) rfl (fun K hK => ?_)
      go_simp
      go_wp2_with (go_at_call 108; refine (rleft_any _ 16 (xor_64 _ _ hd wA).2 (by simp [TurnL]) _).mono ?_; rintro e w' ⟨rfl, qq, rfl⟩)
      refine ⟨HS2.out, ?_⟩
      refine tTake 9 (some 25) (.pointer (some ⟨w.heap.size, 3, none⟩)) rfl rfl (by kernel_rfl) (by kernel_rfl) (by kernel_rfl) (by decide) (fun _ _ _ h => h) (by rfl) (fun _ => by go_simp) HS2.out ?_
      simp only [Act.put, List.setIfInBounds_toArray, List.set_cons_zero, List.set_cons_succ]
      refine till_at (by kernel_rfl) ?_
      have Be2 : Blk (d2.drewN qq) w.heap.size 137 (q64s [A, b, c, d]) := Bd2.out.1.drewN qq
      have c2 := u64s_cell Be2 3 (by simp)
      have f2 := Be2.frozen 3
      have B2 : Hid (Blk ((d2.drewN qq).setCell ⟨w.heap.size, 3, none⟩ (.int .u64 (rotl (bits .xor .u32 d A) 16))) w.heap.size 137 (q64s [A, b, c, rotl (bits .xor .u32 d A) 16]) ∧ Blk ((d2.drewN qq).setCell ⟨w.heap.size, 3, none⟩ (.int .u64 (rotl (bits .xor .u32 d A) 16))) (w.heap.size + 1 + 1) 161 turnsV ∧ Kept (fun b => b = w.heap.size) w4 ((d2.drewN qq).setCell ⟨w.heap.size, 3, none⟩ (.int .u64 (rotl (bits .xor .u32 d A) 16)))) := ⟨Be2.set 3 (.int .u64 (rotl (bits .xor .u32 d A) 16)), (Bd2.out.2.1.drewN qq).other (show w.heap.size + 1 + 1 ≠ w.heap.size by omega) _, (Bd2.out.2.2.drewN qq).setCell rfl _⟩
      clear Be2
      refine wpAny_ready (rs := [10]) (by kernel_rfl) (by simp) (AllReady.cons rfl (fun K hK => ?_) AllReady.nil)
      go_simp
      refine hK _ _ ?_
      clear hK K
      change wpAny _ _ _ _ _ _ _ (World.setCell (d2.drewN qq) ⟨w.heap.size, 3, none⟩ (.int .u64 (rotl (bits .xor .u32 d A) 16)))
      obtain ⟨x2, hx2⟩ : ∃ x, World.setCell (d2.drewN qq) ⟨w.heap.size, 3, none⟩ (.int .u64 (rotl (bits .xor .u32 d A) 16)) = x := ⟨_, rfl⟩
      rw [hx2] at B2 ⊢
      clear hx2 c2 f2 HS2 Bd2
      refine wpAny_done (by kernel_rfl) (NoPanic.normal ?_) _
      obtain ⟨D, hD⟩ : ∃ x, rotl (bits .xor .u32 d A) 16 = x := ⟨_, rfl⟩
      have wD : Wd D := by rw [← hD]; exact (rotl_sum _ 16 (xor_64 _ _ hd wA).2 (by simp [TurnL])).2
      rw [hD] at B2 ⊢
      have HD : Hid (rotl (bits .xor .u32 d A) 16 = D) := hD
      clear hD
      have p3 := u64s_cell B2.out.1 2 (by simp)
      have q3 := u64s_cell B2.out.1 3 (by simp)
      have f3 := B2.out.1.frozen 2
      simp only [List.getD_cons_zero, List.getD_cons_succ] at p3 q3
      go_wp2_with (go_at_call 91; refine (rplus_any c D hc wD _).mono ?_; rintro e w' ⟨rfl, rfl⟩)
      have B3 : Hid (Blk (x2.setCell ⟨w.heap.size, 2, none⟩ (.int .u64 ((c + D) % 4294967296))) w.heap.size 137 (q64s [A, b, (c + D) % 4294967296, D]) ∧ Blk (x2.setCell ⟨w.heap.size, 2, none⟩ (.int .u64 ((c + D) % 4294967296))) (w.heap.size + 1 + 1) 161 turnsV ∧ Kept (fun b => b = w.heap.size) w4 (x2.setCell ⟨w.heap.size, 2, none⟩ (.int .u64 ((c + D) % 4294967296)))) := ⟨B2.out.1.set 2 (.int .u64 ((c + D) % 4294967296)), B2.out.2.1.other (show w.heap.size + 1 + 1 ≠ w.heap.size by omega) _, B2.out.2.2.setCell rfl _⟩
      obtain ⟨x3, hx3⟩ : ∃ x, World.setCell x2 ⟨w.heap.size, 2, none⟩ (.int .u64 ((c + D) % 4294967296)) = x := ⟨_, rfl⟩
      rw [hx3] at B3 ⊢
      clear hx3 p3 q3 f3
      obtain ⟨C, hC⟩ : ∃ x, (c + D) % 4294967296 = x := ⟨_, rfl⟩
      have wC : Wd C := by rw [← hC]; constructor <;> omega
      rw [hC] at B3 ⊢
      have HC : Hid ((c + D) % 4294967296 = C) := hC
      clear hC
      obtain ⟨d4, hd4⟩ : ∃ x, x3.drew = x := ⟨_, rfl⟩
      have Bd4 : Hid (Blk d4 w.heap.size 137 (q64s [A, b, C, D]) ∧ Blk d4 (w.heap.size + 1 + 1) 161 turnsV ∧ Kept (fun b => b = w.heap.size) w4 d4) := by rw [← hd4]; exact ⟨B3.out.1.drew, B3.out.2.1.drew, B3.out.2.2.drew⟩
      have HS4 : Hid (d4.cell? ⟨w.heap.size, 1, none⟩ = some (.int .u64 b) ∧ d4.cell? ⟨w.heap.size, 2, none⟩ = some (.int .u64 C) ∧ d4.cell? ⟨w.heap.size + 1 + 1, 1, none⟩ = some (.int .i64 12)) := ⟨u64s_cell Bd4.out.1 1 (by simp), u64s_cell Bd4.out.1 2 (by simp), by rw [Bd4.out.2.1.cell]; rfl⟩
      refine wp_region_noPanic (till_region 11 (fun W => W.cell? ⟨w.heap.size, 1, none⟩ = some (.int .u64 b) ∧ W.cell? ⟨w.heap.size, 2, none⟩ = some (.int .u64 C) ∧ W.cell? ⟨w.heap.size + 1 + 1, 1, none⟩ = some (.int .i64 12)) (by kernel_rfl) ?_)
      change wpTill _ _ _ _ _ _ _ _ x3.drew
      rw [hd4]
      clear hd4
      refine tTake 0 (some 32) (.pointer (some ⟨w.heap.size, 1, none⟩)) rfl rfl (by kernel_rfl) (by kernel_rfl) (by kernel_rfl) (by decide) (fun _ _ _ h => h) (by rfl) (fun _ => by go_simp) HS4.out ?_
      simp only [Act.put, List.setIfInBounds_toArray, List.set_cons_zero, List.set_cons_succ]
      refine tLoad 1 (some 33) (.int .u64 b) rfl rfl (by kernel_rfl) (by kernel_rfl) (by kernel_rfl) (by decide) (by kernel_rfl) (by kernel_rfl) (fun _ _ _ h => h) (by rfl) (fun W' hS' => by obtain ⟨s1, s2, s3⟩ := hS'; go_simp) HS4.out ?_
      simp only [Act.put, List.setIfInBounds_toArray, List.set_cons_zero, List.set_cons_succ]
      refine tTake 2 (some 34) (.pointer (some ⟨w.heap.size, 2, none⟩)) rfl rfl (by kernel_rfl) (by kernel_rfl) (by kernel_rfl) (by decide) (fun _ _ _ h => h) (by rfl) (fun _ => by go_simp) HS4.out ?_
      simp only [Act.put, List.setIfInBounds_toArray, List.set_cons_zero, List.set_cons_succ]
      refine tLoad 3 (some 35) (.int .u64 C) rfl rfl (by kernel_rfl) (by kernel_rfl) (by kernel_rfl) (by decide) (by kernel_rfl) (by kernel_rfl) (fun _ _ _ h => h) (by rfl) (fun W' hS' => by obtain ⟨s1, s2, s3⟩ := hS'; go_simp) HS4.out ?_
      simp only [Act.put, List.setIfInBounds_toArray, List.set_cons_zero, List.set_cons_succ]
      refine tTake 5 (some 37) (.int .i64 0) rfl rfl (by kernel_rfl) (by kernel_rfl) (by kernel_rfl) (by decide) (fun _ _ _ h => h) (by rfl) (fun _ => by rfl) HS4.out ?_
      simp only [Act.put, List.setIfInBounds_toArray, List.set_cons_zero, List.set_cons_succ]
      refine tTake 6 (some 38) (.int .i64 1) rfl rfl (by kernel_rfl) (by kernel_rfl) (by kernel_rfl) (by decide) (fun _ _ _ h => h) (by rfl) (fun _ => by go_simp; rfl) HS4.out ?_
      simp only [Act.put, List.setIfInBounds_toArray, List.set_cons_zero, List.set_cons_succ]
      refine tTake 7 (some 39) (.pointer (some ⟨w.heap.size + 1 + 1, 1, none⟩)) rfl rfl (by kernel_rfl) (by kernel_rfl) (by kernel_rfl) (by decide) (fun _ _ _ h => h) (by rfl) (fun _ => by go_simp) HS4.out ?_
      simp only [Act.put, List.setIfInBounds_toArray, List.set_cons_zero, List.set_cons_succ]
      refine tLoad 8 (some 40) (.int .i64 12) rfl rfl (by kernel_rfl) (by kernel_rfl) (by kernel_rfl) (by decide) (by kernel_rfl) (by kernel_rfl) (fun _ _ _ h => h) (by rfl) (fun W' hS' => by obtain ⟨s1, s2, s3⟩ := hS'; go_simp) HS4.out ?_
      simp only [Act.put, List.setIfInBounds_toArray, List.set_cons_zero, List.set_cons_succ]
      refine till_ready 4 (by kernel_rfl) rfl (fun K hK => ?_)
      go_simp
      go_wp2_with (go_at_call 86; refine (ragainst_any _ _ hb wC _).mono ?_; rintro e w' ⟨rfl, rfl⟩)
      refine ⟨HS4.out, ?_⟩
      refine till_ready 9 (by kernel_rfl) rfl (fun K hK => ?_)
      go_simp
      go_wp2_with (go_at_call 108; refine (rleft_any _ 12 (xor_64 _ _ hb wC).2 (by simp [TurnL]) _).mono ?_; rintro e w' ⟨rfl, qq, rfl⟩)
      refine ⟨HS4.out, ?_⟩
      refine tTake 10 (some 42) (.pointer (some ⟨w.heap.size, 1, none⟩)) rfl rfl (by kernel_rfl) (by kernel_rfl) (by kernel_rfl) (by decide) (fun _ _ _ h => h) (by rfl) (fun _ => by go_simp) HS4.out ?_
      simp only [Act.put, List.setIfInBounds_toArray, List.set_cons_zero, List.set_cons_succ]
      refine till_at (by kernel_rfl) ?_
      have Be4 : Blk (d4.drewN qq) w.heap.size 137 (q64s [A, b, C, D]) := Bd4.out.1.drewN qq
      have c4 := u64s_cell Be4 1 (by simp)
      have f4 := Be4.frozen 1
      have B4 : Hid (Blk ((d4.drewN qq).setCell ⟨w.heap.size, 1, none⟩ (.int .u64 (rotl (bits .xor .u32 b C) 12))) w.heap.size 137 (q64s [A, rotl (bits .xor .u32 b C) 12, C, D]) ∧ Blk ((d4.drewN qq).setCell ⟨w.heap.size, 1, none⟩ (.int .u64 (rotl (bits .xor .u32 b C) 12))) (w.heap.size + 1 + 1) 161 turnsV ∧ Kept (fun b => b = w.heap.size) w4 ((d4.drewN qq).setCell ⟨w.heap.size, 1, none⟩ (.int .u64 (rotl (bits .xor .u32 b C) 12)))) := ⟨Be4.set 1 (.int .u64 (rotl (bits .xor .u32 b C) 12)), (Bd4.out.2.1.drewN qq).other (show w.heap.size + 1 + 1 ≠ w.heap.size by omega) _, (Bd4.out.2.2.drewN qq).setCell rfl _⟩
      clear Be4
      refine wpAny_ready (rs := [11]) (by kernel_rfl) (by simp) (AllReady.cons rfl (fun K hK => ?_) AllReady.nil)
      go_simp
      refine hK _ _ ?_
      clear hK K
      change wpAny _ _ _ _ _ _ _ (World.setCell (d4.drewN qq) ⟨w.heap.size, 1, none⟩ (.int .u64 (rotl (bits .xor .u32 b C) 12)))
      obtain ⟨x4, hx4⟩ : ∃ x, World.setCell (d4.drewN qq) ⟨w.heap.size, 1, none⟩ (.int .u64 (rotl (bits .xor .u32 b C) 12)) = x := ⟨_, rfl⟩
      rw [hx4] at B4 ⊢
      clear hx4 c4 f4 HS4 Bd4
      refine wpAny_done (by kernel_rfl) (NoPanic.normal ?_) _
      go_wp2_with fail
      refine ⟨⟨1, by omega, by go_num, ?_, B4.out.2⟩, by simp [intOf]⟩
      have e : rq q 1 = ⟨A, rotl (bits .xor .u32 b C) 12, C, D⟩ := by
        show halfQ (rq q 0) 16 12 = _
        rw [HP.out, halfQ, halfC, halfD, HA.out, HD.out, HC.out]
      rw [e]; exact B4.out.1
    · rw [show 2 * ((1 : Nat) : Int) = 2 from rfl]
      obtain ⟨ha, hB, hc, hd⟩ := half_wd q 16 12 HW.out.1 HW.out.2.1 HW.out.2.2.1 HW.out.2.2.2 (by simp [TurnL]) (by simp [TurnL])
      obtain ⟨⟨a, b, c, d⟩, hp⟩ : ∃ p, rq q 1 = p := ⟨_, rfl⟩
      have HP : Hid (rq q 1 = ⟨a, b, c, d⟩) := hp
      rw [show halfQ q 16 12 = ⟨a, b, c, d⟩ from hp] at ha hB hc hd
      rw [hp] at hb
      have BR : Hid (Blk wr w.heap.size 137 (q64s [a, b, c, d]) ∧ Blk wr (w.heap.size + 1 + 1) 161 turnsV ∧ Kept (fun b => b = w.heap.size) w4 wr) := ⟨hb, ht, hkp⟩
      clear hb ht hkp hp
      have hb : Wd b := hB
      have p1 := u64s_cell BR.out.1 0 (by simp)
      have q1 := u64s_cell BR.out.1 1 (by simp)
      have f1 := BR.out.1.frozen 0
      simp only [List.getD_cons_zero, List.getD_cons_succ] at p1 q1
      go_wp2_with (go_at_call 91; refine (rplus_any a b ha hb _).mono ?_; rintro e w' ⟨rfl, rfl⟩)
      have B1 : Hid (Blk (wr.setCell ⟨w.heap.size, 0, none⟩ (.int .u64 ((a + b) % 4294967296))) w.heap.size 137 (q64s [(a + b) % 4294967296, b, c, d]) ∧ Blk (wr.setCell ⟨w.heap.size, 0, none⟩ (.int .u64 ((a + b) % 4294967296))) (w.heap.size + 1 + 1) 161 turnsV ∧ Kept (fun b => b = w.heap.size) w4 (wr.setCell ⟨w.heap.size, 0, none⟩ (.int .u64 ((a + b) % 4294967296)))) := ⟨BR.out.1.set 0 (.int .u64 ((a + b) % 4294967296)), BR.out.2.1.other (show w.heap.size + 1 + 1 ≠ w.heap.size by omega) _, BR.out.2.2.setCell rfl _⟩
      obtain ⟨x1, hx1⟩ : ∃ x, World.setCell wr ⟨w.heap.size, 0, none⟩ (.int .u64 ((a + b) % 4294967296)) = x := ⟨_, rfl⟩
      rw [hx1] at B1 ⊢
      clear hx1 p1 q1 f1
      obtain ⟨A, hA⟩ : ∃ x, (a + b) % 4294967296 = x := ⟨_, rfl⟩
      have wA : Wd A := by rw [← hA]; constructor <;> omega
      rw [hA] at B1 ⊢
      have HA : Hid ((a + b) % 4294967296 = A) := hA
      clear hA
      obtain ⟨d2, hd2⟩ : ∃ x, x1.drew = x := ⟨_, rfl⟩
      have Bd2 : Hid (Blk d2 w.heap.size 137 (q64s [A, b, c, d]) ∧ Blk d2 (w.heap.size + 1 + 1) 161 turnsV ∧ Kept (fun b => b = w.heap.size) w4 d2) := by rw [← hd2]; exact ⟨B1.out.1.drew, B1.out.2.1.drew, B1.out.2.2.drew⟩
      have HS2 : Hid (d2.cell? ⟨w.heap.size, 3, none⟩ = some (.int .u64 d) ∧ d2.cell? ⟨w.heap.size, 0, none⟩ = some (.int .u64 A) ∧ d2.cell? ⟨w.heap.size + 1 + 1, 2, none⟩ = some (.int .i64 8)) := ⟨u64s_cell Bd2.out.1 3 (by simp), u64s_cell Bd2.out.1 0 (by simp), by rw [Bd2.out.2.1.cell]; rfl⟩
      refine wp_region_noPanic (till_region 10 (fun W => W.cell? ⟨w.heap.size, 3, none⟩ = some (.int .u64 d) ∧ W.cell? ⟨w.heap.size, 0, none⟩ = some (.int .u64 A) ∧ W.cell? ⟨w.heap.size + 1 + 1, 2, none⟩ = some (.int .i64 8)) (by kernel_rfl) ?_)
      change wpTill _ _ _ _ _ _ _ _ x1.drew
      rw [hd2]
      clear hd2
      refine tTake 0 (some 16) (.pointer (some ⟨w.heap.size, 3, none⟩)) rfl rfl (by kernel_rfl) (by kernel_rfl) (by kernel_rfl) (by decide) (fun _ _ _ h => h) (by rfl) (fun _ => by go_simp) HS2.out ?_
      simp only [Act.put, List.setIfInBounds_toArray, List.set_cons_zero, List.set_cons_succ]
      refine tLoad 1 (some 17) (.int .u64 d) rfl rfl (by kernel_rfl) (by kernel_rfl) (by kernel_rfl) (by decide) (by kernel_rfl) (by kernel_rfl) (fun _ _ _ h => h) (by rfl) (fun W' hS' => by obtain ⟨s1, s2, s3⟩ := hS'; go_simp) HS2.out ?_
      simp only [Act.put, List.setIfInBounds_toArray, List.set_cons_zero, List.set_cons_succ]
      refine tTake 2 (some 18) (.pointer (some ⟨w.heap.size, 0, none⟩)) rfl rfl (by kernel_rfl) (by kernel_rfl) (by kernel_rfl) (by decide) (fun _ _ _ h => h) (by rfl) (fun _ => by go_simp) HS2.out ?_
      simp only [Act.put, List.setIfInBounds_toArray, List.set_cons_zero, List.set_cons_succ]
      refine tLoad 3 (some 19) (.int .u64 A) rfl rfl (by kernel_rfl) (by kernel_rfl) (by kernel_rfl) (by decide) (by kernel_rfl) (by kernel_rfl) (fun _ _ _ h => h) (by rfl) (fun W' hS' => by obtain ⟨s1, s2, s3⟩ := hS'; go_simp) HS2.out ?_
      simp only [Act.put, List.setIfInBounds_toArray, List.set_cons_zero, List.set_cons_succ]
      refine tTake 5 (some 21) (.int .i64 2) rfl rfl (by kernel_rfl) (by kernel_rfl) (by kernel_rfl) (by decide) (fun _ _ _ h => h) (by rfl) (fun _ => by rfl) HS2.out ?_
      simp only [Act.put, List.setIfInBounds_toArray, List.set_cons_zero, List.set_cons_succ]
      refine tTake 6 (some 22) (.pointer (some ⟨w.heap.size + 1 + 1, 2, none⟩)) rfl rfl (by kernel_rfl) (by kernel_rfl) (by kernel_rfl) (by decide) (fun _ _ _ h => h) (by rfl) (fun _ => by go_simp) HS2.out ?_
      simp only [Act.put, List.setIfInBounds_toArray, List.set_cons_zero, List.set_cons_succ]
      refine tLoad 7 (some 23) (.int .i64 8) rfl rfl (by kernel_rfl) (by kernel_rfl) (by kernel_rfl) (by decide) (by kernel_rfl) (by kernel_rfl) (fun _ _ _ h => h) (by rfl) (fun W' hS' => by obtain ⟨s1, s2, s3⟩ := hS'; go_simp) HS2.out ?_
      simp only [Act.put, List.setIfInBounds_toArray, List.set_cons_zero, List.set_cons_succ]
      refine till_ready 4 (by kernel_rfl) rfl (fun K hK => ?_)
      go_simp
      go_wp2_with (go_at_call 86; refine (ragainst_any _ _ hd wA _).mono ?_; rintro e w' ⟨rfl, rfl⟩)
      refine ⟨HS2.out, ?_⟩
      refine till_ready 8 (by kernel_rfl) rfl (fun K hK => ?_)
      go_simp
      go_wp2_with (go_at_call 108; refine (rleft_any _ 8 (xor_64 _ _ hd wA).2 (by simp [TurnL]) _).mono ?_; rintro e w' ⟨rfl, qq, rfl⟩)
      refine ⟨HS2.out, ?_⟩
      refine tTake 9 (some 25) (.pointer (some ⟨w.heap.size, 3, none⟩)) rfl rfl (by kernel_rfl) (by kernel_rfl) (by kernel_rfl) (by decide) (fun _ _ _ h => h) (by rfl) (fun _ => by go_simp) HS2.out ?_
      simp only [Act.put, List.setIfInBounds_toArray, List.set_cons_zero, List.set_cons_succ]
      refine till_at (by kernel_rfl) ?_
      have Be2 : Blk (d2.drewN qq) w.heap.size 137 (q64s [A, b, c, d]) := Bd2.out.1.drewN qq
      have c2 := u64s_cell Be2 3 (by simp)
      have f2 := Be2.frozen 3
      have B2 : Hid (Blk ((d2.drewN qq).setCell ⟨w.heap.size, 3, none⟩ (.int .u64 (rotl (bits .xor .u32 d A) 8))) w.heap.size 137 (q64s [A, b, c, rotl (bits .xor .u32 d A) 8]) ∧ Blk ((d2.drewN qq).setCell ⟨w.heap.size, 3, none⟩ (.int .u64 (rotl (bits .xor .u32 d A) 8))) (w.heap.size + 1 + 1) 161 turnsV ∧ Kept (fun b => b = w.heap.size) w4 ((d2.drewN qq).setCell ⟨w.heap.size, 3, none⟩ (.int .u64 (rotl (bits .xor .u32 d A) 8)))) := ⟨Be2.set 3 (.int .u64 (rotl (bits .xor .u32 d A) 8)), (Bd2.out.2.1.drewN qq).other (show w.heap.size + 1 + 1 ≠ w.heap.size by omega) _, (Bd2.out.2.2.drewN qq).setCell rfl _⟩
      clear Be2
      refine wpAny_ready (rs := [10]) (by kernel_rfl) (by simp) (AllReady.cons rfl (fun K hK => ?_) AllReady.nil)
      go_simp
      refine hK _ _ ?_
      clear hK K
      change wpAny _ _ _ _ _ _ _ (World.setCell (d2.drewN qq) ⟨w.heap.size, 3, none⟩ (.int .u64 (rotl (bits .xor .u32 d A) 8)))
      obtain ⟨x2, hx2⟩ : ∃ x, World.setCell (d2.drewN qq) ⟨w.heap.size, 3, none⟩ (.int .u64 (rotl (bits .xor .u32 d A) 8)) = x := ⟨_, rfl⟩
      rw [hx2] at B2 ⊢
      clear hx2 c2 f2 HS2 Bd2
      refine wpAny_done (by kernel_rfl) (NoPanic.normal ?_) _
      obtain ⟨D, hD⟩ : ∃ x, rotl (bits .xor .u32 d A) 8 = x := ⟨_, rfl⟩
      have wD : Wd D := by rw [← hD]; exact (rotl_sum _ 8 (xor_64 _ _ hd wA).2 (by simp [TurnL])).2
      rw [hD] at B2 ⊢
      have HD : Hid (rotl (bits .xor .u32 d A) 8 = D) := hD
      clear hD
      have p3 := u64s_cell B2.out.1 2 (by simp)
      have q3 := u64s_cell B2.out.1 3 (by simp)
      have f3 := B2.out.1.frozen 2
      simp only [List.getD_cons_zero, List.getD_cons_succ] at p3 q3
      go_wp2_with (go_at_call 91; refine (rplus_any c D hc wD _).mono ?_; rintro e w' ⟨rfl, rfl⟩)
      have B3 : Hid (Blk (x2.setCell ⟨w.heap.size, 2, none⟩ (.int .u64 ((c + D) % 4294967296))) w.heap.size 137 (q64s [A, b, (c + D) % 4294967296, D]) ∧ Blk (x2.setCell ⟨w.heap.size, 2, none⟩ (.int .u64 ((c + D) % 4294967296))) (w.heap.size + 1 + 1) 161 turnsV ∧ Kept (fun b => b = w.heap.size) w4 (x2.setCell ⟨w.heap.size, 2, none⟩ (.int .u64 ((c + D) % 4294967296)))) := ⟨B2.out.1.set 2 (.int .u64 ((c + D) % 4294967296)), B2.out.2.1.other (show w.heap.size + 1 + 1 ≠ w.heap.size by omega) _, B2.out.2.2.setCell rfl _⟩
      obtain ⟨x3, hx3⟩ : ∃ x, World.setCell x2 ⟨w.heap.size, 2, none⟩ (.int .u64 ((c + D) % 4294967296)) = x := ⟨_, rfl⟩
      rw [hx3] at B3 ⊢
      clear hx3 p3 q3 f3
      obtain ⟨C, hC⟩ : ∃ x, (c + D) % 4294967296 = x := ⟨_, rfl⟩
      have wC : Wd C := by rw [← hC]; constructor <;> omega
      rw [hC] at B3 ⊢
      have HC : Hid ((c + D) % 4294967296 = C) := hC
      clear hC
      obtain ⟨d4, hd4⟩ : ∃ x, x3.drew = x := ⟨_, rfl⟩
      have Bd4 : Hid (Blk d4 w.heap.size 137 (q64s [A, b, C, D]) ∧ Blk d4 (w.heap.size + 1 + 1) 161 turnsV ∧ Kept (fun b => b = w.heap.size) w4 d4) := by rw [← hd4]; exact ⟨B3.out.1.drew, B3.out.2.1.drew, B3.out.2.2.drew⟩
      have HS4 : Hid (d4.cell? ⟨w.heap.size, 1, none⟩ = some (.int .u64 b) ∧ d4.cell? ⟨w.heap.size, 2, none⟩ = some (.int .u64 C) ∧ d4.cell? ⟨w.heap.size + 1 + 1, 3, none⟩ = some (.int .i64 7)) := ⟨u64s_cell Bd4.out.1 1 (by simp), u64s_cell Bd4.out.1 2 (by simp), by rw [Bd4.out.2.1.cell]; rfl⟩
      refine wp_region_noPanic (till_region 11 (fun W => W.cell? ⟨w.heap.size, 1, none⟩ = some (.int .u64 b) ∧ W.cell? ⟨w.heap.size, 2, none⟩ = some (.int .u64 C) ∧ W.cell? ⟨w.heap.size + 1 + 1, 3, none⟩ = some (.int .i64 7)) (by kernel_rfl) ?_)
      change wpTill _ _ _ _ _ _ _ _ x3.drew
      rw [hd4]
      clear hd4
      refine tTake 0 (some 32) (.pointer (some ⟨w.heap.size, 1, none⟩)) rfl rfl (by kernel_rfl) (by kernel_rfl) (by kernel_rfl) (by decide) (fun _ _ _ h => h) (by rfl) (fun _ => by go_simp) HS4.out ?_
      simp only [Act.put, List.setIfInBounds_toArray, List.set_cons_zero, List.set_cons_succ]
      refine tLoad 1 (some 33) (.int .u64 b) rfl rfl (by kernel_rfl) (by kernel_rfl) (by kernel_rfl) (by decide) (by kernel_rfl) (by kernel_rfl) (fun _ _ _ h => h) (by rfl) (fun W' hS' => by obtain ⟨s1, s2, s3⟩ := hS'; go_simp) HS4.out ?_
      simp only [Act.put, List.setIfInBounds_toArray, List.set_cons_zero, List.set_cons_succ]
      refine tTake 2 (some 34) (.pointer (some ⟨w.heap.size, 2, none⟩)) rfl rfl (by kernel_rfl) (by kernel_rfl) (by kernel_rfl) (by decide) (fun _ _ _ h => h) (by rfl) (fun _ => by go_simp) HS4.out ?_
      simp only [Act.put, List.setIfInBounds_toArray, List.set_cons_zero, List.set_cons_succ]
      refine tLoad 3 (some 35) (.int .u64 C) rfl rfl (by kernel_rfl) (by kernel_rfl) (by kernel_rfl) (by decide) (by kernel_rfl) (by kernel_rfl) (fun _ _ _ h => h) (by rfl) (fun W' hS' => by obtain ⟨s1, s2, s3⟩ := hS'; go_simp) HS4.out ?_
      simp only [Act.put, List.setIfInBounds_toArray, List.set_cons_zero, List.set_cons_succ]
      refine tTake 5 (some 37) (.int .i64 2) rfl rfl (by kernel_rfl) (by kernel_rfl) (by kernel_rfl) (by decide) (fun _ _ _ h => h) (by rfl) (fun _ => by rfl) HS4.out ?_
      simp only [Act.put, List.setIfInBounds_toArray, List.set_cons_zero, List.set_cons_succ]
      refine tTake 6 (some 38) (.int .i64 3) rfl rfl (by kernel_rfl) (by kernel_rfl) (by kernel_rfl) (by decide) (fun _ _ _ h => h) (by rfl) (fun _ => by go_simp; rfl) HS4.out ?_
      simp only [Act.put, List.setIfInBounds_toArray, List.set_cons_zero, List.set_cons_succ]
      refine tTake 7 (some 39) (.pointer (some ⟨w.heap.size + 1 + 1, 3, none⟩)) rfl rfl (by kernel_rfl) (by kernel_rfl) (by kernel_rfl) (by decide) (fun _ _ _ h => h) (by rfl) (fun _ => by go_simp) HS4.out ?_
      simp only [Act.put, List.setIfInBounds_toArray, List.set_cons_zero, List.set_cons_succ]
      refine tLoad 8 (some 40) (.int .i64 7) rfl rfl (by kernel_rfl) (by kernel_rfl) (by kernel_rfl) (by decide) (by kernel_rfl) (by kernel_rfl) (fun _ _ _ h => h) (by rfl) (fun W' hS' => by obtain ⟨s1, s2, s3⟩ := hS'; go_simp) HS4.out ?_
      simp only [Act.put, List.setIfInBounds_toArray, List.set_cons_zero, List.set_cons_succ]
      refine till_ready 4 (by kernel_rfl) rfl (fun K hK => ?_)
      go_simp
      go_wp2_with (go_at_call 86; refine (ragainst_any _ _ hb wC _).mono ?_; rintro e w' ⟨rfl, rfl⟩)
      refine ⟨HS4.out, ?_⟩
      refine till_ready 9 (by kernel_rfl) rfl (fun K hK => ?_)
      go_simp
      go_wp2_with (go_at_call 108; refine (rleft_any _ 7 (xor_64 _ _ hb wC).2 (by simp [TurnL]) _).mono ?_; rintro e w' ⟨rfl, qq, rfl⟩)
      refine ⟨HS4.out, ?_⟩
      refine tTake 10 (some 42) (.pointer (some ⟨w.heap.size, 1, none⟩)) rfl rfl (by kernel_rfl) (by kernel_rfl) (by kernel_rfl) (by decide) (fun _ _ _ h => h) (by rfl) (fun _ => by go_simp) HS4.out ?_
      simp only [Act.put, List.setIfInBounds_toArray, List.set_cons_zero, List.set_cons_succ]
      refine till_at (by kernel_rfl) ?_
      have Be4 : Blk (d4.drewN qq) w.heap.size 137 (q64s [A, b, C, D]) := Bd4.out.1.drewN qq
      have c4 := u64s_cell Be4 1 (by simp)
      have f4 := Be4.frozen 1
      have B4 : Hid (Blk ((d4.drewN qq).setCell ⟨w.heap.size, 1, none⟩ (.int .u64 (rotl (bits .xor .u32 b C) 7))) w.heap.size 137 (q64s [A, rotl (bits .xor .u32 b C) 7, C, D]) ∧ Blk ((d4.drewN qq).setCell ⟨w.heap.size, 1, none⟩ (.int .u64 (rotl (bits .xor .u32 b C) 7))) (w.heap.size + 1 + 1) 161 turnsV ∧ Kept (fun b => b = w.heap.size) w4 ((d4.drewN qq).setCell ⟨w.heap.size, 1, none⟩ (.int .u64 (rotl (bits .xor .u32 b C) 7)))) := ⟨Be4.set 1 (.int .u64 (rotl (bits .xor .u32 b C) 7)), (Bd4.out.2.1.drewN qq).other (show w.heap.size + 1 + 1 ≠ w.heap.size by omega) _, (Bd4.out.2.2.drewN qq).setCell rfl _⟩
      clear Be4
      refine wpAny_ready (rs := [11]) (by kernel_rfl) (by simp) (AllReady.cons rfl (fun K hK => ?_) AllReady.nil)
      go_simp
      refine hK _ _ ?_
      clear hK K
      change wpAny _ _ _ _ _ _ _ (World.setCell (d4.drewN qq) ⟨w.heap.size, 1, none⟩ (.int .u64 (rotl (bits .xor .u32 b C) 7)))
      obtain ⟨x4, hx4⟩ : ∃ x, World.setCell (d4.drewN qq) ⟨w.heap.size, 1, none⟩ (.int .u64 (rotl (bits .xor .u32 b C) 7)) = x := ⟨_, rfl⟩
      rw [hx4] at B4 ⊢
      clear hx4 c4 f4 HS4 Bd4
      refine wpAny_done (by kernel_rfl) (NoPanic.normal ?_) _
      go_wp2_with fail
      refine ⟨⟨2, by omega, by go_num, ?_, B4.out.2⟩, by simp [intOf]⟩
      have e : rq q 2 = ⟨A, rotl (bits .xor .u32 b C) 7, C, D⟩ := by
        show halfQ (rq q 1) 8 7 = _
        rw [HP.out, halfQ, halfC, halfD, HA.out, HD.out, HC.out]
      rw [e]; exact B4.out.1
    · rw [show 2 * ((2 : Nat) : Int) = 4 from rfl]
      have X3 : Hid (Blk wr w.heap.size 137 (q64s (quarter q).list)) := hb
      have X4 : Hid (Blk wr (w.heap.size + 1) 137 (q64s [0, 0, 0, 0])) := HB.out.2.1.kept hkp (by omega)
      have X5 : Hid (Below w.heap.size w wr) := below_kept HB.out.2.2.2.1 hkp (by have := HB.out.2.2.2.2; omega) (fun j hj => by omega)
      clear hb ht hkp
      go_wp2_with (first | (refine wpList_load_blk rfl 137 _ rfl _ rfl (q64s (quarter q).list) _ X3.out Tryz.underlying137 rfl size4q ?_) | (refine wpList_store_blk rfl 137 137 _ _ rfl _ rfl _ (q64s (quarter q).list) rfl X4.out rfl size4q (q64s_one _) ?_; intro w5 b5 s5 k5))
      exact ret_blk rfl (w.heap.size + 1) (q64s (quarter q).list) _ rfl b5 Tryz.underlying137 rfl size4q rfl ⟨rfl, below_kept X5.out k5 X5.out.size (fun j hj => by omega)⟩
end Go.Proofs.YtcimiajkbgabiaaGreat
