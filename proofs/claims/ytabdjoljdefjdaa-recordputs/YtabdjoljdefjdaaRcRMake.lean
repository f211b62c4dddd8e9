/- The document's Make. -/
import Derived.Test.YtabdjoljdefjdaaRcRows
import Derived.Test.YtabdjoljdefjdaaRcLaw
namespace Go.Proofs.Ytabdjoljdefjdaa
open Go.RowKit
set_option linter.unusedVariables false
set_option linter.unusedSimpArgs false

theorem bs_two' (x y : Int) (W : World) : (Instr.buildSlice 27 2 #[(0, .int .u8 x), (1, .int .u8 y)]).run Try.prog W = .ok (.slice (some ⟨W.heap.size, 0, none⟩) 2 2) (W.alloc (.cells (u8s [x, y]).toArray 5)) := by kernel_rfl
theorem Does.two {base : Nat} {ρ : Operand → Value} {o : Oper} {w : World} (parts : Array (Nat × Operand)) (ho : o.op = .buildSlice 27 2 parts) (x y : Int) (hx : 0 ≤ x ∧ x < 256) (hy : 0 ≤ y ∧ y < 256) (hp : (parts.map fun (i, x) => (i, ρ x)) = #[(0, .int .u8 x), (1, .int .u8 y)]) : Does base (.any (isS [x, y]) (isS_later _)) ρ o w := by
  refine Does.run (.slice (some ⟨w.heap.size, 0, none⟩) 2 2) (w' := w.alloc (.cells (u8s [x, y]).toArray 5)) ?_ ⟨_, _, _, rfl, ?_, Nat.le_refl _⟩ ((Below.refl _ _).alloc (Nat.le_refl _) _)
  · unfold execOp
    simp only [ho, hp, Sem.run_bind, bs_two', Sem.run_pure, Result.andThen_ok]
  · exact seen_blk (t := 5) (zs := [x, y]) (heap_alloc_new w _) (by intro z hz; simp only [List.mem_cons, List.not_mem_nil, or_false] at hz; rcases hz with rfl | rfl <;> assumption) (by show (2 : Nat) ≤ _; decide)
set_option maxRecDepth 20000 in
set_option maxHeartbeats 4000000 in
theorem rmake_any (h : Hd) (k : HdOk h) (ao : Option Addr) (m c : Nat) (bs : List Int) (hc : m ≤ c) (hm : 26 + m ≤ 140737488355200) (w : World) (hx : Seen w ao m bs) :
    Calls Try.prog 13 #[.agg (hdC h).toArray, .slice ao m c] w fun e w' => ∃ v, e = .returned v ∧ isO w.heap.size (26 + m) (hdB h ++ bs) v w' ∧ Below w.heap.size w w' := by
  have HK : Hid (HdOk h) := k
  have HX : Hid (Seen w ao m bs ∧ m ≤ c ∧ 26 + m ≤ 140737488355200) := ⟨hx, hc, hm⟩
  obtain ⟨i0, hi, hz0, hz1, hz2⟩ := info_parts info_byte
  obtain ⟨zs, hzs⟩ : ∃ zs, h.group = zs := ⟨_, rfl⟩
  have HL : Hid (zs.length = 16 ∧ Bytes zs ∧ h.group = zs) := ⟨hzs ▸ k.len, hzs ▸ k.bytes, hzs⟩
  clear k hx hc hm hzs
  go_enter Try.func13, Try.ntmps13
  go_wp2_with (first | (refine wpList_box_new rfl 26 _ rfl (hdC h) rfl ?_; intro w1 b1 s1 l1))
  have K1 : Hid (Bk w w1 h ∧ w1.heap.size = w.heap.size + 1) := ⟨⟨b1, l1⟩, s1⟩
  clear b1 s1 l1
  go_loopw [5, 6] (fun v i wr => ∃ k : Nat, k ≤ 16 ∧ i = .int .i64 k ∧ wr.ownsRow w1.heap.size 5 1 v k ((zs.map (Value.int .u8)).take k) ∧ Below w1.heap.size w1 wr) (fun _ i _ => 16 - (intOf i).toNat)
  case atStart => exact ⟨0, Nat.zero_le _, rfl, World.ownsRow_nil _ _ _ _, Below.refl _ _⟩
  case round =>
    obtain ⟨k, hk, rfl, hown, hbel⟩ := hrel
    have hsz := hbel.size
    by_cases hlt : k < 16
    · obtain ⟨z, hz⟩ : ∃ z, zs.getD k 0 = z := ⟨_, rfl⟩
      have HZ : Hid (zs.getD k 0 = z) := hz
      have c0 : wr.cell? ⟨w.heap.size, 4 + k, none⟩ = some (.int .u8 z) := by
        have r := hd_range (K1.out.1.later hbel).b k (.int .u8 z) (by rw [HL.out.2.2, ← hz]; simp [u8s, List.getD, show k < zs.length by rw [HL.out.1]; exact hlt])
        exact r
      have i1 : (k : Int) < 16 := by omega
      have i2 : (0 : Int) ≤ (k : Int) := by omega
      clear hz
      go_wp2_with (at_builtin; refine wpList_append_own _ rfl _ _ 27 rfl w1.heap.size 5 i0 (.int .u8 0) 1 1 Try.underlying27 hi hz0 hz1 hz2 rfl (by decide) _ _ _ rfl (hown.alloc _) ⟨wr.heap.size, 0, none⟩ 1 1 [.int .u8 z] rfl rfl ?c1 ?c2 ?c3 ?c4 ?c5 ?_)
      try case c1 => exact one_new _ _ _
      case c2 => first | rfl | (intro u hu; simp at hu; subst hu; rfl)
      case c3 => unfold maxLen; omega
      case c4 => omega
      case c5 => first | omega | (simp; omega)
      · intro v' w2 hown' hgrow _
        have R := step_own hbel hown (by rw [HL.out.1]; exact hlt) HZ.out hown' hgrow
        clear hown' hgrow hown hbel c0
        go_wp2_with fail
        exact ⟨⟨k + 1, by omega, by go_num, R.1, R.2⟩, by simp [intOf]; omega⟩
    · obtain rfl : k = 16 := by omega
      have o5 : isO w.heap.size 16 zs u5 wr := isO_base (show isO w1.heap.size 16 zs u5 wr from by have h := hown; rwa [List.take_of_length_le (by simp [HL.out.1])] at h) K1.out.1.bel.size
      have K2 : Hid (Bk w wr h) := K1.out.1.later hbel
      obtain ⟨q5, c5, rfl, S5, f5, -, -⟩ := isO_sl HL.out.1 HL.out.2.1 (by decide) o5
      have V5 : Hid (Seen wr q5 16 zs ∧ 16 ≤ c5) := ⟨S5, f5⟩
      obtain ⟨h1, h2⟩ := HK.out.index
      obtain ⟨h3, h4⟩ := HK.out.rank
      have u1 : IntKind.u64.wrap h.index = h.index := by rw [IntKind.wrap_u64]; omega
      have u2 : IntKind.u64.wrap h.rank = h.rank := by rw [IntKind.wrap_u64]; omega
      clear hown hbel S5 f5 hsz o5 hi hz0 hz1 hz2
      go_wp2_with fail
      refine region_inv [.val (.pointer (some ⟨w.heap.size, 0, none⟩)), .val (.int .u8 h.live), .val (.pointer (some ⟨w.heap.size, 1, none⟩)), .val (.int .u8 h.flag), .any (isS [h.live, h.flag]) (isS_later _), .val (.pointer (some ⟨w.heap.size, 2, none⟩)), .val (.int .u32 h.index), .val (.int .u64 h.index), .any (isS (leB 4 h.index)) (isS_later _), .val (.pointer (some ⟨w.heap.size, 3, none⟩)), .val (.int .u32 h.rank), .val (.int .u64 h.rank), .any (isS (leB 4 h.rank)) (isS_later _), .val (.slice q5 16 c5), .val (.slice ao m c), .any (isP 5 [[h.live, h.flag], leB 4 h.index, leB 4 h.rank, zs, bs]) (isP_later _ _), .any (isO w.heap.size (26 + m) (hdB h ++ bs)) (isO_later _ _ _)] (by kernel_rfl) (by kernel_rfl) (by kernel_rfl) ?_ ?_
      · refine Steps'.cons ?_ (Steps'.cons ?_ (Steps'.cons ?_ (Steps'.cons ?_ (Steps'.cons ?_ (Steps'.cons ?_ (Steps'.cons ?_ (Steps'.cons ?_ (Steps'.cons ?_ (Steps'.cons ?_ (Steps'.cons ?_ (Steps'.cons ?_ (Steps'.cons ?_ (Steps'.cons ?_ (Steps'.cons ?_ (Steps'.cons ?_ (Steps'.cons ?_ (Steps'.one _ _ _ _ _ _ _)))))))))))))))))
        · intro ax wx hb hs hd
          have h2 : ax.tmps.getD 2 undef = (.pointer (some ⟨w.heap.size, 0, none⟩)) := hs 2 (by kernel_rfl)
          refine Does.value (.pointer (some ⟨w.heap.size, 0, none⟩)) ?_ rfl
          clear hs hd
          go_simp
        · intro ax wx hb hs hd
          have h18 : ax.tmps.getD 18 undef = (.pointer (some ⟨w.heap.size, 0, none⟩)) := hd 0 18 rfl (by kernel_rfl) (by decide)
          have cx : wx.cell? ⟨w.heap.size, 0, none⟩ = some (.int .u8 h.live) := (K2.out.b.later hb K2.out.b.lt).cell 0
          refine Does.value (.int .u8 h.live) ?_ rfl
          clear hs hd
          go_simp
        · intro ax wx hb hs hd
          have h2 : ax.tmps.getD 2 undef = (.pointer (some ⟨w.heap.size, 0, none⟩)) := hs 2 (by kernel_rfl)
          refine Does.value (.pointer (some ⟨w.heap.size, 1, none⟩)) ?_ rfl
          clear hs hd
          go_simp
        · intro ax wx hb hs hd
          have h20 : ax.tmps.getD 20 undef = (.pointer (some ⟨w.heap.size, 1, none⟩)) := hd 2 20 rfl (by kernel_rfl) (by decide)
          have cx : wx.cell? ⟨w.heap.size, 1, none⟩ = some (.int .u8 h.flag) := (K2.out.b.later hb K2.out.b.lt).cell 1
          refine Does.value (.int .u8 h.flag) ?_ rfl
          clear hs hd
          go_simp
        · intro ax wx hb hs hd
          have h19 : ax.tmps.getD 19 undef = (.int .u8 h.live) := hd 1 19 rfl (by kernel_rfl) (by decide)
          have h21 : ax.tmps.getD 21 undef = (.int .u8 h.flag) := hd 3 21 rfl (by kernel_rfl) (by decide)
          refine Does.two _ rfl h.live h.flag HK.out.live HK.out.flag ?_
          simp only [List.map_toArray, List.map_cons, List.map_nil]
          clear hs hd
          simp only [Act.eval, h19, h21]
        · intro ax wx hb hs hd
          have h2 : ax.tmps.getD 2 undef = (.pointer (some ⟨w.heap.size, 0, none⟩)) := hs 2 (by kernel_rfl)
          refine Does.value (.pointer (some ⟨w.heap.size, 2, none⟩)) ?_ rfl
          clear hs hd
          go_simp
        · intro ax wx hb hs hd
          have h23 : ax.tmps.getD 23 undef = (.pointer (some ⟨w.heap.size, 2, none⟩)) := hd 5 23 rfl (by kernel_rfl) (by decide)
          have cx : wx.cell? ⟨w.heap.size, 2, none⟩ = some (.int .u32 h.index) := (K2.out.b.later hb K2.out.b.lt).cell 2
          refine Does.value (.int .u32 h.index) ?_ rfl
          clear hs hd
          go_simp
        · intro ax wx hb hs hd
          have h24 : ax.tmps.getD 24 undef = (.int .u32 h.index) := hd 6 24 rfl (by kernel_rfl) (by decide)
          refine Does.value (.int .u64 h.index) ?_ rfl
          clear hs hd
          go_simp
        · intro ax wx hb hs hd
          have h25 : ax.tmps.getD 25 undef = (.int .u64 h.index) := hd 7 25 rfl (by kernel_rfl) (by decide)
          refine Does.call 36 #[.int .u64 h.index, .int .i64 4] (by clear hs hd; go_simp) ?_
          refine (rlit_any h.index ⟨by omega, by omega⟩ 4 (by decide) wx).mono ?_
          rintro e w' ⟨v, rfl, o, l⟩
          obtain ⟨q, cq, rfl, sq, fq, _, _⟩ := isO_sl (leB_length _ _) (leB_bytes _ _) (by decide) o
          exact ⟨_, rfl, ⟨_, _, _, rfl, sq, fq⟩, l⟩
        · intro ax wx hb hs hd
          have h2 : ax.tmps.getD 2 undef = (.pointer (some ⟨w.heap.size, 0, none⟩)) := hs 2 (by kernel_rfl)
          refine Does.value (.pointer (some ⟨w.heap.size, 3, none⟩)) ?_ rfl
          clear hs hd
          go_simp
        · intro ax wx hb hs hd
          have h27 : ax.tmps.getD 27 undef = (.pointer (some ⟨w.heap.size, 3, none⟩)) := hd 9 27 rfl (by kernel_rfl) (by decide)
          have cx : wx.cell? ⟨w.heap.size, 3, none⟩ = some (.int .u32 h.rank) := (K2.out.b.later hb K2.out.b.lt).cell 3
          refine Does.value (.int .u32 h.rank) ?_ rfl
          clear hs hd
          go_simp
        · intro ax wx hb hs hd
          have h28 : ax.tmps.getD 28 undef = (.int .u32 h.rank) := hd 10 28 rfl (by kernel_rfl) (by decide)
          refine Does.value (.int .u64 h.rank) ?_ rfl
          clear hs hd
          go_simp
        · intro ax wx hb hs hd
          have h29 : ax.tmps.getD 29 undef = (.int .u64 h.rank) := hd 11 29 rfl (by kernel_rfl) (by decide)
          refine Does.call 36 #[.int .u64 h.rank, .int .i64 4] (by clear hs hd; go_simp) ?_
          refine (rlit_any h.rank ⟨by omega, by omega⟩ 4 (by decide) wx).mono ?_
          rintro e w' ⟨v, rfl, o, l⟩
          obtain ⟨q, cq, rfl, sq, fq, _, _⟩ := isO_sl (leB_length _ _) (leB_bytes _ _) (by decide) o
          exact ⟨_, rfl, ⟨_, _, _, rfl, sq, fq⟩, l⟩
        · intro ax wx hb hs hd
          have h5 : ax.tmps.getD 5 undef = (.slice q5 16 c5) := hs 5 (by kernel_rfl)
          refine Does.value (.slice q5 16 c5) ?_ rfl
          clear hs hd
          go_simp
        · intro ax wx hb hs hd
          have h1 : ax.tmps.getD 1 undef = (.slice ao m c) := hs 1 (by kernel_rfl)
          refine Does.value (.slice ao m c) ?_ rfl
          clear hs hd
          go_simp
        · intro ax wx hb hs hd
          have p22 : (isS [h.live, h.flag]) (ax.tmps.getD 22 undef) wx := hd 4 22 rfl (by kernel_rfl) (by decide)
          have p26 : (isS (leB 4 h.index)) (ax.tmps.getD 26 undef) wx := hd 8 26 rfl (by kernel_rfl) (by decide)
          have p30 : (isS (leB 4 h.rank)) (ax.tmps.getD 30 undef) wx := hd 12 30 rfl (by kernel_rfl) (by decide)
          have h31 : ax.tmps.getD 31 undef = (.slice q5 16 c5) := hd 13 31 rfl (by kernel_rfl) (by decide)
          have h32 : ax.tmps.getD 32 undef = (.slice ao m c) := hd 14 32 rfl (by kernel_rfl) (by decide)
          obtain ⟨a1, n1, k1, e1, s1, f1⟩ := p22
          obtain ⟨a2, n2, k2, e2, s2, f2⟩ := p26
          obtain ⟨a3, n3, k3, e3, s3, f3⟩ := p30
          refine Does.rows5 _ rfl a1 a2 a3 q5 ao n1 n2 n3 16 m k1 k2 k3 c5 c _ _ _ zs bs ?_ ⟨s1, f1⟩ ⟨s2, f2⟩ ⟨s3, f3⟩ ⟨V5.out.1.later hb (Nat.le_refl _), V5.out.2⟩ ⟨HX.out.1.later (below_chain K2.out.bel hb K2.out.bel.size) (Nat.le_refl _), HX.out.2.1⟩
          simp only [List.map_toArray, List.map_cons, List.map_nil]
          clear hs hd
          simp only [Act.eval, e1, e2, e3, h31, h32]
        · intro ax wx hb hs hd
          have p33 : (isP 5 [[h.live, h.flag], leB 4 h.index, leB 4 h.rank, zs, bs]) (ax.tmps.getD 33 undef) wx := hd 15 33 rfl (by kernel_rfl) (by decide)
          obtain ⟨b, cq, h33, sp⟩ := p33
          refine Does.call 35 #[.slice (some ⟨b, 0, none⟩) 5 cq] (by clear hs hd; go_simp) ?_
          have ef : [[h.live, h.flag], leB 4 h.index, leB 4 h.rank, zs, bs].flatten = hdB h ++ bs := by simp [hdB, HL.out.2.2]
          have el : (hdB h ++ bs).length = 26 + m := by rw [List.length_append, hdB_length HK.out.len, HX.out.1.len]
          have J := joinB_any (some ⟨b, 0, none⟩) 5 cq _ wx sp (by decide) (by rw [ef, el]; exact HX.out.2.2)
          rw [ef, el] at J
          refine J.mono ?_
          rintro e w' ⟨v, rfl, o, l⟩
          exact ⟨_, rfl, isO_base o (by have := hb.size; have := K2.out.bel.size; omega), l⟩
      · intro wx hb
        refine @Ends.val _ _ _ _ _ _ _ _ _ (.pointer (some ⟨w.heap.size, 0, none⟩)) rfl ?_
        refine @Ends.val _ _ _ _ _ _ _ _ _ (.int .u8 h.live) rfl ?_
        refine @Ends.val _ _ _ _ _ _ _ _ _ (.pointer (some ⟨w.heap.size, 1, none⟩)) rfl ?_
        refine @Ends.val _ _ _ _ _ _ _ _ _ (.int .u8 h.flag) rfl ?_
        refine @Ends.any _ _ _ _ _ _ _ _ _ (isS [h.live, h.flag]) (isS_later _) rfl ?_
        intro v22 p22
        refine @Ends.val _ _ _ _ _ _ _ _ _ (.pointer (some ⟨w.heap.size, 2, none⟩)) rfl ?_
        refine @Ends.val _ _ _ _ _ _ _ _ _ (.int .u32 h.index) rfl ?_
        refine @Ends.val _ _ _ _ _ _ _ _ _ (.int .u64 h.index) rfl ?_
        refine @Ends.any _ _ _ _ _ _ _ _ _ (isS (leB 4 h.index)) (isS_later _) rfl ?_
        intro v26 p26
        refine @Ends.val _ _ _ _ _ _ _ _ _ (.pointer (some ⟨w.heap.size, 3, none⟩)) rfl ?_
        refine @Ends.val _ _ _ _ _ _ _ _ _ (.int .u32 h.rank) rfl ?_
        refine @Ends.val _ _ _ _ _ _ _ _ _ (.int .u64 h.rank) rfl ?_
        refine @Ends.any _ _ _ _ _ _ _ _ _ (isS (leB 4 h.rank)) (isS_later _) rfl ?_
        intro v30 p30
        refine @Ends.val _ _ _ _ _ _ _ _ _ (.slice q5 16 c5) rfl ?_
        refine @Ends.val _ _ _ _ _ _ _ _ _ (.slice ao m c) rfl ?_
        refine @Ends.any _ _ _ _ _ _ _ _ _ (isP 5 [[h.live, h.flag], leB 4 h.index, leB 4 h.rank, zs, bs]) (isP_later _ _) rfl ?_
        intro v33 p33
        refine @Ends.any _ _ _ _ _ _ _ _ _ (isO w.heap.size (26 + m) (hdB h ++ bs)) (isO_later _ _ _) rfl ?_
        intro v34 p34
        refine @Ends.one _ _ _ _ _ _ _ ?_
        simp only [Act.put, List.setIfInBounds_toArray, List.set_cons_zero, List.set_cons_succ]
        have V9 : Hid (isO w.heap.size (26 + m) (hdB h ++ bs) v34 wx ∧ Below w.heap.size w wx) := ⟨p34, below_chain K2.out.bel hb K2.out.bel.size⟩
        clear p22 p26 p30 p33 p34
        refine last_assign (.tmp 34) rfl (some 4) rfl v34 rfl ?_
        simp only [Act.put, List.setIfInBounds_toArray, List.set_cons_zero, List.set_cons_succ]
        go_wp2
        go_ret
        exact ⟨_, rfl, V9.out.1, V9.out.2⟩
end Go.Proofs.Ytabdjoljdefjdaa
