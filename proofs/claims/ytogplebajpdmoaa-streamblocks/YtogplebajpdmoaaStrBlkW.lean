/- The walk of StreamBlocks. -/
import Derived.Test.YtogplebajpdmoaaBY
import Derived.Test.YtogplebajpdmoaaBY
import Derived.Test.YtogplebajpdmoaaBU
namespace Go.Proofs.Ytogplebajpdmoaa
open Go.RowKit Go.Joins
set_option linter.unusedVariables false
set_option linter.unusedSimpArgs false

/-- An array of bytes is itself. -/
theorem equalB (t : TypeId) (n : Nat) (ht : Try.prog.underlying t = some (.array n 5)) (d : Nat) (zs : List Int) (hl : zs.length = n) (w : World) : (Op.equalIn (d + 2) t (.agg (u8s zs).toArray) (.agg (u8s zs).toArray)).run Try.prog w = .ok true w := by
  have hsz : ∀ w, (sizeOf 5).run Try.prog w = .ok 1 w := fun w => by
    have h := infoByte
    cases hq : Try.prog.info? 5 with
    | none => simp [hq] at h
    | some i => simp [hq] at h; simp [sizeOf, typeInfo, hq, h.2]
  have he := Try.underlying5
  rw [Op.equalIn]
  simp only [Sem.run_bind, run_underlying ht, Result.andThen_ok, hsz, Std.Legacy.Range.forIn_eq_forIn_range', Std.Legacy.Range.size, Nat.sub_zero, Nat.add_sub_cancel, Nat.div_one]
  have hlr : ∀ i ∈ List.range' 0 n 1, i < n := fun i hi => by simpa using (List.mem_range'_1.1 hi).2
  generalize List.range' 0 n 1 = l at hlr ⊢
  induction l with
  | nil => simp
  | cons i l ih =>
    have hi : i < n := hlr i (by simp)
    have px : (Go.part 5 (u8s zs).toArray (i * 1)).run Try.prog w = .ok (.int .u8 (zs.getD i 0)) w := by
      simp [Go.part, isAgg, run_underlying he, u8s, List.getD, List.getElem?_eq_getElem (show i < zs.length by omega)]
    have pe : (Op.equalIn (d + 1) 5 (.int .u8 (zs.getD i 0)) (.int .u8 (zs.getD i 0))).run Try.prog w = .ok true w := by
      rw [run_equalIn_int w d 5 .u8 .u8 _ _ he]; simp
    simp only [List.forIn_cons, Sem.run_bind, px, pe, Result.andThen_ok]
    simp only [Bool.not_true, Bool.false_eq_true, if_false, Sem.run_pure, Result.andThen_ok]
    exact ih fun j hj => hlr j (by simp [hj])
set_option maxRecDepth 20000 in
set_option maxHeartbeats 4000000 in
theorem streamBlocks.walk (key nonce : List Int) (ctr : Nat) (w : World) (hk : key.length = 32) (hno : nonce.length = 12) (hkb : Bytes key) (hnb : Bytes nonce) (hct : ctr < 4294967296) :
    Calls Try.prog 12 #[.agg (bCells key nonce ctr).toArray] w fun e w' => e = .returned (.bool true) ∧ Below w.heap.size w w' := by
  obtain ⟨Y, hY⟩ : ∃ Y, blkB key (ctr : Int) nonce = Y := ⟨_, rfl⟩
  have HK : Hid (key.length = 32 ∧ nonce.length = 12 ∧ Bytes key ∧ Bytes nonce ∧ Wd (ctr : Int) ∧ blkB key (ctr : Int) nonce = Y) := ⟨hk, hno, hkb, hnb, ⟨by omega, by omega⟩, hY⟩
  have heq : ∀ W, (Op.equalIn 10000 68 (.agg (u8s Y).toArray) (.agg (u8s Y).toArray)).run Try.prog W = .ok true W := equalB 68 64 Try.underlying68 9998 Y (by rw [← hY, blkB_length])
  have uK : (Try.prog.info? 30).map (·.size) = some (u8s key).length := by rw [u8s_length, hk]; exact sizeKey
  have uN : (Try.prog.info? 25).map (·.size) = some (u8s nonce).length := by rw [u8s_length, hno]; exact sizeNonce
  clear hk hno hkb hnb hY
  go_enter Try.func12, Try.ntmps12
  go_wp2_with (first | (refine wpList_box_new rfl 67 _ rfl (bCells key nonce ctr) rfl ?_; intro w1 b1 s1 l1))
  have BG : Hid (BgAt w1 w.heap.size key nonce ctr ∧ Below w.heap.size w w1) := ⟨⟨b1, HK.out.1, HK.out.2.1, HK.out.2.2.1, HK.out.2.2.2.1, hct⟩, l1⟩
  clear b1 s1 l1
  try simp only [Act.put, List.setIfInBounds_toArray, List.set_cons_zero, List.set_cons_succ]
  refine region_inv [.val (.pointer (some ⟨w.heap.size, 0, none⟩)), .val (.agg (u8s key).toArray), .val (.pointer (some ⟨w.heap.size, 44, none⟩)), .val (.int .u32 (ctr : Int)), .val (.pointer (some ⟨w.heap.size, 32, none⟩)), .val (.agg (u8s nonce).toArray), .val (.agg (u8s Y).toArray), .val (.pointer (some ⟨w.heap.size, 0, none⟩)), .val (.agg (u8s key).toArray), .val (.pointer (some ⟨w.heap.size, 44, none⟩)), .val (.int .u32 (ctr : Int)), .val (.pointer (some ⟨w.heap.size, 32, none⟩)), .val (.agg (u8s nonce).toArray), .val (.agg (u8s Y).toArray), .val (.bool true)] (by kernel_rfl) (by kernel_rfl) (by kernel_rfl) ?_ ?_
  · refine Steps'.cons ?_ (Steps'.cons ?_ (Steps'.cons ?_ (Steps'.cons ?_ (Steps'.cons ?_ (Steps'.cons ?_ (Steps'.cons ?_ (Steps'.cons ?_ (Steps'.cons ?_ (Steps'.cons ?_ (Steps'.cons ?_ (Steps'.cons ?_ (Steps'.cons ?_ (Steps'.cons ?_ (Steps'.cons ?_ (Steps'.one _ _ _ _ _ _ _)))))))))))))))
    · intro ax wx hb hs hd
      have h1 : ax.tmps.getD 1 undef = (.pointer (some ⟨w.heap.size, 0, none⟩)) := hs 1 (by kernel_rfl)
      refine Does.value (.pointer (some ⟨w.heap.size, 0, none⟩)) ?_ rfl
      go_simp
    · intro ax wx hb hs hd
      have h3 : ax.tmps.getD 3 undef = (.pointer (some ⟨w.heap.size, 0, none⟩)) := hd 0 3 rfl (by kernel_rfl) (by decide)
      exact Does.load 30 (.tmp 3) rfl w.heap.size 0 h3 (u8s key) _ ((BG.out.1.later hb BG.out.1.blk.lt).key) Try.underlying30 rfl uK
    · intro ax wx hb hs hd
      have h1 : ax.tmps.getD 1 undef = (.pointer (some ⟨w.heap.size, 0, none⟩)) := hs 1 (by kernel_rfl)
      refine Does.value (.pointer (some ⟨w.heap.size, 44, none⟩)) ?_ rfl
      go_simp
    · intro ax wx hb hs hd
      have h5 : ax.tmps.getD 5 undef = (.pointer (some ⟨w.heap.size, 44, none⟩)) := hd 2 5 rfl (by kernel_rfl) (by decide)
      have cx := (BG.out.1.later hb BG.out.1.blk.lt).ctr
      refine Does.value (.int .u32 (ctr : Int)) ?_ rfl
      go_simp
    · intro ax wx hb hs hd
      have h1 : ax.tmps.getD 1 undef = (.pointer (some ⟨w.heap.size, 0, none⟩)) := hs 1 (by kernel_rfl)
      refine Does.value (.pointer (some ⟨w.heap.size, 32, none⟩)) ?_ rfl
      go_simp
    · intro ax wx hb hs hd
      have h7 : ax.tmps.getD 7 undef = (.pointer (some ⟨w.heap.size, 32, none⟩)) := hd 4 7 rfl (by kernel_rfl) (by decide)
      exact Does.load 25 (.tmp 7) rfl w.heap.size 32 h7 (u8s nonce) _ ((BG.out.1.later hb BG.out.1.blk.lt).nonce) Try.underlying25 rfl uN
    · intro ax wx hb hs hd
      have h4 : ax.tmps.getD 4 undef = (.agg (u8s key).toArray) := hd 1 4 rfl (by kernel_rfl) (by decide)
      have h6 : ax.tmps.getD 6 undef = (.int .u32 (ctr : Int)) := hd 3 6 rfl (by kernel_rfl) (by decide)
      have h8 : ax.tmps.getD 8 undef = (.agg (u8s nonce).toArray) := hd 5 8 rfl (by kernel_rfl) (by decide)
      refine Does.call 37 #[(.agg (u8s key).toArray), (.int .u32 (ctr : Int)), (.agg (u8s nonce).toArray)] (by go_simp) ?_
      have q := block_any key (ctr : Int) nonce HK.out.1 HK.out.2.1 HK.out.2.2.1 HK.out.2.2.2.1 wx
      rw [HK.out.2.2.2.2.2] at q
      refine q.mono ?_
      rintro e w' ⟨rfl, l⟩
      exact ⟨_, rfl, rfl, l⟩
    · intro ax wx hb hs hd
      have h1 : ax.tmps.getD 1 undef = (.pointer (some ⟨w.heap.size, 0, none⟩)) := hs 1 (by kernel_rfl)
      refine Does.value (.pointer (some ⟨w.heap.size, 0, none⟩)) ?_ rfl
      go_simp
    · intro ax wx hb hs hd
      have h10 : ax.tmps.getD 10 undef = (.pointer (some ⟨w.heap.size, 0, none⟩)) := hd 7 10 rfl (by kernel_rfl) (by decide)
      exact Does.load 30 (.tmp 10) rfl w.heap.size 0 h10 (u8s key) _ ((BG.out.1.later hb BG.out.1.blk.lt).key) Try.underlying30 rfl uK
    · intro ax wx hb hs hd
      have h1 : ax.tmps.getD 1 undef = (.pointer (some ⟨w.heap.size, 0, none⟩)) := hs 1 (by kernel_rfl)
      refine Does.value (.pointer (some ⟨w.heap.size, 44, none⟩)) ?_ rfl
      go_simp
    · intro ax wx hb hs hd
      have h12 : ax.tmps.getD 12 undef = (.pointer (some ⟨w.heap.size, 44, none⟩)) := hd 9 12 rfl (by kernel_rfl) (by decide)
      have cx := (BG.out.1.later hb BG.out.1.blk.lt).ctr
      refine Does.value (.int .u32 (ctr : Int)) ?_ rfl
      go_simp
    · intro ax wx hb hs hd
      have h1 : ax.tmps.getD 1 undef = (.pointer (some ⟨w.heap.size, 0, none⟩)) := hs 1 (by kernel_rfl)
      refine Does.value (.pointer (some ⟨w.heap.size, 32, none⟩)) ?_ rfl
      go_simp
    · intro ax wx hb hs hd
      have h14 : ax.tmps.getD 14 undef = (.pointer (some ⟨w.heap.size, 32, none⟩)) := hd 11 14 rfl (by kernel_rfl) (by decide)
      exact Does.load 25 (.tmp 14) rfl w.heap.size 32 h14 (u8s nonce) _ ((BG.out.1.later hb BG.out.1.blk.lt).nonce) Try.underlying25 rfl uN
    · intro ax wx hb hs hd
      have h11 : ax.tmps.getD 11 undef = (.agg (u8s key).toArray) := hd 8 11 rfl (by kernel_rfl) (by decide)
      have h13 : ax.tmps.getD 13 undef = (.int .u32 (ctr : Int)) := hd 10 13 rfl (by kernel_rfl) (by decide)
      have h15 : ax.tmps.getD 15 undef = (.agg (u8s nonce).toArray) := hd 12 15 rfl (by kernel_rfl) (by decide)
      refine Does.call 38 #[(.agg (u8s key).toArray), (.int .u32 (ctr : Int)), (.agg (u8s nonce).toArray)] (by go_simp) ?_
      have q := rblock_any key (ctr : Int) nonce HK.out.1 HK.out.2.1 HK.out.2.2.1 HK.out.2.2.2.1 HK.out.2.2.2.2.1 wx
      rw [HK.out.2.2.2.2.2] at q
      refine q.mono ?_
      rintro e w' ⟨rfl, l⟩
      exact ⟨_, rfl, rfl, l⟩
    · intro ax wx hb hs hd
      have h9 : ax.tmps.getD 9 undef = (.agg (u8s Y).toArray) := hd 6 9 rfl (by kernel_rfl) (by decide)
      have h16 : ax.tmps.getD 16 undef = (.agg (u8s Y).toArray) := hd 13 16 rfl (by kernel_rfl) (by decide)
      refine Does.value (.bool true) ?_ rfl
      go_simp
  · intro wx hb
    refine @Ends.val _ _ _ _ _ _ _ _ _ (.pointer (some ⟨w.heap.size, 0, none⟩)) rfl ?_
    refine @Ends.val _ _ _ _ _ _ _ _ _ (.agg (u8s key).toArray) rfl ?_
    refine @Ends.val _ _ _ _ _ _ _ _ _ (.pointer (some ⟨w.heap.size, 44, none⟩)) rfl ?_
    refine @Ends.val _ _ _ _ _ _ _ _ _ (.int .u32 (ctr : Int)) rfl ?_
    refine @Ends.val _ _ _ _ _ _ _ _ _ (.pointer (some ⟨w.heap.size, 32, none⟩)) rfl ?_
    refine @Ends.val _ _ _ _ _ _ _ _ _ (.agg (u8s nonce).toArray) rfl ?_
    refine @Ends.val _ _ _ _ _ _ _ _ _ (.agg (u8s Y).toArray) rfl ?_
    refine @Ends.val _ _ _ _ _ _ _ _ _ (.pointer (some ⟨w.heap.size, 0, none⟩)) rfl ?_
    refine @Ends.val _ _ _ _ _ _ _ _ _ (.agg (u8s key).toArray) rfl ?_
    refine @Ends.val _ _ _ _ _ _ _ _ _ (.pointer (some ⟨w.heap.size, 44, none⟩)) rfl ?_
    refine @Ends.val _ _ _ _ _ _ _ _ _ (.int .u32 (ctr : Int)) rfl ?_
    refine @Ends.val _ _ _ _ _ _ _ _ _ (.pointer (some ⟨w.heap.size, 32, none⟩)) rfl ?_
    refine @Ends.val _ _ _ _ _ _ _ _ _ (.agg (u8s nonce).toArray) rfl ?_
    refine @Ends.val _ _ _ _ _ _ _ _ _ (.agg (u8s Y).toArray) rfl ?_
    refine @Ends.val _ _ _ _ _ _ _ _ _ (.bool true) rfl ?_
    refine @Ends.one _ _ _ _ _ _ _ ?_
    simp only [Act.put, List.setIfInBounds_toArray, List.set_cons_zero, List.set_cons_succ]
    refine last_assign (.tmp 17) rfl (some 2) rfl _ rfl ?_
    simp only [Act.put, List.setIfInBounds_toArray, List.set_cons_zero, List.set_cons_succ]
    have LX : Hid (Below w.heap.size w wx) := below_chain BG.out.2 hb BG.out.2.size
    clear hb
    go_wp2_with fail
    go_ret
    exact ⟨rfl, LX.out⟩
end Go.Proofs.Ytogplebajpdmoaa
