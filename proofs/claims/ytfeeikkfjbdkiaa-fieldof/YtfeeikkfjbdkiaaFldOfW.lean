/- Layer field: FieldOf: the number of all 32 bytes. -/
import Derived.Test.YtfeeikkfjbdkiaaFAwake
import Derived.Test.YtfeeikkfjbdkiaaRFOf
import Derived.Test.YtfeeikkfjbdkiaaRInvG
import Derived.Test.YtfeeikkfjbdkiaaFLast
namespace Go.Proofs.Ytfeeikkfjbdkiaa
open Go.RowKit
set_option linter.unusedVariables false
set_option linter.unusedSimpArgs false

set_option maxRecDepth 20000 in
set_option maxHeartbeats 8000000 in
theorem of_any (aa : List Int) (n : Int) (la : aa.length = 32) (ba : Bytes aa) (hn : Word n) (w : World) :
    Calls Try.prog 3 #[.agg (u8s aa).toArray, .int .u64 n] w fun e w' => e = .returned (.bool true) ∧ Below w.heap.size w w' := by
  have hro := rof_any aa la ba
  have hrs := rsmall_any n hn
  have hx := fof_any aa la ba
  have HA_aa : Hid ((u8s aa).length = 32) := by rw [u8s_length, la]; rfl
  obtain ⟨x, ex⟩ : ∃ q, le aa % 57896044618658097711785492504343953926634992332820282019728792003956564819968 % PR = q := ⟨_, rfl⟩
  have rx : 0 ≤ x ∧ x < PR := by rw [← ex]; exact ⟨Int.emod_nonneg _ (by decide), Int.emod_lt_of_pos _ (by decide)⟩
  rw [ex] at hx
  have HCx : Hid (∀ w, Calls Try.prog 12 #[.agg (u8s aa).toArray] w fun e w' => ∃ r, e = .returned (.agg (u64s r).toArray) ∧ Fe r x ∧ Below w.heap.size w w') := hx
  rw [ex] at hro
  have hq1 : ∀ wx, (Op.equalIn 10000 22 (.agg (u8s (leB 32 x)).toArray) (.agg (u8s (leB 32 x)).toArray)).run Try.prog wx = .ok true wx := equal32A 22 32 Try.underlying22 9998 _ (leB_length _ _)
  have hq2 : ∀ wx, (Op.equalIn 10000 22 (.agg (u8s (leB 32 n)).toArray) (.agg (u8s (leB 32 n)).toArray)).run Try.prog wx = .ok true wx := equal32A 22 32 Try.underlying22 9998 _ (leB_length _ _)
  obtain ⟨BX, hBX⟩ : ∃ z, leB 32 x = z := ⟨_, rfl⟩
  obtain ⟨BN, hBN⟩ : ∃ z, leB 32 n = z := ⟨_, rfl⟩
  rw [hBX] at hro hq1
  rw [hBN] at hrs hq2
  have HB : Hid (leB 32 x = BX ∧ leB 32 n = BN) := ⟨hBX, hBN⟩
  have HRO : Hid (∀ w, Calls Try.prog 14 #[.agg (u8s aa).toArray] w fun e w' => e = .returned (.agg (u8s BX).toArray) ∧ Below w.heap.size w w') := hro
  have HRS : Hid (∀ w, Calls Try.prog 16 #[.int .u64 n] w fun e w' => e = .returned (.agg (u8s BN).toArray) ∧ Below w.heap.size w w') := hrs
  have HN : Hid (0 ≤ n ∧ n < 18446744073709551616) := hn
  clear hx ex la ba rx hro hrs hBX hBN hn
  go_enter Try.func3, Try.ntmps3
  go_wp2_with (refine wpList_box_new rfl 22 (.tmp 0) rfl (u8s aa) rfl ?_; intro x1 z1 s1 l1)
  have V0 : Hid (Below w.heap.size w x1 ∧ Blk x1 w.heap.size 22 (u8s aa)) := ⟨l1, z1⟩
  clear z1 s1 l1
  refine region_invG ((.val (.agg (u8s aa).toArray)) :: (.any (isF x) (isF_later x)) :: (.val (.agg (u8s BX).toArray)) :: (.val (.agg (u8s aa).toArray)) :: (.val (.agg (u8s BX).toArray)) :: (.val (.bool true)) :: (.val (.bool true)) :: (.val (.int .u64 n)) :: (.any (isF n) (isF_later n)) :: (.val (.agg (u8s BN).toArray)) :: (.val (.int .u64 n)) :: (.val (.agg (u8s BN).toArray)) :: (.val (.bool true)) :: (.val (.bool true)) :: []) (by kernel_rfl) (by kernel_rfl) (by repeat (first | exact trivial | (refine ⟨by first | trivial | rfl, ?_⟩))) (by kernel_rfl) ?_ ?_
  · refine Steps'.cons ?_ (Steps'.cons ?_ (Steps'.cons ?_ (Steps'.cons ?_ (Steps'.cons ?_ (Steps'.cons ?_ (Steps'.cons ?_ (Steps'.cons ?_ (Steps'.cons ?_ (Steps'.cons ?_ (Steps'.cons ?_ (Steps'.cons ?_ (Steps'.cons ?_ (Steps'.cons ?_ (Steps'.one _ _ _ _ _ _ _))))))))))))))
    · intro ax wx hb hs hd
      have h2 : ax.tmps.getD 2 undef = (.pointer (some ⟨w.heap.size, 0, none⟩)) := hs 2 (by kernel_rfl)
      exact Does.load 22 (.tmp 2) rfl w.heap.size 0 h2 (u8s aa) _ ((Blk.later V0.out.2 hb (Blk.lt V0.out.2)).whole) Try.underlying22 rfl (by rw [HA_aa.out]; exact size32)
    · intro ax wx hb hs hd
      have h5 : ax.tmps.getD 5 undef = (.agg (u8s aa).toArray) := hd 0 5 rfl (by kernel_rfl) (by decide)
      refine Does.call 12 #[(.agg (u8s aa).toArray)] (by clear hs hd; go_simp) ?_
      refine (HCx.out _).mono ?_
      rintro z w' ⟨r, rfl, fr, l⟩
      exact ⟨_, rfl, ⟨r, rfl, fr⟩, l⟩
    · intro ax wx hb hs hd
      obtain ⟨l6, h6, f6⟩ : isF x (ax.tmps.getD 6 undef) wx := hd 1 6 rfl (by kernel_rfl) (by decide)
      refine Does.call 13 #[(.agg (u64s l6).toArray)] (by clear hs hd; go_simp) ?_
      refine (fbytes_any _ _ f6 _).mono ?_
      rintro z w' ⟨rfl, l⟩
      exact ⟨_, rfl, by show Value.agg _ = Value.agg _; rw [HB.out.1], l⟩
    · intro ax wx hb hs hd
      have h2 : ax.tmps.getD 2 undef = (.pointer (some ⟨w.heap.size, 0, none⟩)) := hs 2 (by kernel_rfl)
      exact Does.load 22 (.tmp 2) rfl w.heap.size 0 h2 (u8s aa) _ ((Blk.later V0.out.2 hb (Blk.lt V0.out.2)).whole) Try.underlying22 rfl (by rw [HA_aa.out]; exact size32)
    · intro ax wx hb hs hd
      have h8 : ax.tmps.getD 8 undef = (.agg (u8s aa).toArray) := hd 3 8 rfl (by kernel_rfl) (by decide)
      refine Does.call 14 #[(.agg (u8s aa).toArray)] (by clear hs hd; go_simp) ?_
      refine (HRO.out _).mono ?_
      rintro z w' ⟨rfl, l⟩
      exact ⟨_, rfl, rfl, l⟩
    · intro ax wx hb hs hd
      have h7 : ax.tmps.getD 7 undef = (.agg (u8s BX).toArray) := hd 2 7 rfl (by kernel_rfl) (by decide)
      have h9 : ax.tmps.getD 9 undef = (.agg (u8s BX).toArray) := hd 4 9 rfl (by kernel_rfl) (by decide)
      refine Does.value (.bool true) ?_ rfl
      clear hs hd
      go_simp
    · intro ax wx hb hs hd
      have h10 : ax.tmps.getD 10 undef = (.bool true) := hd 5 10 rfl (by kernel_rfl) (by decide)
      refine Does.value (.bool true) ?_ rfl
      clear hs hd
      go_simp
    · intro ax wx hb hs hd
      have h1 : ax.tmps.getD 1 undef = (.int .u64 n) := hs 1 (by kernel_rfl)
      refine Does.value (.int .u64 n) ?_ rfl
      clear hs hd
      go_simp
    · intro ax wx hb hs hd
      have h12 : ax.tmps.getD 12 undef = (.int .u64 n) := hd 7 12 rfl (by kernel_rfl) (by decide)
      refine Does.call 15 #[(.int .u64 n)] (by clear hs hd; go_simp) ?_
      refine (small_any n HN.out.1 HN.out.2 _).mono ?_
      rintro z w' ⟨r, rfl, fr, l⟩
      exact ⟨_, rfl, ⟨r, rfl, fr⟩, l⟩
    · intro ax wx hb hs hd
      obtain ⟨l13, h13, f13⟩ : isF n (ax.tmps.getD 13 undef) wx := hd 8 13 rfl (by kernel_rfl) (by decide)
      refine Does.call 13 #[(.agg (u64s l13).toArray)] (by clear hs hd; go_simp) ?_
      refine (fbytes_any _ _ f13 _).mono ?_
      rintro z w' ⟨rfl, l⟩
      exact ⟨_, rfl, by show Value.agg _ = Value.agg _; rw [HB.out.2], l⟩
    · intro ax wx hb hs hd
      have h1 : ax.tmps.getD 1 undef = (.int .u64 n) := hs 1 (by kernel_rfl)
      refine Does.value (.int .u64 n) ?_ rfl
      clear hs hd
      go_simp
    · intro ax wx hb hs hd
      have h15 : ax.tmps.getD 15 undef = (.int .u64 n) := hd 10 15 rfl (by kernel_rfl) (by decide)
      refine Does.call 16 #[(.int .u64 n)] (by clear hs hd; go_simp) ?_
      refine (HRS.out _).mono ?_
      rintro z w' ⟨rfl, l⟩
      exact ⟨_, rfl, rfl, l⟩
    · intro ax wx hb hs hd
      have h14 : ax.tmps.getD 14 undef = (.agg (u8s BN).toArray) := hd 9 14 rfl (by kernel_rfl) (by decide)
      have h16 : ax.tmps.getD 16 undef = (.agg (u8s BN).toArray) := hd 11 16 rfl (by kernel_rfl) (by decide)
      refine Does.value (.bool true) ?_ rfl
      clear hs hd
      go_simp
    · intro ax wx hb hs hd
      have h11 : ax.tmps.getD 11 undef = (.bool true) := hd 6 11 rfl (by kernel_rfl) (by decide)
      have h17 : ax.tmps.getD 17 undef = (.bool true) := hd 12 17 rfl (by kernel_rfl) (by decide)
      refine Does.value (.bool true) ?_ rfl
      clear hs hd
      go_simp
  · intro wx hb
    refine @Ends.val _ _ _ _ _ _ _ _ _ (.agg (u8s aa).toArray) rfl ?_
    refine @Ends.any _ _ _ _ _ _ _ _ _ (isF x) (isF_later x) rfl ?_
    intro v1 p1
    refine @Ends.val _ _ _ _ _ _ _ _ _ (.agg (u8s BX).toArray) rfl ?_
    refine @Ends.val _ _ _ _ _ _ _ _ _ (.agg (u8s aa).toArray) rfl ?_
    refine @Ends.val _ _ _ _ _ _ _ _ _ (.agg (u8s BX).toArray) rfl ?_
    refine @Ends.val _ _ _ _ _ _ _ _ _ (.bool true) rfl ?_
    refine @Ends.val _ _ _ _ _ _ _ _ _ (.bool true) rfl ?_
    refine @Ends.val _ _ _ _ _ _ _ _ _ (.int .u64 n) rfl ?_
    refine @Ends.any _ _ _ _ _ _ _ _ _ (isF n) (isF_later n) rfl ?_
    intro v8 p8
    refine @Ends.val _ _ _ _ _ _ _ _ _ (.agg (u8s BN).toArray) rfl ?_
    refine @Ends.val _ _ _ _ _ _ _ _ _ (.int .u64 n) rfl ?_
    refine @Ends.val _ _ _ _ _ _ _ _ _ (.agg (u8s BN).toArray) rfl ?_
    refine @Ends.val _ _ _ _ _ _ _ _ _ (.bool true) rfl ?_
    refine @Ends.val _ _ _ _ _ _ _ _ _ (.bool true) rfl ?_
    refine @Ends.one _ _ _ _ _ _ _ ?_
    simp only [Act.put, List.setIfInBounds_toArray, List.set_cons_zero, List.set_cons_succ]
    refine last_assign (.tmp 18) rfl (some 4) rfl (.bool true) rfl ?_
    have V1 : Hid (Below w.heap.size w wx ∧ Blk wx w.heap.size 22 (u8s aa)) := ⟨below_chain V0.out.1 hb V0.out.1.size, (V0.out.2.later hb V0.out.2.lt)⟩
    obtain ⟨yV1, rfl⟩ : ∃ q, q = wx := ⟨_, rfl⟩
    clear V0 hb p1 p8
    simp only [Act.put, List.setIfInBounds_toArray, List.set_cons_zero, List.set_cons_succ]
    go_wp2_with fail
    go_ret
    exact ⟨rfl, V1.out.1⟩
end Go.Proofs.Ytfeeikkfjbdkiaa
