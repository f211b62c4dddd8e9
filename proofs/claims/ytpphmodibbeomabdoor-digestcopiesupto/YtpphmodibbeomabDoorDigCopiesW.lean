/- The walk of DigestCopies. -/
import Derived.Test.YtpphmodibbeomabDoorDCopy
namespace Go.Proofs.YtpphmodibbeomabDoor
open Go.RowKit
set_option linter.unusedVariables false
set_option linter.unusedSimpArgs false
/-- Some hashes of the call's own: block by block what they hold. -/
structure Hsh (w W : World) (f : Nat → Option (List Int)) : Prop where
  bel : Below w.heap.size w W
  tab : KTab W
  old : 0 < w.heap.size
  at_ : ∀ g m, f g = some m → w.heap.size ≤ g ∧ Holds W g m
def put (f : Nat → Option (List Int)) (g : Nat) (m : List Int) : Nat → Option (List Int) := fun j => if j = g then some m else f j
theorem put_same (f : Nat → Option (List Int)) (g : Nat) (m : List Int) : put f g m g = some m := by simp [put]
theorem put_other (f : Nat → Option (List Int)) (g j : Nat) (m : List Int) (h : j ≠ g) : put f g m j = f j := by simp [put, h]
theorem Hsh.grow {w W W' : World} {f : Nat → Option (List Int)} (h : Hsh w W f) (l : Below W.heap.size W W') : Hsh w W' f :=
  ⟨below_chain h.bel l h.bel.size, h.tab.below l h.tab.lt, h.old, fun g m e => ⟨(h.at_ g m e).1, (h.at_ g m e).2.later l (h.at_ g m e).2.lt⟩⟩
theorem Hsh.upd {w W W' : World} {f : Nat → Option (List Int)} (h : Hsh w W f) {g : Nat} (hg : w.heap.size ≤ g) {m : List Int} (hm : Holds W' g m) (k : Kept (fun b => b = g) W W') : Hsh w W' (put f g m) :=
  ⟨below_kept h.bel k h.bel.size (fun j hj => by omega), h.tab.kept k (by have := h.old; omega), h.old, fun j m' e => by
    unfold put at e
    split at e
    · next hj => subst hj; cases e; exact ⟨hg, hm⟩
    · next hj => exact ⟨(h.at_ j m' e).1, (h.at_ j m' e).2.kept k hj⟩⟩
theorem Hsh.add {w W W' : World} {f : Nat → Option (List Int)} (h : Hsh w W f) {g : Nat} (hg : W.heap.size ≤ g) {m : List Int} (hm : Holds W' g m) (l : Below W.heap.size W W') : Hsh w W' (put f g m) :=
  ⟨below_chain h.bel l h.bel.size, h.tab.below l h.tab.lt, h.old, fun j m' e => by
    unfold put at e
    split at e
    · next hj => subst hj; cases e; exact ⟨Nat.le_trans h.bel.size hg, hm⟩
    · next hj => exact ⟨(h.at_ j m' e).1, (h.at_ j m' e).2.later l (h.at_ j m' e).2.lt⟩⟩
theorem Hsh.lt {w W : World} {f : Nat → Option (List Int)} (h : Hsh w W f) {g : Nat} {m : List Int} (e : f g = some m) : g < W.heap.size := (h.at_ g m e).2.lt
theorem three_flat (a b c : List Int) : ([a, b, c] : List (List Int)).flatten = a ++ b ++ c := by simp
theorem len2 (a b : List Int) : (((a ++ b).length : Nat) : Int) = (a.length : Int) + (b.length : Int) := by simp
end Go.Proofs.YtpphmodibbeomabDoor
namespace Go.Proofs.YtpphmodibbeomabDoor.digestCopies
open Go.RowKit
set_option linter.unusedVariables false
set_option linter.unusedSimpArgs false

set_option maxRecDepth 20000 in
set_option maxHeartbeats 8000000 in
theorem walk (ao bo co : Option Addr) (ac bc cc : Nat) (az bz cz : List Int) (w : World) (ha : Seen w ao az.length az) (hb : Seen w bo bz.length bz) (hc : Seen w co cz.length cz) (la : az.length ≤ ac) (lb : bz.length ≤ bc) (lc : cz.length ≤ cc)
    (ma : az.length ≤ 1048576) (mb : bz.length ≤ 1048576) (mc : cz.length ≤ 1048576) (hK : KTab w) :
    Calls Tryd.prog 3 #[.slice ao az.length ac, .slice bo bz.length bc, .slice co cz.length cc] w fun e w' => e = .returned (.bool true) ∧ Below w.heap.size w w' := by
  have HA : Hid (Seen w ao az.length az ∧ az.length ≤ ac ∧ az.length ≤ 1048576) := ⟨ha, la, ma⟩
  have HB : Hid (Seen w bo bz.length bz ∧ bz.length ≤ bc ∧ bz.length ≤ 1048576) := ⟨hb, lb, mb⟩
  have HC : Hid (Seen w co cz.length cz ∧ cz.length ≤ cc ∧ cz.length ≤ 1048576) := ⟨hc, lc, mc⟩
  have H0 : Hid (Hsh w w (fun _ => none)) := ⟨Below.refl _ _, hK, hK.lt, fun g m e => by cases e⟩
  have hw : IntKind.u64.wrap ((az.length : Int) + (cz.length : Int)) = (az.length : Int) + (cz.length : Int) := by rw [IntKind.wrap_u64]; omega
  have eq0 : ∀ wx, (Op.equalIn 10000 32 (.agg (u8s (sha [])).toArray) (.agg (u8s (sha [])).toArray)).run Tryd.prog wx = .ok true wx := equal_self 9998 _ (sha_length _)
  have eq1 : ∀ wx, (Op.equalIn 10000 32 (.agg (u8s (sha (az ++ bz))).toArray) (.agg (u8s (sha (az ++ bz))).toArray)).run Tryd.prog wx = .ok true wx := equal_self 9998 _ (sha_length _)
  have eq2 : ∀ wx, (Op.equalIn 10000 32 (.agg (u8s (sha (az ++ cz))).toArray) (.agg (u8s (sha (az ++ cz))).toArray)).run Tryd.prog wx = .ok true wx := equal_self 9998 _ (sha_length _)
  have eq3 : ∀ wx, (Op.equalIn 10000 32 (.agg (u8s (sha bz)).toArray) (.agg (u8s (sha bz)).toArray)).run Tryd.prog wx = .ok true wx := equal_self 9998 _ (sha_length _)
  have eq4 : ∀ wx, (Op.equalIn 10000 32 (.agg (u8s (sha (az ++ bz ++ cz))).toArray) (.agg (u8s (sha (az ++ bz ++ cz))).toArray)).run Tryd.prog wx = .ok true wx := equal_self 9998 _ (sha_length _)
  have eq5 : ∀ wx, (Op.equalIn 10000 32 (.agg (u8s (sha (az ++ (bz ++ cz)))).toArray) (.agg (u8s (sha (az ++ (bz ++ cz)))).toArray)).run Tryd.prog wx = .ok true wx := equal_self 9998 _ (sha_length _)
  clear ha hb hc la lb lc ma mb mc hK
  go_enter Tryd.func3, Tryd.ntmps3
  go_wp2_with fail
  refine (new_holds w).mono ?_
  rintro e w1 ⟨g1, rfl, qg1, hng1, lw1⟩
  have H1 : Hid (Hsh w w1 (put ((fun _ => none)) g1 ([]))) := H0.out.add qg1 hng1 lw1
  have EF1g1 : Hid ((put ((fun _ => none)) g1 ([])) g1 = some ([])) := put_same _ _ _
  clear qg1 hng1 lw1
  go_wp2_with fail
  refine (works_any w1 H1.out.tab).mono ?_
  rintro e w2 ⟨rfl, lw2⟩
  have H2 : Hid (Hsh w w2 (put ((fun _ => none)) g1 ([]))) := H1.out.grow lw2
  have EF2g1 : Hid ((put ((fun _ => none)) g1 ([])) g1 = some ([])) := EF1g1.out
  clear lw2
  go_wp2_with fail
  refine (copyB_any ao az.length ac az w2 (HA.out.1.later H2.out.bel (Nat.le_refl _))).mono ?_
  rintro e w3 ⟨vw3, rfl, ow3, lw3⟩
  obtain ⟨xw3, cw3, rfl, sw3, rw3, _, bw3, _⟩ := own_data HA.out.1.bytes HA.out.1.top ow3
  have Uw3 : Hid (Seen w3 xw3 az.length az ∧ az.length ≤ cw3 ∧ ∀ b o, 0 < az.length → xw3 = some ⟨b, o, none⟩ → w2.heap.size ≤ b) := ⟨sw3, rw3, fun b o _ e => (bw3 b o e).1⟩
  have H3 : Hid (Hsh w w3 (put ((fun _ => none)) g1 ([]))) := H2.out.grow lw3
  have EF3g1 : Hid ((put ((fun _ => none)) g1 ([])) g1 = some ([])) := EF2g1.out
  clear ow3 sw3 rw3 bw3 lw3
  go_wp2_with fail
  refine (write_any g1 ([]) xw3 az.length cw3 az w3 (H3.out.at_ _ _ EF3g1.out).2 Uw3.out.1 Uw3.out.2.1 (fun b o h0 e => by have := Uw3.out.2.2 b o h0 e; have := H2.out.lt EF2g1.out; omega) H3.out.tab (by have := H3.out.old; have := (H3.out.at_ _ _ EF3g1.out).1; omega) (by have := HA.out.2.2; have := HB.out.2.2; have := HC.out.2.2; (try simp only [List.length_append, List.length_nil]); omega)).mono ?_
  rintro e w4 ⟨rfl, hw4, kw4⟩
  rw [List.nil_append] at hw4
  have H4 : Hid (Hsh w w4 (put (put ((fun _ => none)) g1 ([])) g1 (az))) := H3.out.upd (H3.out.at_ _ _ EF3g1.out).1 hw4 kw4
  have EF4g1 : Hid ((put (put ((fun _ => none)) g1 ([])) g1 (az)) g1 = some (az)) := put_same _ _ _
  clear hw4 kw4
  go_wp2_with fail
  refine (copy_any g1 _ _ _ w4 (H4.out.at_ _ _ EF4g1.out).2.hash).mono ?_
  rintro e w5 ⟨g2, rfl, qg2, hw5, lw5⟩
  have NEg1g2 : Hid (g1 ≠ g2) := by show _ ≠ _; have := H4.out.lt EF4g1.out; omega
  have NEg2g1 : Hid (g2 ≠ g1) := fun e => NEg1g2.out e.symm
  have H5 : Hid (Hsh w w5 (put (put (put ((fun _ => none)) g1 ([])) g1 (az)) g2 (az))) := H4.out.add qg2 (Holds.mk hw5) lw5
  have EF5g1 : Hid ((put (put (put ((fun _ => none)) g1 ([])) g1 (az)) g2 (az)) g1 = some (az)) := by show _ = _; rw [put_other _ _ _ _ (NEg1g2.out)]; exact EF4g1.out
  have EF5g2 : Hid ((put (put (put ((fun _ => none)) g1 ([])) g1 (az)) g2 (az)) g2 = some (az)) := put_same _ _ _
  clear qg2 hw5 lw5
  go_wp2_with fail
  refine (copyB_any bo bz.length bc bz w5 (HB.out.1.later H5.out.bel (Nat.le_refl _))).mono ?_
  rintro e w6 ⟨vw6, rfl, ow6, lw6⟩
  obtain ⟨xw6, cw6, rfl, sw6, rw6, _, bw6, _⟩ := own_data HB.out.1.bytes HB.out.1.top ow6
  have Uw6 : Hid (Seen w6 xw6 bz.length bz ∧ bz.length ≤ cw6 ∧ ∀ b o, 0 < bz.length → xw6 = some ⟨b, o, none⟩ → w5.heap.size ≤ b) := ⟨sw6, rw6, fun b o _ e => (bw6 b o e).1⟩
  have H6 : Hid (Hsh w w6 (put (put (put ((fun _ => none)) g1 ([])) g1 (az)) g2 (az))) := H5.out.grow lw6
  have EF6g1 : Hid ((put (put (put ((fun _ => none)) g1 ([])) g1 (az)) g2 (az)) g1 = some (az)) := EF5g1.out
  have EF6g2 : Hid ((put (put (put ((fun _ => none)) g1 ([])) g1 (az)) g2 (az)) g2 = some (az)) := EF5g2.out
  clear ow6 sw6 rw6 bw6 lw6
  go_wp2_with fail
  refine (write_any g1 (az) xw6 bz.length cw6 bz w6 (H6.out.at_ _ _ EF6g1.out).2 Uw6.out.1 Uw6.out.2.1 (fun b o h0 e => by have := Uw6.out.2.2 b o h0 e; have := H5.out.lt EF5g1.out; omega) H6.out.tab (by have := H6.out.old; have := (H6.out.at_ _ _ EF6g1.out).1; omega) (by have := HA.out.2.2; have := HB.out.2.2; have := HC.out.2.2; (try simp only [List.length_append, List.length_nil]); omega)).mono ?_
  rintro e w7 ⟨rfl, hw7, kw7⟩
  have H7 : Hid (Hsh w w7 (put (put (put (put ((fun _ => none)) g1 ([])) g1 (az)) g2 (az)) g1 (az ++ bz))) := H6.out.upd (H6.out.at_ _ _ EF6g1.out).1 hw7 kw7
  have EF7g1 : Hid ((put (put (put (put ((fun _ => none)) g1 ([])) g1 (az)) g2 (az)) g1 (az ++ bz)) g1 = some (az ++ bz)) := put_same _ _ _
  have EF7g2 : Hid ((put (put (put (put ((fun _ => none)) g1 ([])) g1 (az)) g2 (az)) g1 (az ++ bz)) g2 = some (az)) := by show _ = _; rw [put_other _ _ _ _ (NEg2g1.out)]; exact EF6g2.out
  clear hw7 kw7
  go_wp2_with fail
  refine (copyB_any co cz.length cc cz w7 (HC.out.1.later H7.out.bel (Nat.le_refl _))).mono ?_
  rintro e w8 ⟨vw8, rfl, ow8, lw8⟩
  obtain ⟨xw8, cw8, rfl, sw8, rw8, _, bw8, _⟩ := own_data HC.out.1.bytes HC.out.1.top ow8
  have Uw8 : Hid (Seen w8 xw8 cz.length cz ∧ cz.length ≤ cw8 ∧ ∀ b o, 0 < cz.length → xw8 = some ⟨b, o, none⟩ → w7.heap.size ≤ b) := ⟨sw8, rw8, fun b o _ e => (bw8 b o e).1⟩
  have H8 : Hid (Hsh w w8 (put (put (put (put ((fun _ => none)) g1 ([])) g1 (az)) g2 (az)) g1 (az ++ bz))) := H7.out.grow lw8
  have EF8g1 : Hid ((put (put (put (put ((fun _ => none)) g1 ([])) g1 (az)) g2 (az)) g1 (az ++ bz)) g1 = some (az ++ bz)) := EF7g1.out
  have EF8g2 : Hid ((put (put (put (put ((fun _ => none)) g1 ([])) g1 (az)) g2 (az)) g1 (az ++ bz)) g2 = some (az)) := EF7g2.out
  clear ow8 sw8 rw8 bw8 lw8
  go_wp2_with fail
  refine (write_any g2 (az) xw8 cz.length cw8 cz w8 (H8.out.at_ _ _ EF8g2.out).2 Uw8.out.1 Uw8.out.2.1 (fun b o h0 e => by have := Uw8.out.2.2 b o h0 e; have := H7.out.lt EF7g2.out; omega) H8.out.tab (by have := H8.out.old; have := (H8.out.at_ _ _ EF8g2.out).1; omega) (by have := HA.out.2.2; have := HB.out.2.2; have := HC.out.2.2; (try simp only [List.length_append, List.length_nil]); omega)).mono ?_
  rintro e w9 ⟨rfl, hw9, kw9⟩
  have H9 : Hid (Hsh w w9 (put (put (put (put (put ((fun _ => none)) g1 ([])) g1 (az)) g2 (az)) g1 (az ++ bz)) g2 (az ++ cz))) := H8.out.upd (H8.out.at_ _ _ EF8g2.out).1 hw9 kw9
  have EF9g1 : Hid ((put (put (put (put (put ((fun _ => none)) g1 ([])) g1 (az)) g2 (az)) g1 (az ++ bz)) g2 (az ++ cz)) g1 = some (az ++ bz)) := by show _ = _; rw [put_other _ _ _ _ (NEg1g2.out)]; exact EF8g1.out
  have EF9g2 : Hid ((put (put (put (put (put ((fun _ => none)) g1 ([])) g1 (az)) g2 (az)) g1 (az ++ bz)) g2 (az ++ cz)) g2 = some (az ++ cz)) := put_same _ _ _
  clear hw9 kw9
  go_wp2_with fail
  refine (copy_any g2 _ _ _ w9 (H9.out.at_ _ _ EF9g2.out).2.hash).mono ?_
  rintro e w10 ⟨g3, rfl, qg3, hw10, lw10⟩
  have NEg1g3 : Hid (g1 ≠ g3) := by show _ ≠ _; have := H9.out.lt EF9g1.out; omega
  have NEg3g1 : Hid (g3 ≠ g1) := fun e => NEg1g3.out e.symm
  have NEg2g3 : Hid (g2 ≠ g3) := by show _ ≠ _; have := H9.out.lt EF9g2.out; omega
  have NEg3g2 : Hid (g3 ≠ g2) := fun e => NEg2g3.out e.symm
  have H10 : Hid (Hsh w w10 (put (put (put (put (put (put ((fun _ => none)) g1 ([])) g1 (az)) g2 (az)) g1 (az ++ bz)) g2 (az ++ cz)) g3 (az ++ cz))) := H9.out.add qg3 (Holds.mk hw10) lw10
  have EF10g1 : Hid ((put (put (put (put (put (put ((fun _ => none)) g1 ([])) g1 (az)) g2 (az)) g1 (az ++ bz)) g2 (az ++ cz)) g3 (az ++ cz)) g1 = some (az ++ bz)) := by show _ = _; rw [put_other _ _ _ _ (NEg1g3.out)]; exact EF9g1.out
  have EF10g2 : Hid ((put (put (put (put (put (put ((fun _ => none)) g1 ([])) g1 (az)) g2 (az)) g1 (az ++ bz)) g2 (az ++ cz)) g3 (az ++ cz)) g2 = some (az ++ cz)) := by show _ = _; rw [put_other _ _ _ _ (NEg2g3.out)]; exact EF9g2.out
  have EF10g3 : Hid ((put (put (put (put (put (put ((fun _ => none)) g1 ([])) g1 (az)) g2 (az)) g1 (az ++ bz)) g2 (az ++ cz)) g3 (az ++ cz)) g3 = some (az ++ cz)) := put_same _ _ _
  clear qg3 hw10 lw10
  go_wp2_with fail
  refine (sum_holds g1 (az ++ bz) w10 (H10.out.at_ _ _ EF10g1.out).2 H10.out.tab).mono ?_
  rintro e w11 ⟨rfl, lw11⟩
  have H11 : Hid (Hsh w w11 (put (put (put (put (put (put ((fun _ => none)) g1 ([])) g1 (az)) g2 (az)) g1 (az ++ bz)) g2 (az ++ cz)) g3 (az ++ cz))) := H10.out.grow lw11
  have EF11g1 : Hid ((put (put (put (put (put (put ((fun _ => none)) g1 ([])) g1 (az)) g2 (az)) g1 (az ++ bz)) g2 (az ++ cz)) g3 (az ++ cz)) g1 = some (az ++ bz)) := EF10g1.out
  have EF11g2 : Hid ((put (put (put (put (put (put ((fun _ => none)) g1 ([])) g1 (az)) g2 (az)) g1 (az ++ bz)) g2 (az ++ cz)) g3 (az ++ cz)) g2 = some (az ++ cz)) := EF10g2.out
  have EF11g3 : Hid ((put (put (put (put (put (put ((fun _ => none)) g1 ([])) g1 (az)) g2 (az)) g1 (az ++ bz)) g2 (az ++ cz)) g3 (az ++ cz)) g3 = some (az ++ cz)) := EF10g3.out
  clear lw11
  go_wp2_with fail
  refine (two_any ao bo az.length bz.length ac bc az bz w11 (HA.out.1.later H11.out.bel (Nat.le_refl _)) (HB.out.1.later H11.out.bel (Nat.le_refl _)) HA.out.2.1 HB.out.2.1 (by have := HA.out.2.2; have := HB.out.2.2; omega)).mono ?_
  rintro e w12 ⟨vw12, rfl, ow12, lw12⟩
  obtain ⟨xw12, cw12, rfl, sw12, rw12, _, _, _⟩ := own_data (bytes_app HA.out.1.bytes HB.out.1.bytes) (by have := HA.out.2.2; have := HB.out.2.2; rw [List.length_append]; omega) ow12
  have Uw12 : Hid (Seen w12 xw12 (az ++ bz).length (az ++ bz) ∧ (az ++ bz).length ≤ cw12) := ⟨sw12, rw12⟩
  have H12 : Hid (Hsh w w12 (put (put (put (put (put (put ((fun _ => none)) g1 ([])) g1 (az)) g2 (az)) g1 (az ++ bz)) g2 (az ++ cz)) g3 (az ++ cz))) := H11.out.grow lw12
  have EF12g1 : Hid ((put (put (put (put (put (put ((fun _ => none)) g1 ([])) g1 (az)) g2 (az)) g1 (az ++ bz)) g2 (az ++ cz)) g3 (az ++ cz)) g1 = some (az ++ bz)) := EF11g1.out
  have EF12g2 : Hid ((put (put (put (put (put (put ((fun _ => none)) g1 ([])) g1 (az)) g2 (az)) g1 (az ++ bz)) g2 (az ++ cz)) g3 (az ++ cz)) g2 = some (az ++ cz)) := EF11g2.out
  have EF12g3 : Hid ((put (put (put (put (put (put ((fun _ => none)) g1 ([])) g1 (az)) g2 (az)) g1 (az ++ bz)) g2 (az ++ cz)) g3 (az ++ cz)) g3 = some (az ++ cz)) := EF11g3.out
  clear ow12 sw12 rw12 lw12
  obtain ⟨nw12, Nw12⟩ : ∃ k, (az ++ bz).length = k := ⟨_, rfl⟩
  rw [Nw12] at Uw12 ⊢
  have Mw12 : Hid ((az ++ bz).length = nw12) := Nw12
  clear Nw12
  go_wp2_with fail
  refine (dsum_any _ 1 1 [az ++ bz] _ (seenP1 w12 xw12 nw12 cw12 (az ++ bz) Uw12.out.1 Uw12.out.2) (by decide) (by rw [show ([az ++ bz] : List (List Int)).flatten = az ++ bz from List.append_nil _]; have := HA.out.2.2; have := HB.out.2.2; have := HC.out.2.2; (try simp only [List.length_append]); omega) (H12.out.grow ((Below.refl _ _).alloc (Nat.le_refl _) (.cells #[.slice xw12 (nw12) cw12] 22))).tab).mono ?_
  rintro e w13 ⟨rfl, lw13⟩
  rw [show ([az ++ bz] : List (List Int)).flatten = az ++ bz from List.append_nil _]
  have H13 : Hid (Hsh w w13 (put (put (put (put (put (put ((fun _ => none)) g1 ([])) g1 (az)) g2 (az)) g1 (az ++ bz)) g2 (az ++ cz)) g3 (az ++ cz))) := H12.out.grow (below_chain ((Below.refl _ _).alloc (Nat.le_refl _) (.cells #[.slice xw12 (nw12) cw12] 22)) lw13 (by simp))
  have EF13g1 : Hid ((put (put (put (put (put (put ((fun _ => none)) g1 ([])) g1 (az)) g2 (az)) g1 (az ++ bz)) g2 (az ++ cz)) g3 (az ++ cz)) g1 = some (az ++ bz)) := EF12g1.out
  have EF13g2 : Hid ((put (put (put (put (put (put ((fun _ => none)) g1 ([])) g1 (az)) g2 (az)) g1 (az ++ bz)) g2 (az ++ cz)) g3 (az ++ cz)) g2 = some (az ++ cz)) := EF12g2.out
  have EF13g3 : Hid ((put (put (put (put (put (put ((fun _ => none)) g1 ([])) g1 (az)) g2 (az)) g1 (az ++ bz)) g2 (az ++ cz)) g3 (az ++ cz)) g3 = some (az ++ cz)) := EF12g3.out
  clear lw13
  go_wp2_with fail
  refine (sum_holds g2 (az ++ cz) w13 (H13.out.at_ _ _ EF13g2.out).2 H13.out.tab).mono ?_
  rintro e w14 ⟨rfl, lw14⟩
  have H14 : Hid (Hsh w w14 (put (put (put (put (put (put ((fun _ => none)) g1 ([])) g1 (az)) g2 (az)) g1 (az ++ bz)) g2 (az ++ cz)) g3 (az ++ cz))) := H13.out.grow lw14
  have EF14g1 : Hid ((put (put (put (put (put (put ((fun _ => none)) g1 ([])) g1 (az)) g2 (az)) g1 (az ++ bz)) g2 (az ++ cz)) g3 (az ++ cz)) g1 = some (az ++ bz)) := EF13g1.out
  have EF14g2 : Hid ((put (put (put (put (put (put ((fun _ => none)) g1 ([])) g1 (az)) g2 (az)) g1 (az ++ bz)) g2 (az ++ cz)) g3 (az ++ cz)) g2 = some (az ++ cz)) := EF13g2.out
  have EF14g3 : Hid ((put (put (put (put (put (put ((fun _ => none)) g1 ([])) g1 (az)) g2 (az)) g1 (az ++ bz)) g2 (az ++ cz)) g3 (az ++ cz)) g3 = some (az ++ cz)) := EF13g3.out
  clear lw14
  go_wp2_with fail
  refine (two_any ao co az.length cz.length ac cc az cz w14 (HA.out.1.later H14.out.bel (Nat.le_refl _)) (HC.out.1.later H14.out.bel (Nat.le_refl _)) HA.out.2.1 HC.out.2.1 (by have := HA.out.2.2; have := HC.out.2.2; omega)).mono ?_
  rintro e w15 ⟨vw15, rfl, ow15, lw15⟩
  obtain ⟨xw15, cw15, rfl, sw15, rw15, _, _, _⟩ := own_data (bytes_app HA.out.1.bytes HC.out.1.bytes) (by have := HA.out.2.2; have := HC.out.2.2; rw [List.length_append]; omega) ow15
  have Uw15 : Hid (Seen w15 xw15 (az ++ cz).length (az ++ cz) ∧ (az ++ cz).length ≤ cw15) := ⟨sw15, rw15⟩
  have H15 : Hid (Hsh w w15 (put (put (put (put (put (put ((fun _ => none)) g1 ([])) g1 (az)) g2 (az)) g1 (az ++ bz)) g2 (az ++ cz)) g3 (az ++ cz))) := H14.out.grow lw15
  have EF15g1 : Hid ((put (put (put (put (put (put ((fun _ => none)) g1 ([])) g1 (az)) g2 (az)) g1 (az ++ bz)) g2 (az ++ cz)) g3 (az ++ cz)) g1 = some (az ++ bz)) := EF14g1.out
  have EF15g2 : Hid ((put (put (put (put (put (put ((fun _ => none)) g1 ([])) g1 (az)) g2 (az)) g1 (az ++ bz)) g2 (az ++ cz)) g3 (az ++ cz)) g2 = some (az ++ cz)) := EF14g2.out
  have EF15g3 : Hid ((put (put (put (put (put (put ((fun _ => none)) g1 ([])) g1 (az)) g2 (az)) g1 (az ++ bz)) g2 (az ++ cz)) g3 (az ++ cz)) g3 = some (az ++ cz)) := EF14g3.out
  clear ow15 sw15 rw15 lw15
  obtain ⟨nw15, Nw15⟩ : ∃ k, (az ++ cz).length = k := ⟨_, rfl⟩
  rw [Nw15] at Uw15 ⊢
  have Mw15 : Hid ((az ++ cz).length = nw15) := Nw15
  clear Nw15
  go_wp2_with fail
  refine (dsum_any _ 1 1 [az ++ cz] _ (seenP1 w15 xw15 nw15 cw15 (az ++ cz) Uw15.out.1 Uw15.out.2) (by decide) (by rw [show ([az ++ cz] : List (List Int)).flatten = az ++ cz from List.append_nil _]; have := HA.out.2.2; have := HB.out.2.2; have := HC.out.2.2; (try simp only [List.length_append]); omega) (H15.out.grow ((Below.refl _ _).alloc (Nat.le_refl _) (.cells #[.slice xw15 (nw15) cw15] 22))).tab).mono ?_
  rintro e w16 ⟨rfl, lw16⟩
  rw [show ([az ++ cz] : List (List Int)).flatten = az ++ cz from List.append_nil _]
  have H16 : Hid (Hsh w w16 (put (put (put (put (put (put ((fun _ => none)) g1 ([])) g1 (az)) g2 (az)) g1 (az ++ bz)) g2 (az ++ cz)) g3 (az ++ cz))) := H15.out.grow (below_chain ((Below.refl _ _).alloc (Nat.le_refl _) (.cells #[.slice xw15 (nw15) cw15] 22)) lw16 (by simp))
  have EF16g1 : Hid ((put (put (put (put (put (put ((fun _ => none)) g1 ([])) g1 (az)) g2 (az)) g1 (az ++ bz)) g2 (az ++ cz)) g3 (az ++ cz)) g1 = some (az ++ bz)) := EF15g1.out
  have EF16g2 : Hid ((put (put (put (put (put (put ((fun _ => none)) g1 ([])) g1 (az)) g2 (az)) g1 (az ++ bz)) g2 (az ++ cz)) g3 (az ++ cz)) g2 = some (az ++ cz)) := EF15g2.out
  have EF16g3 : Hid ((put (put (put (put (put (put ((fun _ => none)) g1 ([])) g1 (az)) g2 (az)) g1 (az ++ bz)) g2 (az ++ cz)) g3 (az ++ cz)) g3 = some (az ++ cz)) := EF15g3.out
  clear lw16
  go_wp2_with fail
  refine (reset_any g2 _ _ _ w16 (H16.out.at_ _ _ EF16g2.out).2.hash).mono ?_
  rintro e w17 ⟨rfl, hw17, kw17⟩
  have H17 : Hid (Hsh w w17 (put (put (put (put (put (put (put ((fun _ => none)) g1 ([])) g1 (az)) g2 (az)) g1 (az ++ bz)) g2 (az ++ cz)) g3 (az ++ cz)) g2 ([]))) := H16.out.upd (H16.out.at_ _ _ EF16g2.out).1 (holds_new hw17) kw17
  have EF17g1 : Hid ((put (put (put (put (put (put (put ((fun _ => none)) g1 ([])) g1 (az)) g2 (az)) g1 (az ++ bz)) g2 (az ++ cz)) g3 (az ++ cz)) g2 ([])) g1 = some (az ++ bz)) := by show _ = _; rw [put_other _ _ _ _ (NEg1g2.out)]; exact EF16g1.out
  have EF17g2 : Hid ((put (put (put (put (put (put (put ((fun _ => none)) g1 ([])) g1 (az)) g2 (az)) g1 (az ++ bz)) g2 (az ++ cz)) g3 (az ++ cz)) g2 ([])) g2 = some ([])) := put_same _ _ _
  have EF17g3 : Hid ((put (put (put (put (put (put (put ((fun _ => none)) g1 ([])) g1 (az)) g2 (az)) g1 (az ++ bz)) g2 (az ++ cz)) g3 (az ++ cz)) g2 ([])) g3 = some (az ++ cz)) := by show _ = _; rw [put_other _ _ _ _ (NEg3g2.out)]; exact EF16g3.out
  clear hw17 kw17
  go_wp2_with fail
  refine (copyB_any co cz.length cc cz w17 (HC.out.1.later H17.out.bel (Nat.le_refl _))).mono ?_
  rintro e w18 ⟨vw18, rfl, ow18, lw18⟩
  obtain ⟨xw18, cw18, rfl, sw18, rw18, _, bw18, _⟩ := own_data HC.out.1.bytes HC.out.1.top ow18
  have Uw18 : Hid (Seen w18 xw18 cz.length cz ∧ cz.length ≤ cw18 ∧ ∀ b o, 0 < cz.length → xw18 = some ⟨b, o, none⟩ → w17.heap.size ≤ b) := ⟨sw18, rw18, fun b o _ e => (bw18 b o e).1⟩
  have H18 : Hid (Hsh w w18 (put (put (put (put (put (put (put ((fun _ => none)) g1 ([])) g1 (az)) g2 (az)) g1 (az ++ bz)) g2 (az ++ cz)) g3 (az ++ cz)) g2 ([]))) := H17.out.grow lw18
  have EF18g1 : Hid ((put (put (put (put (put (put (put ((fun _ => none)) g1 ([])) g1 (az)) g2 (az)) g1 (az ++ bz)) g2 (az ++ cz)) g3 (az ++ cz)) g2 ([])) g1 = some (az ++ bz)) := EF17g1.out
  have EF18g2 : Hid ((put (put (put (put (put (put (put ((fun _ => none)) g1 ([])) g1 (az)) g2 (az)) g1 (az ++ bz)) g2 (az ++ cz)) g3 (az ++ cz)) g2 ([])) g2 = some ([])) := EF17g2.out
  have EF18g3 : Hid ((put (put (put (put (put (put (put ((fun _ => none)) g1 ([])) g1 (az)) g2 (az)) g1 (az ++ bz)) g2 (az ++ cz)) g3 (az ++ cz)) g2 ([])) g3 = some (az ++ cz)) := EF17g3.out
  clear ow18 sw18 rw18 bw18 lw18
  go_wp2_with fail
  refine (write_any g1 (az ++ bz) xw18 cz.length cw18 cz w18 (H18.out.at_ _ _ EF18g1.out).2 Uw18.out.1 Uw18.out.2.1 (fun b o h0 e => by have := Uw18.out.2.2 b o h0 e; have := H17.out.lt EF17g1.out; omega) H18.out.tab (by have := H18.out.old; have := (H18.out.at_ _ _ EF18g1.out).1; omega) (by have := HA.out.2.2; have := HB.out.2.2; have := HC.out.2.2; (try simp only [List.length_append, List.length_nil]); omega)).mono ?_
  rintro e w19 ⟨rfl, hw19, kw19⟩
  have H19 : Hid (Hsh w w19 (put (put (put (put (put (put (put (put ((fun _ => none)) g1 ([])) g1 (az)) g2 (az)) g1 (az ++ bz)) g2 (az ++ cz)) g3 (az ++ cz)) g2 ([])) g1 (az ++ bz ++ cz))) := H18.out.upd (H18.out.at_ _ _ EF18g1.out).1 hw19 kw19
  have EF19g1 : Hid ((put (put (put (put (put (put (put (put ((fun _ => none)) g1 ([])) g1 (az)) g2 (az)) g1 (az ++ bz)) g2 (az ++ cz)) g3 (az ++ cz)) g2 ([])) g1 (az ++ bz ++ cz)) g1 = some (az ++ bz ++ cz)) := put_same _ _ _
  have EF19g2 : Hid ((put (put (put (put (put (put (put (put ((fun _ => none)) g1 ([])) g1 (az)) g2 (az)) g1 (az ++ bz)) g2 (az ++ cz)) g3 (az ++ cz)) g2 ([])) g1 (az ++ bz ++ cz)) g2 = some ([])) := by show _ = _; rw [put_other _ _ _ _ (NEg2g1.out)]; exact EF18g2.out
  have EF19g3 : Hid ((put (put (put (put (put (put (put (put ((fun _ => none)) g1 ([])) g1 (az)) g2 (az)) g1 (az ++ bz)) g2 (az ++ cz)) g3 (az ++ cz)) g2 ([])) g1 (az ++ bz ++ cz)) g3 = some (az ++ cz)) := by show _ = _; rw [put_other _ _ _ _ (NEg3g1.out)]; exact EF18g3.out
  clear hw19 kw19
  go_wp2_with fail
  refine (sum_holds g2 ([]) w19 (H19.out.at_ _ _ EF19g2.out).2 H19.out.tab).mono ?_
  rintro e w20 ⟨rfl, lw20⟩
  have H20 : Hid (Hsh w w20 (put (put (put (put (put (put (put (put ((fun _ => none)) g1 ([])) g1 (az)) g2 (az)) g1 (az ++ bz)) g2 (az ++ cz)) g3 (az ++ cz)) g2 ([])) g1 (az ++ bz ++ cz))) := H19.out.grow lw20
  have EF20g1 : Hid ((put (put (put (put (put (put (put (put ((fun _ => none)) g1 ([])) g1 (az)) g2 (az)) g1 (az ++ bz)) g2 (az ++ cz)) g3 (az ++ cz)) g2 ([])) g1 (az ++ bz ++ cz)) g1 = some (az ++ bz ++ cz)) := EF19g1.out
  have EF20g2 : Hid ((put (put (put (put (put (put (put (put ((fun _ => none)) g1 ([])) g1 (az)) g2 (az)) g1 (az ++ bz)) g2 (az ++ cz)) g3 (az ++ cz)) g2 ([])) g1 (az ++ bz ++ cz)) g2 = some ([])) := EF19g2.out
  have EF20g3 : Hid ((put (put (put (put (put (put (put (put ((fun _ => none)) g1 ([])) g1 (az)) g2 (az)) g1 (az ++ bz)) g2 (az ++ cz)) g3 (az ++ cz)) g2 ([])) g1 (az ++ bz ++ cz)) g3 = some (az ++ cz)) := EF19g3.out
  clear lw20
  go_wp2_with fail
  refine (dsum_any none 0 0 [] w20 (none_seenP _ 0) (by decide) (by decide) H20.out.tab).mono ?_
  rintro e w21 ⟨rfl, lw21⟩
  rw [show ([] : List (List Int)).flatten = [] from rfl]
  have H21 : Hid (Hsh w w21 (put (put (put (put (put (put (put (put ((fun _ => none)) g1 ([])) g1 (az)) g2 (az)) g1 (az ++ bz)) g2 (az ++ cz)) g3 (az ++ cz)) g2 ([])) g1 (az ++ bz ++ cz))) := H20.out.grow lw21
  have EF21g1 : Hid ((put (put (put (put (put (put (put (put ((fun _ => none)) g1 ([])) g1 (az)) g2 (az)) g1 (az ++ bz)) g2 (az ++ cz)) g3 (az ++ cz)) g2 ([])) g1 (az ++ bz ++ cz)) g1 = some (az ++ bz ++ cz)) := EF20g1.out
  have EF21g2 : Hid ((put (put (put (put (put (put (put (put ((fun _ => none)) g1 ([])) g1 (az)) g2 (az)) g1 (az ++ bz)) g2 (az ++ cz)) g3 (az ++ cz)) g2 ([])) g1 (az ++ bz ++ cz)) g2 = some ([])) := EF20g2.out
  have EF21g3 : Hid ((put (put (put (put (put (put (put (put ((fun _ => none)) g1 ([])) g1 (az)) g2 (az)) g1 (az ++ bz)) g2 (az ++ cz)) g3 (az ++ cz)) g2 ([])) g1 (az ++ bz ++ cz)) g3 = some (az ++ cz)) := EF20g3.out
  clear lw21
  go_wp2_with fail
  refine (len_holds g2 ([]) w21 (H21.out.at_ _ _ EF21g2.out).2).mono ?_
  rintro e w22 ⟨rfl, rfl⟩
  go_wp2_with fail
  refine (len_holds g3 (az ++ cz) w21 (H21.out.at_ _ _ EF21g3.out).2).mono ?_
  rintro e w23 ⟨rfl, rfl⟩
  rw [len2]
  have b1 := HA.out.2.2
  have b3 := HC.out.2.2
  go_wp2_with fail
  refine (copyB_any bo bz.length bc bz w21 (HB.out.1.later H21.out.bel (Nat.le_refl _))).mono ?_
  rintro e w24 ⟨vw24, rfl, ow24, lw24⟩
  obtain ⟨xw24, cw24, rfl, sw24, rw24, _, bw24, _⟩ := own_data HB.out.1.bytes HB.out.1.top ow24
  have Uw24 : Hid (Seen w24 xw24 bz.length bz ∧ bz.length ≤ cw24 ∧ ∀ b o, 0 < bz.length → xw24 = some ⟨b, o, none⟩ → w21.heap.size ≤ b) := ⟨sw24, rw24, fun b o _ e => (bw24 b o e).1⟩
  have H22 : Hid (Hsh w w24 (put (put (put (put (put (put (put (put ((fun _ => none)) g1 ([])) g1 (az)) g2 (az)) g1 (az ++ bz)) g2 (az ++ cz)) g3 (az ++ cz)) g2 ([])) g1 (az ++ bz ++ cz))) := H21.out.grow lw24
  have EF22g1 : Hid ((put (put (put (put (put (put (put (put ((fun _ => none)) g1 ([])) g1 (az)) g2 (az)) g1 (az ++ bz)) g2 (az ++ cz)) g3 (az ++ cz)) g2 ([])) g1 (az ++ bz ++ cz)) g1 = some (az ++ bz ++ cz)) := EF21g1.out
  have EF22g2 : Hid ((put (put (put (put (put (put (put (put ((fun _ => none)) g1 ([])) g1 (az)) g2 (az)) g1 (az ++ bz)) g2 (az ++ cz)) g3 (az ++ cz)) g2 ([])) g1 (az ++ bz ++ cz)) g2 = some ([])) := EF21g2.out
  have EF22g3 : Hid ((put (put (put (put (put (put (put (put ((fun _ => none)) g1 ([])) g1 (az)) g2 (az)) g1 (az ++ bz)) g2 (az ++ cz)) g3 (az ++ cz)) g2 ([])) g1 (az ++ bz ++ cz)) g3 = some (az ++ cz)) := EF21g3.out
  clear ow24 sw24 rw24 bw24 lw24
  go_wp2_with fail
  refine (write_any g2 ([]) xw24 bz.length cw24 bz w24 (H22.out.at_ _ _ EF22g2.out).2 Uw24.out.1 Uw24.out.2.1 (fun b o h0 e => by have := Uw24.out.2.2 b o h0 e; have := H21.out.lt EF21g2.out; omega) H22.out.tab (by have := H22.out.old; have := (H22.out.at_ _ _ EF22g2.out).1; omega) (by have := HA.out.2.2; have := HB.out.2.2; have := HC.out.2.2; (try simp only [List.length_append, List.length_nil]); omega)).mono ?_
  rintro e w25 ⟨rfl, hw25, kw25⟩
  rw [List.nil_append] at hw25
  have H23 : Hid (Hsh w w25 (put (put (put (put (put (put (put (put (put ((fun _ => none)) g1 ([])) g1 (az)) g2 (az)) g1 (az ++ bz)) g2 (az ++ cz)) g3 (az ++ cz)) g2 ([])) g1 (az ++ bz ++ cz)) g2 (bz))) := H22.out.upd (H22.out.at_ _ _ EF22g2.out).1 hw25 kw25
  have EF23g1 : Hid ((put (put (put (put (put (put (put (put (put ((fun _ => none)) g1 ([])) g1 (az)) g2 (az)) g1 (az ++ bz)) g2 (az ++ cz)) g3 (az ++ cz)) g2 ([])) g1 (az ++ bz ++ cz)) g2 (bz)) g1 = some (az ++ bz ++ cz)) := by show _ = _; rw [put_other _ _ _ _ (NEg1g2.out)]; exact EF22g1.out
  have EF23g2 : Hid ((put (put (put (put (put (put (put (put (put ((fun _ => none)) g1 ([])) g1 (az)) g2 (az)) g1 (az ++ bz)) g2 (az ++ cz)) g3 (az ++ cz)) g2 ([])) g1 (az ++ bz ++ cz)) g2 (bz)) g2 = some (bz)) := put_same _ _ _
  have EF23g3 : Hid ((put (put (put (put (put (put (put (put (put ((fun _ => none)) g1 ([])) g1 (az)) g2 (az)) g1 (az ++ bz)) g2 (az ++ cz)) g3 (az ++ cz)) g2 ([])) g1 (az ++ bz ++ cz)) g2 (bz)) g3 = some (az ++ cz)) := by show _ = _; rw [put_other _ _ _ _ (NEg3g2.out)]; exact EF22g3.out
  clear hw25 kw25
  go_wp2_with fail
  refine (sum_holds g3 (az ++ cz) w25 (H23.out.at_ _ _ EF23g3.out).2 H23.out.tab).mono ?_
  rintro e w26 ⟨rfl, lw26⟩
  have H24 : Hid (Hsh w w26 (put (put (put (put (put (put (put (put (put ((fun _ => none)) g1 ([])) g1 (az)) g2 (az)) g1 (az ++ bz)) g2 (az ++ cz)) g3 (az ++ cz)) g2 ([])) g1 (az ++ bz ++ cz)) g2 (bz))) := H23.out.grow lw26
  have EF24g1 : Hid ((put (put (put (put (put (put (put (put (put ((fun _ => none)) g1 ([])) g1 (az)) g2 (az)) g1 (az ++ bz)) g2 (az ++ cz)) g3 (az ++ cz)) g2 ([])) g1 (az ++ bz ++ cz)) g2 (bz)) g1 = some (az ++ bz ++ cz)) := EF23g1.out
  have EF24g2 : Hid ((put (put (put (put (put (put (put (put (put ((fun _ => none)) g1 ([])) g1 (az)) g2 (az)) g1 (az ++ bz)) g2 (az ++ cz)) g3 (az ++ cz)) g2 ([])) g1 (az ++ bz ++ cz)) g2 (bz)) g2 = some (bz)) := EF23g2.out
  have EF24g3 : Hid ((put (put (put (put (put (put (put (put (put ((fun _ => none)) g1 ([])) g1 (az)) g2 (az)) g1 (az ++ bz)) g2 (az ++ cz)) g3 (az ++ cz)) g2 ([])) g1 (az ++ bz ++ cz)) g2 (bz)) g3 = some (az ++ cz)) := EF23g3.out
  clear lw26
  go_wp2_with fail
  refine (two_any ao co az.length cz.length ac cc az cz w26 (HA.out.1.later H24.out.bel (Nat.le_refl _)) (HC.out.1.later H24.out.bel (Nat.le_refl _)) HA.out.2.1 HC.out.2.1 (by have := HA.out.2.2; have := HC.out.2.2; omega)).mono ?_
  rintro e w27 ⟨vw27, rfl, ow27, lw27⟩
  obtain ⟨xw27, cw27, rfl, sw27, rw27, _, _, _⟩ := own_data (bytes_app HA.out.1.bytes HC.out.1.bytes) (by have := HA.out.2.2; have := HC.out.2.2; rw [List.length_append]; omega) ow27
  have Uw27 : Hid (Seen w27 xw27 (az ++ cz).length (az ++ cz) ∧ (az ++ cz).length ≤ cw27) := ⟨sw27, rw27⟩
  have H25 : Hid (Hsh w w27 (put (put (put (put (put (put (put (put (put ((fun _ => none)) g1 ([])) g1 (az)) g2 (az)) g1 (az ++ bz)) g2 (az ++ cz)) g3 (az ++ cz)) g2 ([])) g1 (az ++ bz ++ cz)) g2 (bz))) := H24.out.grow lw27
  have EF25g1 : Hid ((put (put (put (put (put (put (put (put (put ((fun _ => none)) g1 ([])) g1 (az)) g2 (az)) g1 (az ++ bz)) g2 (az ++ cz)) g3 (az ++ cz)) g2 ([])) g1 (az ++ bz ++ cz)) g2 (bz)) g1 = some (az ++ bz ++ cz)) := EF24g1.out
  have EF25g2 : Hid ((put (put (put (put (put (put (put (put (put ((fun _ => none)) g1 ([])) g1 (az)) g2 (az)) g1 (az ++ bz)) g2 (az ++ cz)) g3 (az ++ cz)) g2 ([])) g1 (az ++ bz ++ cz)) g2 (bz)) g2 = some (bz)) := EF24g2.out
  have EF25g3 : Hid ((put (put (put (put (put (put (put (put (put ((fun _ => none)) g1 ([])) g1 (az)) g2 (az)) g1 (az ++ bz)) g2 (az ++ cz)) g3 (az ++ cz)) g2 ([])) g1 (az ++ bz ++ cz)) g2 (bz)) g3 = some (az ++ cz)) := EF24g3.out
  clear ow27 sw27 rw27 lw27
  obtain ⟨nw27, Nw27⟩ : ∃ k, (az ++ cz).length = k := ⟨_, rfl⟩
  rw [Nw27] at Uw27 ⊢
  have Mw27 : Hid ((az ++ cz).length = nw27) := Nw27
  clear Nw27
  go_wp2_with fail
  refine (dsum_any _ 1 1 [az ++ cz] _ (seenP1 w27 xw27 nw27 cw27 (az ++ cz) Uw27.out.1 Uw27.out.2) (by decide) (by rw [show ([az ++ cz] : List (List Int)).flatten = az ++ cz from List.append_nil _]; have := HA.out.2.2; have := HB.out.2.2; have := HC.out.2.2; (try simp only [List.length_append]); omega) (H25.out.grow ((Below.refl _ _).alloc (Nat.le_refl _) (.cells #[.slice xw27 (nw27) cw27] 22))).tab).mono ?_
  rintro e w28 ⟨rfl, lw28⟩
  rw [show ([az ++ cz] : List (List Int)).flatten = az ++ cz from List.append_nil _]
  have H26 : Hid (Hsh w w28 (put (put (put (put (put (put (put (put (put ((fun _ => none)) g1 ([])) g1 (az)) g2 (az)) g1 (az ++ bz)) g2 (az ++ cz)) g3 (az ++ cz)) g2 ([])) g1 (az ++ bz ++ cz)) g2 (bz))) := H25.out.grow (below_chain ((Below.refl _ _).alloc (Nat.le_refl _) (.cells #[.slice xw27 (nw27) cw27] 22)) lw28 (by simp))
  have EF26g1 : Hid ((put (put (put (put (put (put (put (put (put ((fun _ => none)) g1 ([])) g1 (az)) g2 (az)) g1 (az ++ bz)) g2 (az ++ cz)) g3 (az ++ cz)) g2 ([])) g1 (az ++ bz ++ cz)) g2 (bz)) g1 = some (az ++ bz ++ cz)) := EF25g1.out
  have EF26g2 : Hid ((put (put (put (put (put (put (put (put (put ((fun _ => none)) g1 ([])) g1 (az)) g2 (az)) g1 (az ++ bz)) g2 (az ++ cz)) g3 (az ++ cz)) g2 ([])) g1 (az ++ bz ++ cz)) g2 (bz)) g2 = some (bz)) := EF25g2.out
  have EF26g3 : Hid ((put (put (put (put (put (put (put (put (put ((fun _ => none)) g1 ([])) g1 (az)) g2 (az)) g1 (az ++ bz)) g2 (az ++ cz)) g3 (az ++ cz)) g2 ([])) g1 (az ++ bz ++ cz)) g2 (bz)) g3 = some (az ++ cz)) := EF25g3.out
  clear lw28
  go_wp2_with fail
  refine (sum_holds g2 (bz) w28 (H26.out.at_ _ _ EF26g2.out).2 H26.out.tab).mono ?_
  rintro e w29 ⟨rfl, lw29⟩
  have H27 : Hid (Hsh w w29 (put (put (put (put (put (put (put (put (put ((fun _ => none)) g1 ([])) g1 (az)) g2 (az)) g1 (az ++ bz)) g2 (az ++ cz)) g3 (az ++ cz)) g2 ([])) g1 (az ++ bz ++ cz)) g2 (bz))) := H26.out.grow lw29
  have EF27g1 : Hid ((put (put (put (put (put (put (put (put (put ((fun _ => none)) g1 ([])) g1 (az)) g2 (az)) g1 (az ++ bz)) g2 (az ++ cz)) g3 (az ++ cz)) g2 ([])) g1 (az ++ bz ++ cz)) g2 (bz)) g1 = some (az ++ bz ++ cz)) := EF26g1.out
  have EF27g2 : Hid ((put (put (put (put (put (put (put (put (put ((fun _ => none)) g1 ([])) g1 (az)) g2 (az)) g1 (az ++ bz)) g2 (az ++ cz)) g3 (az ++ cz)) g2 ([])) g1 (az ++ bz ++ cz)) g2 (bz)) g2 = some (bz)) := EF26g2.out
  have EF27g3 : Hid ((put (put (put (put (put (put (put (put (put ((fun _ => none)) g1 ([])) g1 (az)) g2 (az)) g1 (az ++ bz)) g2 (az ++ cz)) g3 (az ++ cz)) g2 ([])) g1 (az ++ bz ++ cz)) g2 (bz)) g3 = some (az ++ cz)) := EF26g3.out
  clear lw29
  go_wp2_with fail
  refine (copyB_any bo bz.length bc bz w29 (HB.out.1.later H27.out.bel (Nat.le_refl _))).mono ?_
  rintro e w30 ⟨vw30, rfl, ow30, lw30⟩
  obtain ⟨xw30, cw30, rfl, sw30, rw30, _, bw30, _⟩ := own_data HB.out.1.bytes HB.out.1.top ow30
  have Uw30 : Hid (Seen w30 xw30 bz.length bz ∧ bz.length ≤ cw30 ∧ ∀ b o, 0 < bz.length → xw30 = some ⟨b, o, none⟩ → w29.heap.size ≤ b) := ⟨sw30, rw30, fun b o _ e => (bw30 b o e).1⟩
  have H28 : Hid (Hsh w w30 (put (put (put (put (put (put (put (put (put ((fun _ => none)) g1 ([])) g1 (az)) g2 (az)) g1 (az ++ bz)) g2 (az ++ cz)) g3 (az ++ cz)) g2 ([])) g1 (az ++ bz ++ cz)) g2 (bz))) := H27.out.grow lw30
  have EF28g1 : Hid ((put (put (put (put (put (put (put (put (put ((fun _ => none)) g1 ([])) g1 (az)) g2 (az)) g1 (az ++ bz)) g2 (az ++ cz)) g3 (az ++ cz)) g2 ([])) g1 (az ++ bz ++ cz)) g2 (bz)) g1 = some (az ++ bz ++ cz)) := EF27g1.out
  have EF28g2 : Hid ((put (put (put (put (put (put (put (put (put ((fun _ => none)) g1 ([])) g1 (az)) g2 (az)) g1 (az ++ bz)) g2 (az ++ cz)) g3 (az ++ cz)) g2 ([])) g1 (az ++ bz ++ cz)) g2 (bz)) g2 = some (bz)) := EF27g2.out
  have EF28g3 : Hid ((put (put (put (put (put (put (put (put (put ((fun _ => none)) g1 ([])) g1 (az)) g2 (az)) g1 (az ++ bz)) g2 (az ++ cz)) g3 (az ++ cz)) g2 ([])) g1 (az ++ bz ++ cz)) g2 (bz)) g3 = some (az ++ cz)) := EF27g3.out
  clear ow30 sw30 rw30 bw30 lw30
  go_wp2_with fail
  refine (dsum_any _ 1 1 [bz] _ (seenP1 w30 xw30 bz.length cw30 (bz) Uw30.out.1 Uw30.out.2.1) (by decide) (by rw [show ([bz] : List (List Int)).flatten = bz from List.append_nil _]; have := HA.out.2.2; have := HB.out.2.2; have := HC.out.2.2; (try simp only [List.length_append]); omega) (H28.out.grow ((Below.refl _ _).alloc (Nat.le_refl _) (.cells #[.slice xw30 (bz.length) cw30] 22))).tab).mono ?_
  rintro e w31 ⟨rfl, lw31⟩
  rw [show ([bz] : List (List Int)).flatten = bz from List.append_nil _]
  have H29 : Hid (Hsh w w31 (put (put (put (put (put (put (put (put (put ((fun _ => none)) g1 ([])) g1 (az)) g2 (az)) g1 (az ++ bz)) g2 (az ++ cz)) g3 (az ++ cz)) g2 ([])) g1 (az ++ bz ++ cz)) g2 (bz))) := H28.out.grow (below_chain ((Below.refl _ _).alloc (Nat.le_refl _) (.cells #[.slice xw30 (bz.length) cw30] 22)) lw31 (by simp))
  have EF29g1 : Hid ((put (put (put (put (put (put (put (put (put ((fun _ => none)) g1 ([])) g1 (az)) g2 (az)) g1 (az ++ bz)) g2 (az ++ cz)) g3 (az ++ cz)) g2 ([])) g1 (az ++ bz ++ cz)) g2 (bz)) g1 = some (az ++ bz ++ cz)) := EF28g1.out
  have EF29g2 : Hid ((put (put (put (put (put (put (put (put (put ((fun _ => none)) g1 ([])) g1 (az)) g2 (az)) g1 (az ++ bz)) g2 (az ++ cz)) g3 (az ++ cz)) g2 ([])) g1 (az ++ bz ++ cz)) g2 (bz)) g2 = some (bz)) := EF28g2.out
  have EF29g3 : Hid ((put (put (put (put (put (put (put (put (put ((fun _ => none)) g1 ([])) g1 (az)) g2 (az)) g1 (az ++ bz)) g2 (az ++ cz)) g3 (az ++ cz)) g2 ([])) g1 (az ++ bz ++ cz)) g2 (bz)) g3 = some (az ++ cz)) := EF28g3.out
  clear lw31
  go_wp2_with fail
  refine (sum_holds g1 (az ++ bz ++ cz) w31 (H29.out.at_ _ _ EF29g1.out).2 H29.out.tab).mono ?_
  rintro e w32 ⟨rfl, lw32⟩
  have H30 : Hid (Hsh w w32 (put (put (put (put (put (put (put (put (put ((fun _ => none)) g1 ([])) g1 (az)) g2 (az)) g1 (az ++ bz)) g2 (az ++ cz)) g3 (az ++ cz)) g2 ([])) g1 (az ++ bz ++ cz)) g2 (bz))) := H29.out.grow lw32
  have EF30g1 : Hid ((put (put (put (put (put (put (put (put (put ((fun _ => none)) g1 ([])) g1 (az)) g2 (az)) g1 (az ++ bz)) g2 (az ++ cz)) g3 (az ++ cz)) g2 ([])) g1 (az ++ bz ++ cz)) g2 (bz)) g1 = some (az ++ bz ++ cz)) := EF29g1.out
  have EF30g2 : Hid ((put (put (put (put (put (put (put (put (put ((fun _ => none)) g1 ([])) g1 (az)) g2 (az)) g1 (az ++ bz)) g2 (az ++ cz)) g3 (az ++ cz)) g2 ([])) g1 (az ++ bz ++ cz)) g2 (bz)) g2 = some (bz)) := EF29g2.out
  have EF30g3 : Hid ((put (put (put (put (put (put (put (put (put ((fun _ => none)) g1 ([])) g1 (az)) g2 (az)) g1 (az ++ bz)) g2 (az ++ cz)) g3 (az ++ cz)) g2 ([])) g1 (az ++ bz ++ cz)) g2 (bz)) g3 = some (az ++ cz)) := EF29g3.out
  clear lw32
  go_wp2_with fail
  refine (join_any _ 3 3 [az, bz, cz] _ (seenP3 w32 ao bo co ac bc cc az bz cz (HA.out.1.later H30.out.bel (Nat.le_refl _)) (HB.out.1.later H30.out.bel (Nat.le_refl _)) (HC.out.1.later H30.out.bel (Nat.le_refl _)) HA.out.2.1 HB.out.2.1 HC.out.2.1) (by decide) (by rw [three_flat]; have := HA.out.2.2; have := HB.out.2.2; have := HC.out.2.2; simp only [List.length_append]; omega)).mono ?_
  rintro e w33 ⟨vw33, rfl, ow33, lw33⟩
  rw [three_flat] at ow33
  obtain ⟨xw33, cw33, rfl, sw33, rw33, _, _, _⟩ := own_data (bytes_app (bytes_app HA.out.1.bytes HB.out.1.bytes) HC.out.1.bytes) (by have := HA.out.2.2; have := HB.out.2.2; have := HC.out.2.2; simp only [List.length_append]; omega) ow33
  have Uw33 : Hid (Seen w33 xw33 (az ++ bz ++ cz).length (az ++ bz ++ cz) ∧ (az ++ bz ++ cz).length ≤ cw33) := ⟨sw33, rw33⟩
  have H31 : Hid (Hsh w w33 (put (put (put (put (put (put (put (put (put ((fun _ => none)) g1 ([])) g1 (az)) g2 (az)) g1 (az ++ bz)) g2 (az ++ cz)) g3 (az ++ cz)) g2 ([])) g1 (az ++ bz ++ cz)) g2 (bz))) := H30.out.grow (below_chain ((Below.refl _ _).alloc (Nat.le_refl _) (.cells #[.slice ao az.length ac, .slice bo bz.length bc, .slice co cz.length cc] 22)) lw33 (by simp))
  have EF31g1 : Hid ((put (put (put (put (put (put (put (put (put ((fun _ => none)) g1 ([])) g1 (az)) g2 (az)) g1 (az ++ bz)) g2 (az ++ cz)) g3 (az ++ cz)) g2 ([])) g1 (az ++ bz ++ cz)) g2 (bz)) g1 = some (az ++ bz ++ cz)) := EF30g1.out
  have EF31g2 : Hid ((put (put (put (put (put (put (put (put (put ((fun _ => none)) g1 ([])) g1 (az)) g2 (az)) g1 (az ++ bz)) g2 (az ++ cz)) g3 (az ++ cz)) g2 ([])) g1 (az ++ bz ++ cz)) g2 (bz)) g2 = some (bz)) := EF30g2.out
  have EF31g3 : Hid ((put (put (put (put (put (put (put (put (put ((fun _ => none)) g1 ([])) g1 (az)) g2 (az)) g1 (az ++ bz)) g2 (az ++ cz)) g3 (az ++ cz)) g2 ([])) g1 (az ++ bz ++ cz)) g2 (bz)) g3 = some (az ++ cz)) := EF30g3.out
  clear ow33 sw33 rw33 lw33
  obtain ⟨nw33, Nw33⟩ : ∃ k, (az ++ bz ++ cz).length = k := ⟨_, rfl⟩
  rw [Nw33] at Uw33 ⊢
  clear Nw33
  go_wp2_with fail
  refine (dsum_any _ 1 1 [az ++ bz ++ cz] _ (seenP1 w33 xw33 nw33 cw33 (az ++ bz ++ cz) Uw33.out.1 Uw33.out.2) (by decide) (by rw [show ([az ++ bz ++ cz] : List (List Int)).flatten = az ++ bz ++ cz from List.append_nil _]; have := HA.out.2.2; have := HB.out.2.2; have := HC.out.2.2; (try simp only [List.length_append]); omega) (H31.out.grow ((Below.refl _ _).alloc (Nat.le_refl _) (.cells #[.slice xw33 (nw33) cw33] 22))).tab).mono ?_
  rintro e w34 ⟨rfl, lw34⟩
  rw [show ([az ++ bz ++ cz] : List (List Int)).flatten = az ++ bz ++ cz from List.append_nil _]
  have H32 : Hid (Hsh w w34 (put (put (put (put (put (put (put (put (put ((fun _ => none)) g1 ([])) g1 (az)) g2 (az)) g1 (az ++ bz)) g2 (az ++ cz)) g3 (az ++ cz)) g2 ([])) g1 (az ++ bz ++ cz)) g2 (bz))) := H31.out.grow (below_chain ((Below.refl _ _).alloc (Nat.le_refl _) (.cells #[.slice xw33 (nw33) cw33] 22)) lw34 (by simp))
  have EF32g1 : Hid ((put (put (put (put (put (put (put (put (put ((fun _ => none)) g1 ([])) g1 (az)) g2 (az)) g1 (az ++ bz)) g2 (az ++ cz)) g3 (az ++ cz)) g2 ([])) g1 (az ++ bz ++ cz)) g2 (bz)) g1 = some (az ++ bz ++ cz)) := EF31g1.out
  have EF32g2 : Hid ((put (put (put (put (put (put (put (put (put ((fun _ => none)) g1 ([])) g1 (az)) g2 (az)) g1 (az ++ bz)) g2 (az ++ cz)) g3 (az ++ cz)) g2 ([])) g1 (az ++ bz ++ cz)) g2 (bz)) g2 = some (bz)) := EF31g2.out
  have EF32g3 : Hid ((put (put (put (put (put (put (put (put (put ((fun _ => none)) g1 ([])) g1 (az)) g2 (az)) g1 (az ++ bz)) g2 (az ++ cz)) g3 (az ++ cz)) g2 ([])) g1 (az ++ bz ++ cz)) g2 (bz)) g3 = some (az ++ cz)) := EF31g3.out
  clear lw34
  go_wp2
  go_ret
  exact ⟨rfl, H32.out.bel⟩
end Go.Proofs.YtpphmodibbeomabDoor.digestCopies
