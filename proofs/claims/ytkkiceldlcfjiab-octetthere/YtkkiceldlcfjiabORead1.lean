/- Layer octet: the statements' read1: what was laid is taken. -/
import Derived.Test.YtkkiceldlcfjiabOSteps
namespace Go.Proofs.Ytkkiceldlcfjiab
open Go.RowKit
set_option linter.unusedVariables false
set_option linter.unusedSimpArgs false

/-- A reader of a beginning zs of what the steps lay, k steps taken: at their end, or come to the end of zs. -/
def Along (zs : List Int) (its : List Item) (k p : Nat) (e : Int) : Prop :=
  (e = 0 ∧ p = (encS (its.take k)).length ∧ p ≤ zs.length) ∨ (e = 20 ∧ zs.length < (encS (its.take k)).length)
theorem Along.zero (zs : List Int) (its : List Item) : Along zs its 0 0 0 := .inl ⟨rfl, rfl, Nat.zero_le _⟩
/-- The next so many bytes, as many as the step k has. -/
theorem Along.step {zs : List Int} {its : List Item} {k p : Nat} {e : Int} (h : Along zs its k p e) (hk : k < its.length) (hz : ∃ r, encS its = zs ++ r) :
    Along zs its (k + 1) (nxP zs p e (itN (itAt its k))) (nxE zs p e (itN (itAt its k))) ∧ (zs.length = (encS its).length → nxL zs p e (itN (itAt its k)) = itB (itAt its k)) := by
  have hl := encS_len its k hk
  have hb := itB_length (itAt its k)
  obtain ⟨r, hr⟩ := hz
  obtain ⟨r2, hr2⟩ := encS_pre its (k + 1)
  rw [encS_succ its k hk] at hr2
  rcases h with ⟨rfl, rfl, hp⟩ | ⟨rfl, hp⟩
  · by_cases hfit : (encS (its.take k)).length + itN (itAt its k) ≤ zs.length
    · obtain ⟨e1, e2, e3⟩ := nx_ok hfit
      rw [e1, e2, e3]
      refine ⟨.inl ⟨rfl, by omega, by omega⟩, fun _ => ?_⟩
      have h1 : zs = (encS its).take zs.length := by rw [hr]; simp
      rw [h1, hr2, List.append_assoc]
      have hz2 : zs.length = (encS (its.take k)).length + (zs.length - (encS (its.take k)).length) := by omega
      rw [hz2, List.take_length_add_append, List.drop_left, List.take_take, Nat.min_eq_left (by omega), ← hb, List.take_left]
    · obtain ⟨e1, e2, e3⟩ := @nx_short zs (encS (its.take k)).length (itN (itAt its k) : Int) (by omega) (by omega)
      rw [e2, e3]
      refine ⟨.inr ⟨rfl, by omega⟩, fun hh => ?_⟩
      have := congrArg List.length hr2
      simp only [List.length_append] at this
      omega
  · obtain ⟨e1, e2, e3⟩ := @nx_err zs p 20 (itN (itAt its k) : Int) (by decide)
    rw [e2, e3]
    refine ⟨.inr ⟨rfl, by omega⟩, fun hh => ?_⟩
    obtain ⟨r3, hr3⟩ := encS_pre its k
    have := congrArg List.length hr3
    simp only [List.length_append] at this
    omega
/-- A step that has no bytes of its own leaves the reader where it is. -/
theorem Along.skip {zs : List Int} {its : List Item} {k p : Nat} {e : Int} (h : Along zs its k p e) (hk : k < its.length) (h0 : itN (itAt its k) = 0) : Along zs its (k + 1) p e := by
  have hl := encS_len its k hk
  rcases h with ⟨rfl, rfl, hp⟩ | ⟨rfl, hp⟩
  · exact .inl ⟨rfl, by omega, hp⟩
  · exact .inr ⟨rfl, by omega⟩
theorem Rd.drew {w : World} {r : Nat} {ao : Option Addr} {c : Nat} {zs : List Int} {p : Nat} {e : Int} (h : Rd w r ao c zs p e) : Rd w.drew r ao c zs p e := h.later (B := w.heap.size) ((Below.refl _ _).drew) (Nat.le_refl _)

set_option maxHeartbeats 1000000 in
set_option maxRecDepth 20000 in
theorem read1_any (bo : Option Addr) (m c : Nat) (zs : List Int) (io : Option Addr) (n ci : Nat) (its : List Item) (W : Bool) (w : World) (hs : Seen w bo m zs) (hi : SeenS w io n its) (hz : ∃ r, encS its = zs ++ r) (hW : W = decide (zs.length = (encS its).length)) :
    Calls Try.prog 16 #[.slice bo m c, .slice io n ci, .bool W] w fun en w' => en = .returned (.bool true) ∧ Below w.heap.size w w' := by
  have HI : Hid (SeenS w io n its) := hi
  have HZ : Hid (∃ r, encS its = zs ++ r) := hz
  have HW : Hid (W = decide (zs.length = (encS its).length)) := hW
  have HL : Hid (its.length = n) := hi.len
  have ht := hi.top
  clear hi hz hW
  go_enter Try.func16, Try.ntmps16
  go_wp2_with fail
  refine (newReader_any bo m c zs w hs).mono ?_
  rintro e w1 ⟨r, ao, cr, rfl, rd1, lr, lg, b1⟩
  go_wp2
  go_loopw [8, 9] (fun a _ wr => ∃ (k p : Nat) (e : Int), k ≤ n ∧ a = .int .i64 k ∧ Rd wr r ao cr zs p e ∧ Along zs its k p e ∧ Below w.heap.size w wr) (fun a _ _ => n - (intOf a).toNat)
  case atStart => exact ⟨0, 0, 0, Nat.zero_le _, rfl, rd1, Along.zero _ _, b1⟩
  case round =>
    clear rd1 b1 hs
    obtain ⟨k, p, e, hk, rfl, rd, hal, hbel⟩ := hrel
    by_cases hlt : k < n
    · obtain ⟨b, o, so, cs, rfl, hb, i0, _, i2, i3, hsd, hcs⟩ := HI.out.cells k hlt
      obtain ⟨wv, wdd, _, wl⟩ := HI.out.wf k hlt
      have hstep := hal.step (by have := HL.out; omega) HZ.out
      have hskip := hal.skip (by have := HL.out; omega)
      have z0 := hbel.size
      have c0 := (hbel.cell (p := ⟨b, o + k * 4, none⟩) hb).trans i0
      have c2 := (hbel.cell (p := ⟨b, o + k * 4 + 2, none⟩) hb).trans i2
      have c3 := (hbel.cell (p := ⟨b, o + k * 4 + 3, none⟩) hb).trans i3
      have HSD : Hid (Seen w so (itAt its k).data.length (itAt its k).data ∧ (so = none → cs = 0)) := ⟨hsd, hcs⟩
      have HIT : Hid (∀ it, it = itAt its k → itN it = if it.d = 5 then it.data.length else wd it.d) := fun it _ => rfl
      have HIB : Hid (∀ it, it = itAt its k → itB it = if it.d = 5 then it.data else leB (wd it.d) it.v) := fun it _ => rfl
      generalize hit : itAt its k = it at *
      have j1 : (0 : Int) ≤ (k : Int) := by omega
      have j2 : (k : Int) < (n : Int) := by omega
      clear i0 i2 i3 hsd hcs hal
      have hbr : b ≠ r := by omega
      have HC : Hid (∀ Wd, Kept (fun x => x = r) wr.drew Wd → (Wd.cell? ⟨b, o + k * 4, none⟩ = some (.int .i64 it.d) ∧ Wd.cell? ⟨b, o + k * 4 + 2, none⟩ = some (.int .u64 it.v)) ∧ Wd.cell? ⟨b, o + k * 4 + 3, none⟩ = some (.slice so it.data.length cs)) := fun Wd hK =>
        ⟨⟨(hK.cell (p := ⟨b, o + k * 4, none⟩) (Nat.lt_of_lt_of_le hb z0) hbr).trans c0, (hK.cell (p := ⟨b, o + k * 4 + 2, none⟩) (Nat.lt_of_lt_of_le hb z0) hbr).trans c2⟩, (hK.cell (p := ⟨b, o + k * 4 + 3, none⟩) (Nat.lt_of_lt_of_le hb z0) hbr).trans c3⟩
      have HB2 : Hid (∀ Wd, Kept (fun x => x = r) wr.drew Wd → Below w.heap.size w Wd) := fun Wd hK => hbel.trans (Kept.below (a := wr) ⟨hK.os, hK.tape, hK.output, hK.size, hK.block⟩ z0 (fun x hx => by omega))
      have hSW : W = true → nxL zs p e (itN it) = itB it := fun h => hstep.2 (of_decide_eq_true (by rw [← HW.out]; exact h))
      by_cases h5 : it.d = 5
      · have w0 : wd it.d = 0 := by rw [h5]; rfl
        have n5 : itN it = it.data.length := by rw [HIT.out it rfl, if_pos h5]
        have b5 : itB it = it.data := by rw [HIB.out it rfl, if_pos h5]
        rw [n5] at hstep hSW
        rw [b5] at hSW
        have hrb := fun Wd hWd => rdbytes_any r ao cr zs p e (it.data.length : Int) (by omega) Wd hWd
        have HST : Hid _ := hstep.1
        have HSW : Hid (W = true → nxL zs p e (it.data.length : Int) = it.data) := hSW
        have hlb := nxL_bytes zs rd.hb p e (it.data.length : Int)
        have hll : (nxL zs p e (it.data.length : Int)).length ≤ 140737488355328 := by
          unfold nxL
          split
          · decide
          · rw [List.length_take]; omega
        generalize nxL zs p e (it.data.length : Int) = L at *
        generalize nxP zs p e (it.data.length : Int) = P' at *
        generalize nxE zs p e (it.data.length : Int) = E' at *
        have q5 : (it.d == 5) = true := by rw [h5]; rfl
        have HLB : Hid (Bytes L ∧ L.length ≤ 140737488355328) := ⟨hlb, hll⟩
        have hwd := width_any it.d
        rw [w0] at hwd
        have HQ : Hid (∀ q, (((wr.drewN q).cell? ⟨b, o + k * 4, none⟩ = some (.int .i64 it.d) ∧ (wr.drewN q).cell? ⟨b, o + k * 4 + 3, none⟩ = some (.slice so it.data.length cs)) ∧ Rd (wr.drewN q).drew r ao cr zs p e ∧
            (∀ Wd, Kept (fun x => x = r) (wr.drewN q).drew Wd → (Wd.cell? ⟨b, o + k * 4, none⟩ = some (.int .i64 it.d) ∧ Wd.cell? ⟨b, o + k * 4 + 3, none⟩ = some (.slice so it.data.length cs))) ∧
            (∀ Wd, Kept (fun x => x = r) (wr.drewN q).drew Wd → Below w.heap.size w Wd) ∧
            (∀ (Wd : World) (vo : Option Addr) (cv : Nat), Wd.ownsRow (wr.drewN q).drew.heap.size 5 1 (.slice vo L.length cv) L.length (L.map (Value.int .u8)) → Kept (fun x => x = r) (wr.drewN q).drew Wd → ∀ B, decide (L = it.data) = B →
              Calls Try.prog 19 #[.slice vo L.length L.length, .slice so it.data.length cs] Wd fun e w' => e = .returned (.bool B) ∧ ∃ q, w' = Wd.drewN q))) := fun q => by
          refine ⟨⟨c0, c3⟩, (rd.drewN q).drew, fun Wd hK => ?_, fun Wd hK => ?_, fun Wd vo cv ho hK B hB => ?_⟩
          · have hK' : Kept (fun x => x = r) wr.drew Wd := ⟨hK.os, hK.tape, hK.output, hK.size, hK.block⟩
            exact ⟨(HC.out Wd hK').1.1, (HC.out Wd hK').2⟩
          · exact HB2.out Wd ⟨hK.os, hK.tape, hK.output, hK.size, hK.block⟩
          · obtain ⟨vo', cv', e', s', _⟩ := own_seen rfl HLB.out.1 HLB.out.2 ho
            simp only [Value.slice.injEq] at e'
            obtain ⟨rfl, _, rfl⟩ := e'
            have hsd := (HSD.out.1.later hbel (Nat.le_refl _)).kept (S := fun x => x = r) (w' := Wd) ⟨hK.os, hK.tape, hK.output, hK.size, hK.block⟩ (fun b' o' hn' e' => by
              obtain ⟨b2, o2, e2, hlt2, _⟩ := HSD.out.1.cells hn'
              rw [e'] at e2
              simp only [Option.some.injEq, Addr.mk.injEq] at e2
              omega)
            exact (same_any vo so L.length it.data.length L.length cs L it.data Wd s' hsd).mono fun e w' ⟨h1, h2⟩ => ⟨by rw [h1, hB], h2⟩
        clear hstep hSW hskip rd hbel hlb hll h5 HIT HIB n5 b5 HC HB2
        by_cases hv : L = it.data
        · have HV : Hid (decide (L = it.data) = true) := decide_eq_true hv
          clear hv
          go_wp2_with fail
          refine (hwd wr).mono ?_
          rintro en w' ⟨rfl, rfl⟩
          go_wp2
          go_quiet (fail)
          obtain ⟨⟨d0, d3⟩, RD, HCq, HBq, hsm⟩ := HQ.out nq
          generalize wr.drewN nq = wq at *
          go_wp2
          first | (go_region_held (fun w' => w'.cell? ⟨b, o + k * 4, none⟩ = some (.int .i64 it.d) ∧ w'.cell? ⟨b, o + k * 4 + 3, none⟩ = some (.slice so it.data.length cs)) (first | (go_keep; done) | (exact HCq _ kp4) | (exact HCq _ (kp4.trans ⟨rfl, rfl, rfl, Nat.le_refl _, fun _ _ _ => rfl⟩))) (first | (go_at_call 22; refine (hrb _ RD).mono ?_; rintro en w4 ⟨vo, cv, rfl, o4, rd4, kp4⟩) | (go_at_call 19; refine (hsm w4 vo cv o4 kp4 _ HV.out).mono ?_; rintro en _ ⟨rfl, q, rfl⟩))) | fail
          all_goals
            have R1 : Hid (Rd (w4.drewN q) r ao cr zs P' E') := rd4.drewN q
            have R2 : Hid (Below w.heap.size w (w4.drewN q)) := below_dn (HBq _ kp4) q
            clear rd4 kp4 o4 RD HCq HBq hsm HQ HSD
            go_wp2
            go_roundw
            case rel => exact ⟨k + 1, P', E', by omega, by go_num, R1.out, HST.out, R2.out⟩
            case measure => simp [intOf]; omega
        · have HV : Hid (decide (L = it.data) = false) := decide_eq_false hv
          have hWf : W = false := by
            cases hh : W
            · rfl
            · exact absurd (HSW.out hh) hv
          subst hWf
          clear hv
          go_wp2_with fail
          refine (hwd wr).mono ?_
          rintro en w' ⟨rfl, rfl⟩
          go_wp2
          go_quiet (fail)
          obtain ⟨⟨d0, d3⟩, RD, HCq, HBq, hsm⟩ := HQ.out nq
          generalize wr.drewN nq = wq at *
          go_wp2
          first | (go_region_held (fun w' => w'.cell? ⟨b, o + k * 4, none⟩ = some (.int .i64 it.d) ∧ w'.cell? ⟨b, o + k * 4 + 3, none⟩ = some (.slice so it.data.length cs)) (first | (go_keep; done) | (exact HCq _ kp4) | (exact HCq _ (kp4.trans ⟨rfl, rfl, rfl, Nat.le_refl _, fun _ _ _ => rfl⟩))) (first | (go_at_call 22; refine (hrb _ RD).mono ?_; rintro en w4 ⟨vo, cv, rfl, o4, rd4, kp4⟩) | (go_at_call 19; refine (hsm w4 vo cv o4 kp4 _ HV.out).mono ?_; rintro en _ ⟨rfl, q, rfl⟩))) | fail
          all_goals
            have R1 : Hid (Rd (w4.drewN q) r ao cr zs P' E') := rd4.drewN q
            have R2 : Hid (Below w.heap.size w (w4.drewN q)) := below_dn (HBq _ kp4) q
            clear rd4 kp4 o4 RD HCq HBq hsm HQ HSD
            go_wp2
            go_roundw
            case rel => exact ⟨k + 1, P', E', by omega, by go_num, R1.out, HST.out, R2.out⟩
            case measure => simp [intOf]; omega
      · have q5 : (it.d == 5) = false := by simpa using h5
        have n5 : itN it = wd it.d := by rw [HIT.out it rfl, if_neg h5]
        have b5 : itB it = leB (wd it.d) it.v := by rw [HIB.out it rfl, if_neg h5]
        by_cases hw : 0 < wd it.d
        · rw [n5] at hstep hSW
          rw [b5] at hSW
          have hTC : W = true → tkV zs p e it.d = it.v % 256 ^ wd it.d := fun h => by
            unfold tkV
            rw [hSW h, leB_length, leV_ok, le_leB]
          have htk := fun Wd hWd => taken_any r ao cr zs p e it.d hw Wd hWd
          have hct := scut_any it.v wv it.d hw
          have HST : Hid _ := hstep.1
          generalize nxP zs p e (wd it.d : Int) = P' at *
          generalize nxE zs p e (wd it.d : Int) = E' at *
          generalize tkV zs p e it.d = T at *
          generalize it.v % 256 ^ wd it.d = C at *
          have HTC : Hid (W = true → T = C) := hTC
          have RD : Hid (Rd wr.drew r ao cr zs p e) := rd.drew
          have hwd := width_any it.d
          have hw1 : (0 : Int) < (wd it.d : Int) := by omega
          generalize wd it.d = N at *
          clear hstep hSW hskip rd hbel h5 HIT HIB n5 b5 hTC
          by_cases hv : T = C
          · have hne : (T != C) = false := by simp [hv]
            clear hv
            go_wp2_with fail
            refine (hwd wr).mono ?_
            rintro en w' ⟨rfl, rfl⟩
            go_wp2
            first | (go_region_held (fun w' => w'.cell? ⟨b, o + k * 4, none⟩ = some (.int .i64 it.d) ∧ w'.cell? ⟨b, o + k * 4 + 2, none⟩ = some (.int .u64 it.v)) (first | (go_keep; done) | (exact (HC.out _ kp4).1)) (first | (go_at_call 39; refine (htk _ RD.out).mono ?_; rintro en w4 ⟨rfl, rd4, kp4⟩) | (go_at_call 40; refine (hct _).mono ?_; rintro en w' ⟨rfl, rfl⟩))) | fail
            all_goals
              have k0 := (HC.out _ kp4).1.1
              have R1 : Hid (∀ q, Rd (w4.drewN q) r ao cr zs P' E') := fun q => rd4.drewN q
              have R2 : Hid (∀ q, Below w.heap.size w (w4.drewN q)) := fun q => below_dn (HB2.out _ kp4) q
              clear rd4 kp4 RD HC HB2 HSD
              go_wp2
              go_quiet (fail)
              go_wp2
              go_roundw
              case rel => exact ⟨k + 1, P', E', by omega, by go_num, R1.out _, HST.out, R2.out _⟩
              case measure => simp [intOf]; omega
          · have hne : (T != C) = true := by simpa using hv
            have hWf : W = false := by
              cases hh : W
              · rfl
              · exact absurd (HTC.out hh) hv
            subst hWf
            clear hv
            go_wp2_with fail
            refine (hwd wr).mono ?_
            rintro en w' ⟨rfl, rfl⟩
            go_wp2
            first | (go_region_held (fun w' => w'.cell? ⟨b, o + k * 4, none⟩ = some (.int .i64 it.d) ∧ w'.cell? ⟨b, o + k * 4 + 2, none⟩ = some (.int .u64 it.v)) (first | (go_keep; done) | (exact (HC.out _ kp4).1)) (first | (go_at_call 39; refine (htk _ RD.out).mono ?_; rintro en w4 ⟨rfl, rd4, kp4⟩) | (go_at_call 40; refine (hct _).mono ?_; rintro en w' ⟨rfl, rfl⟩))) | fail
            all_goals
              have k0 := (HC.out _ kp4).1.1
              have R1 : Hid (∀ q, Rd (w4.drewN q) r ao cr zs P' E') := fun q => rd4.drewN q
              have R2 : Hid (∀ q, Below w.heap.size w (w4.drewN q)) := fun q => below_dn (HB2.out _ kp4) q
              clear rd4 kp4 RD HC HB2 HSD
              go_wp2
              go_quiet (fail)
              go_wp2
              go_roundw
              case rel => exact ⟨k + 1, P', E', by omega, by go_num, R1.out _, HST.out, R2.out _⟩
              case measure => simp [intOf]; omega
        · have w0 : wd it.d = 0 := by omega
          have HST : Hid _ := hskip (by rw [n5]; exact w0)
          have hwd := width_any it.d
          rw [w0] at hwd
          have R1 : Hid (∀ q, Rd (wr.drewN q) r ao cr zs p e) := fun q => rd.drewN q
          have R2 : Hid (∀ q, Below w.heap.size w (wr.drewN q)) := fun q => below_dn hbel q
          clear hstep hSW hskip rd hbel h5 HIT HIB n5 b5 HC HB2 HSD hw w0
          go_wp2_with fail
          refine (hwd wr).mono ?_
          rintro en w' ⟨rfl, rfl⟩
          go_wp2
          go_quiet (fail)
          go_wp2
          go_quiet (fail)
          go_wp2
          go_roundw
          case rel => exact ⟨k + 1, p, e, by omega, by go_num, by first | exact R1.out _ | (rw [World.drewN_drewN]; exact R1.out _), HST.out, by first | exact R2.out _ | (rw [World.drewN_drewN]; exact R2.out _)⟩
          case measure => simp [intOf]; omega
    · obtain rfl : k = n := by omega
      have htk : its.take k = its := List.take_of_length_le (by have := HL.out; omega)
      have hpre : zs.length ≤ (encS its).length := by
        obtain ⟨r', hr'⟩ := HZ.out
        have := congrArg List.length hr'
        simp only [List.length_append] at this
        omega
      have HB : Hid (∀ q, Below w.heap.size w (wr.drewN q)) := fun q => below_dn hbel q
      unfold Along at hal
      rw [htk] at hal
      by_cases hfull : zs.length = (encS its).length
      · have hWt : W = true := by rw [HW.out]; exact decide_eq_true hfull
        subst hWt
        obtain ⟨rfl, hp⟩ : e = 0 ∧ p = zs.length := by
          rcases hal with ⟨h1, h2, _⟩ | ⟨_, h2⟩
          · exact ⟨h1, by omega⟩
          · omega
        subst hp
        have hE := fun q => end_any r ao cr zs zs.length 0 (wr.drewN q) (rd.drewN q)
        have hR := fun q => err_any r ao cr zs zs.length 0 (wr.drewN q) (rd.drewN q)
        have hF := fun q => left_any r ao cr zs zs.length 0 (wr.drewN q) (rd.drewN q)
        have e1 : endE zs.length zs.length 0 = 0 := by simp [endE]
        have e2 : ((zs.length : Int) - zs.length) = 0 := by omega
        simp only [e1] at hE
        simp only [e2] at hF
        clear rd hal hbel HI HZ HW e1 e2
        go_wp2_with fail
        refine (hE 0).mono ?_
        rintro en _ ⟨rfl, q1, rfl⟩
        go_wp2_with fail
        refine (hR q1).mono ?_
        rintro en w' ⟨rfl, hw'⟩
        subst hw'
        go_wp2_with fail
        refine (hF q1).mono ?_
        rintro en _ ⟨rfl, q2, rfl⟩
        go_wp2
        go_ret
        exact ⟨rfl, HB.out _⟩
      · have hWf : W = false := by rw [HW.out]; exact decide_eq_false hfull
        subst hWf
        obtain rfl : e = 20 := by
          rcases hal with ⟨_, h2, h3⟩ | ⟨h1, _⟩
          · omega
          · exact h1
        have hE := fun q => end_any r ao cr zs p 20 (wr.drewN q) (rd.drewN q)
        have hR := fun q => err_any r ao cr zs p 20 (wr.drewN q) (rd.drewN q)
        have e1 : endE zs.length p 20 = 20 := by simp [endE]
        simp only [e1] at hE
        clear rd hal hbel HI HZ HW e1
        go_wp2_with fail
        refine (hE 0).mono ?_
        rintro en _ ⟨rfl, q1, rfl⟩
        go_wp2_with fail
        refine (hR q1).mono ?_
        rintro en w' ⟨rfl, hw'⟩
        subst hw'
        go_wp2
        go_ret
        exact ⟨rfl, HB.out _⟩
end Go.Proofs.Ytkkiceldlcfjiab
