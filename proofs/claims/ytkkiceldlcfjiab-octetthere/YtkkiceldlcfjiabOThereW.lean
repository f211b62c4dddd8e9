/- Layer octet, the stage's theorem: the walk of OctetThere. -/
import Derived.Test.YtkkiceldlcfjiabORead1
import Derived.Test.YtkkiceldlcfjiabOUnhex
namespace Go.Proofs.Ytkkiceldlcfjiab
open Go.RowKit
set_option linter.unusedVariables false
set_option linter.unusedSimpArgs false

theorem wb_fits {size : Nat} {zs ys : List Int} (h : zs.length + ys.length ≤ size) : wbL size zs 0 ys = zs ++ ys ∧ wbE size zs 0 ys = 0 := by
  have h' : ¬ size < zs.length + ys.length := by omega
  simp [wbL, wbE, h']
theorem kept_below {r : Nat} {v : Value} {w wr w' : World} (hb : Below w.heap.size w wr) (hr : w.heap.size ≤ r) (hv : ∀ g, v.ownBlock = some g → w.heap.size ≤ g) (hk : Kept (WFoot r v) wr w') : Below w.heap.size w w' :=
  hb.trans (hk.below hb.size (fun k hk => by
    rcases hk with rfl | hk
    · exact hr
    · exact hv k hk))
theorem encS_take_le (its : List Item) (k : Nat) : (encS (its.take k)).length ≤ (encS its).length := by
  obtain ⟨r, hr⟩ := encS_pre its k
  have := congrArg List.length hr
  simp only [List.length_append] at this
  omega

set_option maxHeartbeats 2000000 in
set_option maxRecDepth 20000 in
theorem there_walk (io : Option Addr) (n ci : Nat) (its : List Item) (w : World) (hi : SeenS w io n its) :
    Calls Try.prog 3 #[.slice io n ci] w fun en w' => en = .returned (.bool true) ∧ Below w.heap.size w w' := by
  have HI : Hid (SeenS w io n its) := hi
  have HL : Hid (its.length = n) := hi.len
  have ht := hi.top
  clear hi
  go_enter Try.func3, Try.ntmps3
  go_wp2_with fail
  refine (awake_any w).mono ?_
  rintro e w1 ⟨rfl, b1⟩
  have HI1 : Hid (SeenS w1 io n its) := HI.out.later b1
  have B1 : Hid (Below w.heap.size w w1) := b1
  clear b1
  go_wp2
  go_loopw [3, 4, 5] (fun s a _ wr => ∃ k : Nat, k ≤ n ∧ a = .int .i64 k ∧ s = .int .i64 (encS (its.take k)).length ∧ (encS (its.take k)).length ≤ 1048576 ∧ wr = w1) (fun _ a _ _ => n - (intOf a).toNat)
  case atStart => exact ⟨0, Nat.zero_le _, rfl, rfl, Nat.zero_le _, rfl⟩
  case round =>
    obtain ⟨k, hk, rfl, rfl, hle, rfl⟩ := hrel
    by_cases hlt : k < n
    · obtain ⟨b, o, so, cs, rfl, hb, c0, _, c2, c3, hsd, hcs⟩ := HI1.out.cells k hlt
      obtain ⟨wv, wdd, _, wl⟩ := HI1.out.wf k hlt
      have hS := encS_len its k (by have := HL.out; omega)
      have hN : itN (itAt its k) = if (itAt its k).d = 5 then (itAt its k).data.length else wd (itAt its k).d := rfl
      have hwd := width_any (itAt its k).d
      have hw8 := wd_le (itAt its k).d
      generalize (encS (its.take k)).length = S0 at *
      generalize hS1 : (encS (its.take (k + 1))).length = S1 at *
      have HS1 : Hid ((encS (its.take (k + 1))).length = S1) := hS1
      generalize itAt its k = it at *
      generalize itN it = N at *
      have j1 : (0 : Int) ≤ (k : Int) := by omega
      have j2 : (k : Int) < (n : Int) := by omega
      clear hsd hcs hS1
      by_cases h5 : it.d = 5
      · rw [if_pos h5] at hN
        have q5 : (it.d == 5) = true := by rw [h5]; rfl
        by_cases hbig : (1048576 : Int) - S0 < (it.data.length : Int)
        · clear h5
          go_wp2_with fail
          refine (hwd wr).mono ?_
          rintro en w' ⟨rfl, rfl⟩
          go_wp2
          go_ret
          exact ⟨rfl, B1.out⟩
        · have hfit : S0 + it.data.length ≤ 1048576 := by omega
          have hS2 : S1 = S0 + it.data.length := by omega
          have HF : Hid (S1 = S0 + it.data.length ∧ S0 + it.data.length ≤ 1048576) := ⟨hS2, hfit⟩
          clear h5 hS hN hS2
          go_wp2_with fail
          refine (hwd wr).mono ?_
          rintro en w' ⟨rfl, rfl⟩
          go_wp2
          go_roundw
          case rel => exact ⟨k + 1, by omega, by go_num, by rw [HS1.out, HF.out.1]; go_num, by rw [HS1.out, HF.out.1]; exact HF.out.2, by first | rfl | trivial⟩
          case measure => simp [intOf]; omega
      · rw [if_neg h5] at hN
        have q5 : (it.d == 5) = false := by simpa using h5
        generalize wd it.d = M at *
        by_cases hbig : (1048576 : Int) - S0 < (M : Int)
        · clear h5
          go_wp2_with fail
          refine (hwd wr).mono ?_
          rintro en w' ⟨rfl, rfl⟩
          go_wp2
          go_ret
          exact ⟨rfl, B1.out⟩
        · have hfit : S0 + M ≤ 1048576 := by omega
          have hS2 : S1 = S0 + M := by omega
          have HF : Hid (S1 = S0 + M ∧ S0 + M ≤ 1048576) := ⟨hS2, hfit⟩
          clear h5 hS hN hS2
          go_wp2_with fail
          refine (hwd wr).mono ?_
          rintro en w' ⟨rfl, rfl⟩
          go_wp2
          go_roundw
          case rel => exact ⟨k + 1, by omega, by go_num, by rw [HS1.out, HF.out.1]; go_num, by rw [HS1.out, HF.out.1]; exact HF.out.2, by first | rfl | trivial⟩
          case measure => simp [intOf]; omega
    · obtain rfl : k = n := by omega
      have htk : its.take k = its := List.take_of_length_le (by have := HL.out; omega)
      rw [htk] at hle ⊢
      obtain ⟨size, hsz⟩ : ∃ size, (encS its).length = size := ⟨_, rfl⟩
      have HSZ : Hid ((encS its).length = size) := hsz
      rw [hsz] at hle ⊢
      clear hsz htk
      go_wp2_with fail
      refine (newWriter_any size hle wr).mono ?_
      rintro en w2 ⟨r, rfl, wr2, lr, b2⟩
      have z1 := B1.out.size
      have B2 : Hid (Below w.heap.size w w2) := B1.out.trans (b2.mono z1)
      have WR2 : Hid (Wr w2 r (.slice none 0 0) size [] 0) := wr2
      have lr' : w.heap.size ≤ r := by omega
      clear wr2 b2 lr
      go_wp2
      go_loopw [8] (fun a wr => ∃ (j : Nat) (v : Value), j ≤ k ∧ a = .int .i64 j ∧ Wr wr r v size (encS (its.take j)) 0 ∧ (∀ g, v.ownBlock = some g → w.heap.size ≤ g) ∧ Below w.heap.size w wr) (fun a _ => k - (intOf a).toNat)
      case atStart => exact ⟨0, _, Nat.zero_le _, rfl, WR2.out, (fun g hg => by cases hg), B2.out⟩
      case round =>
        clear WR2 B2 HI1 B1
        obtain ⟨j, v, hj, rfl, hwr, hvg, hbel⟩ := hrel
        by_cases hlt : j < k
        · obtain ⟨b, o, so, cs, rfl, hb, i0, _, i2, i3, hsd, hcs⟩ := HI.out.cells j hlt
          obtain ⟨wv, wdd, _, wl⟩ := HI.out.wf j hlt
          have hS := encS_succ its j (by have := HL.out; omega)
          have hSl := encS_len its j (by have := HL.out; omega)
          have hSt := encS_take_le its (j + 1)
          have hB : itB (itAt its j) = if (itAt its j).d = 5 then (itAt its j).data else leB (wd (itAt its j).d) (itAt its j).v := rfl
          have hBl := itB_length (itAt its j)
          have hsz := HSZ.out
          have z0 := hbel.size
          have c0 := (hbel.cell (p := ⟨b, o + j * 4, none⟩) hb).trans i0
          have c2 := (hbel.cell (p := ⟨b, o + j * 4 + 2, none⟩) hb).trans i2
          have c3 := (hbel.cell (p := ⟨b, o + j * 4 + 3, none⟩) hb).trans i3
          have hsd1 := hsd.later hbel (Nat.le_refl _)
          generalize hE0 : encS (its.take j) = E0 at *
          generalize hE1 : encS (its.take (j + 1)) = E1 at *
          have HE1 : Hid (encS (its.take (j + 1)) = E1) := hE1
          generalize itAt its j = it at *
          have hnr : ∀ g, WFoot r v g → w.heap.size ≤ g := fun g hg => by
            rcases hg with rfl | hg
            · exact lr'
            · exact hvg g hg
          have HC : Hid (∀ Wd, Kept (WFoot r v) wr.drew Wd → (Wd.cell? ⟨b, o + j * 4, none⟩ = some (.int .i64 it.d) ∧ Wd.cell? ⟨b, o + j * 4 + 2, none⟩ = some (.int .u64 it.v)) ∧ Wd.cell? ⟨b, o + j * 4 + 3, none⟩ = some (.slice so it.data.length cs) ∧ Seen Wd so it.data.length it.data ∧ Below w.heap.size w Wd) := fun Wd hK => by
            have hK' : Kept (WFoot r v) wr Wd := ⟨hK.os, hK.tape, hK.output, hK.size, hK.block⟩
            have hnb : ¬ WFoot r v b := fun h => by have := hnr b h; omega
            refine ⟨⟨(hK'.cell (p := ⟨b, o + j * 4, none⟩) (Nat.lt_of_lt_of_le hb z0) hnb).trans c0, (hK'.cell (p := ⟨b, o + j * 4 + 2, none⟩) (Nat.lt_of_lt_of_le hb z0) hnb).trans c2⟩, (hK'.cell (p := ⟨b, o + j * 4 + 3, none⟩) (Nat.lt_of_lt_of_le hb z0) hnb).trans c3, ?_, kept_below hbel lr' hvg hK'⟩
            exact hsd1.kept hK' (fun b' o' hn' e' h => by
              obtain ⟨b2, o2, e2, hlt2, _⟩ := hsd.cells hn'
              rw [e'] at e2
              simp only [Option.some.injEq, Addr.mk.injEq] at e2
              have := hnr b' h
              omega)
          have hly := slay_any r v size E0 0 it.d it.v wv wr.drew (hwr.later (B := wr.heap.size) ((Below.refl _ _).drew) (Nat.le_refl _))
          have j1 : (0 : Int) ≤ (j : Int) := by omega
          have j2 : (j : Int) < (k : Int) := by omega
          have HVG : Hid (∀ g, v.ownBlock = some g → w.heap.size ≤ g) := hvg
          have HCS : Hid (so = none → cs = 0) := hcs
          by_cases h5 : it.d = 5
          · have q5 : (it.d == 5) = true := by rw [h5]; rfl
            rw [if_pos h5] at hB
            have w0 : leB (wd it.d) it.v = [] := by rw [h5]; rfl
            rw [w0, (wb_none hwr.hs).1, (wb_none hwr.hs).2] at hly
            rw [hB] at hS hBl
            have hfit : E0.length + it.data.length ≤ size := by omega
            have HEE : Hid (E1 = E0 ++ it.data) := hS
            have hwb := wb_fits (ys := it.data) hfit
            clear hsd hsd1 hcs hvg hwr hbel hE0 hE1 hS hSl hSt hB hBl i0 i2 i3 w0 h5
            go_wp2
            first | (go_region_held (fun w' => w'.cell? ⟨b, o + j * 4, none⟩ = some (.int .i64 it.d) ∧ w'.cell? ⟨b, o + j * 4 + 2, none⟩ = some (.int .u64 it.v)) (first | (go_keep; done) | (exact (HC.out _ kp4).1)) (first | (go_at_call 11; refine hly.mono ?_; rintro en w4 ⟨rfl, v4, wr4, kp4, hg4⟩))) | fail
            all_goals
              obtain ⟨⟨k0, _⟩, k3, ks, kb⟩ := HC.out _ kp4
              have W4 : Hid (Wr w4 r v4 size E0 0) := wr4
              have z4 := kp4.size
              have G4 : Hid (∀ g, v4.ownBlock = some g → w.heap.size ≤ g) := fun g hg => by
                rcases hg4 g hg with h | h
                · exact HVG.out g h
                · have h' : wr.heap.size ≤ g := h
                  omega
              have KS : Hid (Seen w4 so it.data.length it.data) := ks
              have KB : Hid (Below w.heap.size w w4) := kb
              clear wr4 kp4 hg4 ks kb HC hly
              go_wp2_with fail
              refine (copied_any so it.data.length cs it.data w4 KS.out HCS.out).mono ?_
              rintro en w5 ⟨u, rfl, o5, b5⟩
              obtain ⟨uo, cu, rfl, su, _⟩ := own_seen rfl KS.out.bytes KS.out.top o5
              have hcu : uo = none → cu = 0 := by
                rintro rfl
                exact ((own_olds o5).1 rfl).2
              have hby := wbytes_any r v4 size E0 0 uo it.data.length cu it.data w5 (W4.out.later b5 (Nat.le_refl _)) su hcu
              rw [hwb.1, hwb.2] at hby
              have z5 := b5.size
              have B5 : Hid (Below w.heap.size w w5) := KB.out.trans (b5.mono KB.out.size)
              clear o5 b5 su hcu
              go_wp2_with fail
              refine hby.mono ?_
              rintro en w6 ⟨rfl, v6, wr6, kp6, hg6⟩
              have R1 : Hid (Wr w6 r v6 size E1 0) := by rw [HEE.out]; exact wr6
              have R2 : Hid (∀ g, v6.ownBlock = some g → w.heap.size ≤ g) := fun g hg => by
                rcases hg6 g hg with h | h
                · exact G4.out g h
                · have := B5.out.size; omega
              have R3 : Hid (Below w.heap.size w w6) := kept_below B5.out lr' G4.out kp6
              clear wr6 kp6 hg6 hby
              go_wp2
              go_roundw
              case rel => exact ⟨j + 1, v6, by omega, by go_num, by rw [HE1.out]; exact R1.out, R2.out, R3.out⟩
              case measure => simp [intOf]; omega
          · have q5 : (it.d == 5) = false := by simpa using h5
            rw [if_neg h5] at hB
            rw [hB] at hS hBl
            have hfit : E0.length + (leB (wd it.d) it.v).length ≤ size := by omega
            have hwb := wb_fits hfit
            rw [hwb.1, hwb.2, ← hS] at hly
            clear hsd hsd1 hcs hvg hwr hbel hE0 hE1 hS hSl hSt hB hBl i0 i2 i3 h5 hwb hfit
            go_wp2
            first | (go_region_held (fun w' => w'.cell? ⟨b, o + j * 4, none⟩ = some (.int .i64 it.d) ∧ w'.cell? ⟨b, o + j * 4 + 2, none⟩ = some (.int .u64 it.v)) (first | (go_keep; done) | (exact (HC.out _ kp4).1)) (first | (go_at_call 11; refine hly.mono ?_; rintro en w4 ⟨rfl, v4, wr4, kp4, hg4⟩))) | fail
            all_goals
              obtain ⟨⟨k0, _⟩, k3, ks, kb⟩ := HC.out _ kp4
              have W4 : Hid (Wr w4 r v4 size E1 0) := wr4
              have G4 : Hid (∀ g, v4.ownBlock = some g → w.heap.size ≤ g) := fun g hg => by
                rcases hg4 g hg with h | h
                · exact HVG.out g h
                · have h' : wr.heap.size ≤ g := h
                  omega
              have KB : Hid (Below w.heap.size w w4) := kb
              clear wr4 kp4 hg4 ks kb HC hly
              go_wp2
              go_roundw
              case rel => exact ⟨j + 1, v4, by omega, by go_num, by rw [HE1.out]; exact W4.out, G4.out, KB.out⟩
              case measure => simp [intOf]; omega
        · obtain rfl : j = k := by omega
          have htk : its.take j = its := List.take_of_length_le (by have := HL.out; omega)
          rw [htk] at hwr
          have hsz := HSZ.out
          have e1 : dnL size (encS its) 0 = encS its := by simp [dnL, hsz]
          have e2 : dnE size (encS its) 0 = 0 := by simp [dnE, hsz]
          have hdn := done_any r v size (encS its) 0 wr hwr
          rw [e1, e2, hsz] at hdn
          have HWR : Hid (Wr wr r v size (encS its) 0) := hwr
          have HBE : Hid (Below w.heap.size w wr) := hbel
          clear htk hwr hvg hbel e1 e2
          go_wp2_with fail
          refine hdn.mono ?_
          rintro en w3 ⟨u, rfl, o3, b3⟩
          have B3 : Below w.heap.size w w3 := HBE.out.trans (b3.mono HBE.out.size)
          have hlf := wleft_any r v size (encS its) 0 w3 (HWR.out.later b3 (Nat.le_refl _))
          rw [hsz, Int.sub_self] at hlf
          have hby := HWR.out.hb
          rcases own_len hsz o3 with ⟨rfl, h0⟩ | ⟨g, cap, rfl, hrow, hg, hc, hm⟩
          · subst h0
            have hen : encS its = [] := List.length_eq_zero_iff.1 hsz
            have hrd := fun q => read1_any none 0 0 [] io j ci its true (w3.drewN q) (Seen.empty _ _) (HI.out.later (below_dn B3 q)) ⟨encS its, rfl⟩ (by rw [hen]; rfl)
            have HB3 : Hid (∀ q, Below w.heap.size w (w3.drewN q)) := fun q => below_dn B3 q
            clear hdn o3 b3 B3 hsz hby HSZ
            go_wp2_with fail
            refine hlf.mono ?_
            rintro en _ ⟨rfl, q, rfl⟩
            go_wp2_with fail
            refine (hrd q).mono ?_
            rintro en w5 ⟨rfl, b5⟩
            have R : Hid (Below w.heap.size w w5) := (HB3.out q).trans (b5.mono (HB3.out q).size)
            clear b5 hrd hlf
            go_wp2
            go_ret
            exact ⟨rfl, R.out⟩
          · have hst := Seen.of_row (n := size) hrow (by omega) (by omega) hby
            rw [List.take_of_length_le (by omega)] at hst
            have hrd := fun q => read1_any (some ⟨g, 0, none⟩) size cap (encS its) io j ci its true (w3.drewN q) (hst.drewN q) (HI.out.later (below_dn B3 q)) ⟨[], by simp⟩ (by simp)
            have HB3 : Hid (∀ q, Below w.heap.size w (w3.drewN q)) := fun q => below_dn B3 q
            have HRW : Hid (∀ q W', Below (w3.drewN q).heap.size (w3.drewN q) W' → RowAt W' g (encS its)) := fun q W' hb => (hrow.drewN q).later hb (Nat.le_refl _)
            have HBY : Hid (Bytes (encS its)) := hby
            unfold maxLen at hm
            clear hdn o3 b3 B3 hby hst hrow
            by_cases hs0 : size = 0
            · subst hs0
              clear hsz HSZ
              go_wp2_with fail
              refine hlf.mono ?_
              rintro en _ ⟨rfl, q, rfl⟩
              go_wp2_with fail
              refine (hrd q).mono ?_
              rintro en w5 ⟨rfl, b5⟩
              have R : Hid (Below w.heap.size w w5) := (HB3.out q).trans (b5.mono (HB3.out q).size)
              clear b5 hrd hlf
              go_wp2
              go_ret
              exact ⟨rfl, R.out⟩
            · have hs1 : ((size : Int) == 0) = false := by simpa using hs0
              have i1 : (0 : Int) ≤ (size : Int) - 1 := by omega
              have i2 : (size : Int) - 1 ≤ (cap : Int) := by omega
              have i3 : ((size : Int) - 1).toNat = size - 1 := by omega
              have hc0 : ¬ cap = 0 := by omega
              have HZZ : Hid ((encS its).length = size ∧ ¬ size = 0) := ⟨hsz, hs0⟩
              clear hsz HSZ hs0
              go_wp2_with fail
              refine hlf.mono ?_
              rintro en _ ⟨rfl, q, rfl⟩
              go_wp2_with fail
              refine (hrd q).mono ?_
              rintro en w5 ⟨rfl, b5⟩
              have R5 : Hid (Below w.heap.size w w5) := (HB3.out q).trans (b5.mono (HB3.out q).size)
              have hrow5 := HRW.out q w5 b5
              have hst5 := Seen.of_row (n := size - 1) hrow5 (by have := HZZ.out.1; omega) (by omega) HBY.out
              have hrd2 := read1_any (some ⟨g, 0, none⟩) (size - 1) cap ((encS its).take (size - 1)) io j ci its false w5 hst5 (HI.out.later R5.out) ⟨(encS its).drop (size - 1), by rw [List.take_append_drop]⟩ (by
                have h1 := HZZ.out.1
                have h2 := HZZ.out.2
                symm
                apply decide_eq_false
                rw [List.length_take]
                omega)
              clear b5 hrd hlf hrow5 hst5
              go_wp2_with fail
              refine hrd2.mono ?_
              rintro en w6 ⟨rfl, b6⟩
              have R : Hid (Below w.heap.size w w6) := R5.out.trans (b6.mono R5.out.size)
              clear b6 hrd2
              go_wp2
              go_ret
              exact ⟨rfl, R.out⟩
end Go.Proofs.Ytkkiceldlcfjiab
