/- Layer host: what lay on a page some writes ago; a byte turned; what a read answers. -/
import Derived.Test.YtobcolpdkcppoaaHSmall
namespace Go.Proofs.Ytobcolpdkcppoaa
open Go.RowKit
set_option linter.unusedVariables false
set_option linter.unusedSimpArgs false

/-- What lay on page p so many writes ago. -/
def agoL (s : HSt) (p : Nat) (b : Int) : List Int :=
  if b.toNat < (s.laid p).length then (s.laid p).getD ((s.laid p).length - 1 - b.toNat) [] else List.replicate s.size 0
theorem agoL_length {s : HSt} (g : s.Good) (p : Nat) (b : Int) : (agoL s p b).length = s.size := by
  unfold agoL
  split
  · next h =>
    have hi : (s.laid p).length - 1 - b.toNat < (s.laid p).length := by omega
    have e : (s.laid p).getD ((s.laid p).length - 1 - b.toNat) [] = (s.laid p)[(s.laid p).length - 1 - b.toNat] := by simp [List.getD, hi]
    rw [e]; exact g.len p _ (List.getElem_mem hi)
  · simp
theorem mk_bytes (n : Nat) (hn : n ≤ 1048576) (w : World) : (Instr.makeSlice 32 (.int .i64 (n : Int)) (.int .i64 (n : Int))).run Try.prog w = .ok (.slice (some ⟨w.heap.size, 0, none⟩) n n) (w.alloc (.cells (madeCells #[.int .u8 0] n) 5)) :=
  run_make_row' 32 5 (.int .u8 0) 1 Try.underlying32 info_byte rfl .i64 .i64 n (by omega) (by omega) w
theorem made_blk (w : World) (z : Value) (n : Nat) (t : TypeId) : Blk (w.alloc (.cells (madeCells #[z] n) t)) w.heap.size t (List.replicate n z) := by
  unfold Blk
  have e : madeCells #[z] n = (List.replicate n z).toArray := by
    apply Array.ext
    · simp [size_madeCells]
    · intro i h1 h2
      simp [madeCells, Nat.mod_one]
  rw [e]; exact heap_alloc_new w _
theorem zeros_u8s (n : Nat) : List.replicate n (Value.int .u8 0) = u8s (List.replicate n 0) := by simp [u8s]
theorem bytes_zeros (n : Nat) : Bytes (List.replicate n 0) := fun z hz => by rw [List.eq_of_mem_replicate hz]; decide
/-- A row of its own: new, known whole. -/
def NewB (w w' : World) (v : Value) (zs : List Int) : Prop := ∃ g, v = .slice (some ⟨g, 0, none⟩) zs.length zs.length ∧ Blk w' g 5 (u8s zs) ∧ w.heap.size ≤ g ∧ Bytes zs
theorem agoL_bytes {w : World} {M : Nat → Prop} {h : Nat} {s : HSt} (x : HostAt w M h s) (p : Nat) (hp : p < s.pages) (b : Int) : Bytes (agoL s p b) := by
  obtain ⟨gl, gm, lg, rws, n, D, x⟩ := x
  unfold agoL
  split
  · next hl =>
    rcases x.row p hp with ⟨_, e⟩ | ⟨g, o, cap, vs, e, hb, hM, hc, ho, hx⟩
    · rw [e] at hl; cases hl
    · obtain ⟨_, _, _, _, _, q, _⟩ := hx ((s.laid p).length - 1 - b.toNat) (by omega)
      exact q
  · exact bytes_zeros _
theorem ago_zeros {s : HSt} {p : Nat} {b : Int} {sz : Nat} (h : (s.laid p).length ≤ b.toNat) (e : s.size = sz) : agoL s p b = List.replicate sz 0 := by
  unfold agoL
  rw [if_neg (by omega), e]
theorem ago_at {s : HSt} {p : Nat} {b : Int} {j : Nat} (h : (s.laid p).length = j + b.toNat + 1) : agoL s p b = (s.laid p).getD j [] := by
  unfold agoL
  rw [if_pos (by omega), h, show j + b.toNat + 1 - 1 - b.toNat = j by omega]
set_option maxRecDepth 20000 in
set_option maxHeartbeats 1000000 in
theorem ago_any (h : Nat) (s : HSt) (p : Nat) (b : Int) (hp : p < s.pages) (hb : I64 b) (M : Nat → Prop) (w : World) (x : HostAt w M h s) :
    Calls Try.prog 48 #[.pointer (some ⟨h, 0, none⟩), .int .i64 p, .int .i64 b] w fun e w' => ∃ v, e = .returned v ∧ NewB w w' v (agoL s p b) ∧ Below w.heap.size w w' := by
  have HBy := agoL_bytes x p hp b
  obtain ⟨gl, gm, lg, rws, n, D, x⟩ := x
  have c0 : w.cell? ⟨h, 0, none⟩ = some (.int .i64 s.size) := x.blk.cell 0
  have c1 : w.cell? ⟨h, 1, none⟩ = some (.slice (some ⟨gl, 0, none⟩) s.pages s.pages) := x.blk.cell 1
  have cp : w.cell? ⟨gl, p, none⟩ = some (rws.getD p (.slice none 0 0)) := by
    rw [x.lot.cell p]
    have := x.cnt
    simp [List.getD, show p < rws.length by omega]
  have hL := agoL_length x.good p b
  have hs1 := x.good.size
  have hpg := x.good.pages
  have hlo := x.good.laid p
  have hop := x.good.ops
  obtain ⟨sz, hsz⟩ : ∃ q, s.size = q := ⟨_, rfl⟩
  obtain ⟨np, hnp⟩ : ∃ q, s.pages = q := ⟨_, rfl⟩
  have hhl : h < w.heap.size := x.blk.lt
  have hgl : gl < w.heap.size := x.lot.lt
  have HL : Hid ((agoL s p b).length = sz ∧ h < w.heap.size ∧ gl < w.heap.size ∧ Bytes (agoL s p b)) := ⟨by rw [← hsz]; exact hL, hhl, hgl, HBy⟩
  have hr := x.row p hp
  rw [hsz] at c0
  rw [hnp] at c1
  have HZ : Hid (s.size = sz ∧ s.pages = np) := ⟨hsz, hnp⟩
  have i1 : (0 : Int) ≤ (p : Int) := by omega
  have i2 : (p : Int) < (np : Int) := by omega
  have mk := mk_bytes sz (by omega)
  have B0 : Hid (Blk (w.alloc (.cells (madeCells #[.int .u8 0] sz) 5)) w.heap.size 5 (u8s (List.replicate sz 0)) ∧ Below w.heap.size w (w.alloc (.cells (madeCells #[.int .u8 0] sz) 5))) := ⟨by rw [← zeros_u8s]; exact made_blk _ _ _ _, (Below.refl _ _).alloc (Nat.le_refl _) _⟩
  have hsz4 : sz ≤ 4124 := by omega
  have hwg : w.heap.size ≠ h := by omega
  have hwl : w.heap.size ≠ gl := by omega
  clear hL hs1 hsz hnp HBy
  rcases hr with ⟨er, el⟩ | ⟨g, o, cap, vs, er, hbk, hM, hc, ho, hx⟩
  · rw [er] at cp
    have HF : Hid (agoL s p b = List.replicate sz 0) := ago_zeros (by rw [el]; exact Nat.zero_le _) HZ.out.1
    clear er el x hlo hpg
    rcases (show b < 0 ∨ 0 ≤ b by omega) with h0 | h0
    all_goals
      go_enter Try.func48, Try.ntmps48
      go_wp2_with fail
      go_ret
      refine ⟨.slice (some ⟨w.heap.size, 0, none⟩) sz sz, rfl, ⟨w.heap.size, by rw [HF.out, List.length_replicate], by rw [HF.out]; exact B0.out.1, Nat.le_refl _, HL.out.2.2.2⟩, B0.out.2⟩
  · rw [er] at cp
    obtain ⟨L, hLn⟩ : ∃ q, (s.laid p).length = q := ⟨_, rfl⟩
    rw [hLn] at cp hc hx hlo
    have hgg : g < w.heap.size := hbk.lt
    have hwb : w.heap.size ≠ g := by omega
    rcases (show L ≤ b.toNat ∨ ∃ j, L = j + b.toNat + 1 from by
      rcases Nat.lt_or_ge b.toNat L with h | h
      · exact .inr ⟨L - 1 - b.toNat, by omega⟩
      · exact .inl h) with hz | ⟨j, hj⟩
    · have HF : Hid (agoL s p b = List.replicate sz 0) := ago_zeros (by rw [hLn]; exact hz) HZ.out.1
      clear er x hpg hx hLn hbk
      rcases (show b < 0 ∨ 0 ≤ b by omega) with h0 | h0
      · obtain rfl : L = 0 := by omega
        clear hz
        go_enter Try.func48, Try.ntmps48
        go_wp2_with fail
        go_ret
        refine ⟨.slice (some ⟨w.heap.size, 0, none⟩) sz sz, rfl, ⟨w.heap.size, by rw [HF.out, List.length_replicate], by rw [HF.out]; exact B0.out.1, Nat.le_refl _, HL.out.2.2.2⟩, B0.out.2⟩
      · have h1 : (L : Int) ≤ b := by omega
        clear hz
        go_enter Try.func48, Try.ntmps48
        go_wp2_with fail
        go_ret
        refine ⟨.slice (some ⟨w.heap.size, 0, none⟩) sz sz, rfl, ⟨w.heap.size, by rw [HF.out, List.length_replicate], by rw [HF.out]; exact B0.out.1, Nat.le_refl _, HL.out.2.2.2⟩, B0.out.2⟩
    · have hF : agoL s p b = (s.laid p).getD j [] := ago_at (by rw [hLn]; exact hj)
      obtain ⟨bb, cc, e1, hr1, hMb, hBy, hle⟩ := hx j (by omega)
      rw [← hF] at e1 hr1 hBy hle
      rw [HL.out.1] at e1
      have cj : w.cell? ⟨g, o + j, none⟩ = some (.slice (some ⟨bb, 0, none⟩) sz cc) := by rw [hbk.cell, e1]
      have Z := HL.out.1
      obtain ⟨zs, hzs⟩ : ∃ q, agoL s p b = q := ⟨_, rfl⟩
      rw [hzs] at hr1 hBy Z
      have S1 := (Seen.of_row (n := sz) hr1 (by omega) (by omega) hBy).later B0.out.2 (Nat.le_refl _)
      rw [List.take_of_length_le (by omega)] at S1
      have HS : Hid (Seen (w.alloc (.cells (madeCells #[.int .u8 0] sz) 5)) (some ⟨bb, 0, none⟩) sz zs ∧ agoL s p b = zs ∧ zs.length = sz ∧ Bytes zs) := ⟨S1, hzs, Z, hBy⟩
      clear er x hpg hx hLn hbk e1 hr1 hBy hle Z S1 hF hzs hMb
      have HK : Hid (zs.take sz = zs) := List.take_of_length_le (by rw [HS.out.2.2.1]; exact Nat.le_refl _)
      rcases (show b < 0 ∨ 0 ≤ b by omega) with h0 | h0
      · have e2 : (L : Int) - 1 = (j : Int) := by omega
        have e3 : (0 : Int) ≤ (j : Int) := by omega
        have e4 : (j : Int) < (L : Int) := by omega
        clear hj
        go_enter Try.func48, Try.ntmps48
        go_wp2_with (first | ((with_reducible show wpList _ _ _ (({ dst := some 35, op := _, type := _, pos := _, after := _, guard := _ } : Oper) :: _) _ _); refine wpList_copy_seen rfl _ _ rfl w.heap.size 0 sz sz _ _ sz cc rfl rfl zs HS.out.1 5 [] (u8s (List.replicate sz 0)) [] (by simpa using B0.out.1) rfl sz (Nat.min_self _) (by rw [u8s_length, List.length_replicate]) (fun _ => rfl) ?_; intro w2 b2 s2 k2))
        have R : Hid (Blk w2 w.heap.size 5 (u8s zs) ∧ Below w.heap.size w w2) := ⟨by rw [HK.out] at b2; simpa using b2, below_kept B0.out.2 k2 B0.out.2.size (fun j hj => by omega)⟩
        clear b2 s2 k2
        go_ret
        exact ⟨.slice (some ⟨w.heap.size, 0, none⟩) sz sz, rfl, ⟨w.heap.size, by rw [HS.out.2.1, HS.out.2.2.1], by rw [HS.out.2.1]; exact R.out.1, Nat.le_refl _, HL.out.2.2.2⟩, R.out.2⟩
      · have e2 : (L : Int) - 1 - b = (j : Int) := by omega
        have e3 : (0 : Int) ≤ (j : Int) := by omega
        have e4 : (j : Int) < (L : Int) := by omega
        clear hj
        go_enter Try.func48, Try.ntmps48
        go_wp2_with (first | ((with_reducible show wpList _ _ _ (({ dst := some 35, op := _, type := _, pos := _, after := _, guard := _ } : Oper) :: _) _ _); refine wpList_copy_seen rfl _ _ rfl w.heap.size 0 sz sz _ _ sz cc rfl rfl zs HS.out.1 5 [] (u8s (List.replicate sz 0)) [] (by simpa using B0.out.1) rfl sz (Nat.min_self _) (by rw [u8s_length, List.length_replicate]) (fun _ => rfl) ?_; intro w2 b2 s2 k2))
        have R : Hid (Blk w2 w.heap.size 5 (u8s zs) ∧ Below w.heap.size w w2) := ⟨by rw [HK.out] at b2; simpa using b2, below_kept B0.out.2 k2 B0.out.2.size (fun j hj => by omega)⟩
        clear b2 s2 k2
        go_ret
        exact ⟨.slice (some ⟨w.heap.size, 0, none⟩) sz sz, rfl, ⟨w.heap.size, by rw [HS.out.2.1, HS.out.2.2.1], by rw [HS.out.2.1]; exact R.out.1, Nat.le_refl _, HL.out.2.2.2⟩, R.out.2⟩
end Go.Proofs.Ytobcolpdkcppoaa
