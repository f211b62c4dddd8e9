/- Joined by program: what the theorem reaches. -/
import Derived.Test.YtpanagghppdiiaaGreatJA
import Derived.Test.YtpanagghppdiiaaGreatJC
import Derived.Test.YtpanagghppdiiaaGreatJF
namespace Go.Proofs.YtpanagghppdiiaaGreat
open Go.RowKit
set_option linter.unusedVariables false
set_option linter.unusedSimpArgs false
set_option maxRecDepth 20000
set_option maxHeartbeats 2000000
def agoL (s : HSt) (p : Nat) (b : Int) : List Int :=
 if b.toNat < (s.laid p).length then (s.laid p).getD ((s.laid p).length - 1 - b.toNat) [] else List.replicate s.size 0
theorem agoL_length {s : HSt} (g : s.Good) (p : Nat) (b : Int) : (agoL s p b).length = s.size := by
 unfold agoL
 split
 ·next h =>
  have hi : (s.laid p).length - 1 - b.toNat < (s.laid p).length := by omega
  have e : (s.laid p).getD ((s.laid p).length - 1 - b.toNat) [] = (s.laid p)[(s.laid p).length - 1 - b.toNat] := by simp [List.getD, hi]
  rw [e]; exact g.len p _ (List.getElem_mem hi)
 ·simp
theorem mk_bytes (n : Nat) (hn : n ≤ 1048576) (w : World) : (Instr.makeSlice 37 (.int .i64 (n : Int)) (.int .i64 (n : Int))).run Tryz.prog w = .ok (.slice (some ⟨w.heap.size, 0, none⟩) n n) (w.alloc (.cells (madeCells #[.int .u8 0] n) 5)) :=
 run_make_row' 37 5 (.int .u8 0) 1 Tryz.underlying37 info_byte rfl .i64 .i64 n (by omega) (by omega) w
theorem made_blk (w : World) (z : Value) (n : Nat) (t : TypeId) : Blk (w.alloc (.cells (madeCells #[z] n) t)) w.heap.size t (List.replicate n z) := by
 unfold Blk
 have e : madeCells #[z] n = (List.replicate n z).toArray := by
  apply Array.ext
  ·simp [size_madeCells]
  ·intro i h1 h2
   simp [madeCells, Nat.mod_one]
 rw [e]; exact heap_alloc_new w _
theorem zeros_u8s (n : Nat) : List.replicate n (Value.int .u8 0) = u8s (List.replicate n 0) := by simp [u8s]
theorem bytes_zeros (n : Nat) : Bytes (List.replicate n 0) := fun z hz => by rw [List.eq_of_mem_replicate hz]; decide
def NewB (w w' : World) (v : Value) (zs : List Int) : Prop := ∃ g, v = .slice (some ⟨g, 0, none⟩) zs.length zs.length ∧ Blk w' g 5 (u8s zs) ∧ w.heap.size ≤ g ∧ Bytes zs
theorem agoL_bytes {w : World} {M : Nat → Prop} {h : Nat} {s : HSt} (x : HostAt w M h s) (p : Nat) (hp : p < s.pages) (b : Int) : Bytes (agoL s p b) := by
 obtain ⟨gl, gm, lg, rws, n, D, x⟩ := x
 unfold agoL
 split
 ·next hl =>
  rcases x.row p hp with ⟨_, e⟩ | ⟨g, o, cap, vs, e, hb, hM, hc, ho, hx⟩
  ·rw [e] at hl; cases hl
  ·obtain ⟨_, _, _, _, _, q, _⟩ := hx ((s.laid p).length - 1 - b.toNat) (by omega)
   exact q
 ·exact bytes_zeros _
theorem ago_zeros {s : HSt} {p : Nat} {b : Int} {sz : Nat} (h : (s.laid p).length ≤ b.toNat) (e : s.size = sz) : agoL s p b = List.replicate sz 0 := by
 unfold agoL
 rw [if_neg (by omega), e]
theorem ago_at {s : HSt} {p : Nat} {b : Int} {j : Nat} (h : (s.laid p).length = j + b.toNat + 1) : agoL s p b = (s.laid p).getD j [] := by
 unfold agoL
 rw [if_pos (by omega), h, show j + b.toNat + 1 - 1 - b.toNat = j by omega]
theorem ago_any (h : Nat) (s : HSt) (p : Nat) (b : Int) (hp : p < s.pages) (hb : I64 b) (M : Nat → Prop) (w : World) (x : HostAt w M h s) :
  Calls Tryz.prog 207 #[.pointer (some ⟨h, 0, none⟩), .int .i64 p, .int .i64 b] w fun e w' => ∃ v, e = .returned v ∧ NewB w w' v (agoL s p b) ∧ Below w.heap.size w w' := by
 have HBy := agoL_bytes x p hp b
 obtain ⟨gl, gm, lg, rws, n, D, x⟩ := x
 have c0 : w.cell? ⟨h, 0, none⟩ = some (.int .i64 s.size) := x.blk.cell 0
 have c1 : w.cell? ⟨h, 1, none⟩ = some (.slice (some ⟨gl, 0, none⟩) s.pages s.pages) := x.blk.cell 1
 have cp : w.cell? ⟨gl, p, none⟩ = some (rws.getD p (.slice none 0 0)) := by
  rw [x.lot.cell p]
  have := x.cnt
  simp [List.getD, show p < rws.length by omega]
 have hL := agoL_length x.good p b
 have hs1 := x.good.size
 have hpg := x.good.pages
 have hlo := x.good.laid p
 have hop := x.good.ops
 obtain ⟨sz, hsz⟩ : ∃ q, s.size = q := ⟨_, rfl⟩
 obtain ⟨np, hnp⟩ : ∃ q, s.pages = q := ⟨_, rfl⟩
 have hhl : h < w.heap.size := x.blk.lt
 have hgl : gl < w.heap.size := x.lot.lt
 have HL : Hid ((agoL s p b).length = sz ∧ h < w.heap.size ∧ gl < w.heap.size ∧ Bytes (agoL s p b)) := ⟨by rw [← hsz]; exact hL, hhl, hgl, HBy⟩
 have hr := x.row p hp
 rw [hsz] at c0
 rw [hnp] at c1
 have HZ : Hid (s.size = sz ∧ s.pages = np) := ⟨hsz, hnp⟩
 have i1 : (0 : Int) ≤ (p : Int) := by omega
 have i2 : (p : Int) < (np : Int) := by omega
 have mk := mk_bytes sz (by omega)
 have B0 : Hid (Blk (w.alloc (.cells (madeCells #[.int .u8 0] sz) 5)) w.heap.size 5 (u8s (List.replicate sz 0)) ∧ Below w.heap.size w (w.alloc (.cells (madeCells #[.int .u8 0] sz) 5))) := ⟨by rw [← zeros_u8s]; exact made_blk _ _ _ _, (Below.refl _ _).alloc (Nat.le_refl _) _⟩
 have hsz4 : sz ≤ 4124 := by omega
 have hwg : w.heap.size ≠ h := by omega
 have hwl : w.heap.size ≠ gl := by omega
 clear hL hs1 hsz hnp HBy
 rcases hr with ⟨er, el⟩ | ⟨g, o, cap, vs, er, hbk, hM, hc, ho, hx⟩
 ·rw [er] at cp
  have HF : Hid (agoL s p b = List.replicate sz 0) := ago_zeros (by rw [el]; exact Nat.zero_le _) HZ.out.1
  clear er el x hlo hpg
  rcases (show b < 0 ∨ 0 ≤ b by omega) with h0 | h0
  all_goals
   go_enter Tryz.func207, Tryz.ntmps207
   go_wp2_with fail
   go_ret
   refine ⟨.slice (some ⟨w.heap.size, 0, none⟩) sz sz, rfl, ⟨w.heap.size, by rw [HF.out, List.length_replicate], by rw [HF.out]; exact B0.out.1, Nat.le_refl _, HL.out.2.2.2⟩, B0.out.2⟩
 ·rw [er] at cp
  obtain ⟨L, hLn⟩ : ∃ q, (s.laid p).length = q := ⟨_, rfl⟩
  rw [hLn] at cp hc hx hlo
  have hgg : g < w.heap.size := hbk.lt
  have hwb : w.heap.size ≠ g := by omega
  rcases (show L ≤ b.toNat ∨ ∃ j, L = j + b.toNat + 1 from by
   rcases Nat.lt_or_ge b.toNat L with h | h
   ·exact .inr ⟨L - 1 - b.toNat, by omega⟩
   ·exact .inl h) with hz | ⟨j, hj⟩
  ·have HF : Hid (agoL s p b = List.replicate sz 0) := ago_zeros (by rw [hLn]; exact hz) HZ.out.1
   clear er x hpg hx hLn hbk
   rcases (show b < 0 ∨ 0 ≤ b by omega) with h0 | h0
   ·obtain rfl : L = 0 := by omega
    clear hz
    go_enter Tryz.func207, Tryz.ntmps207
    go_wp2_with fail
    go_ret
    refine ⟨.slice (some ⟨w.heap.size, 0, none⟩) sz sz, rfl, ⟨w.heap.size, by rw [HF.out, List.length_replicate], by rw [HF.out]; exact B0.out.1, Nat.le_refl _, HL.out.2.2.2⟩, B0.out.2⟩
   ·have h1 : (L : Int) ≤ b := by omega
    clear hz
    go_enter Tryz.func207, Tryz.ntmps207
    go_wp2_with fail
    go_ret
    refine ⟨.slice (some ⟨w.heap.size, 0, none⟩) sz sz, rfl, ⟨w.heap.size, by rw [HF.out, List.length_replicate], by rw [HF.out]; exact B0.out.1, Nat.le_refl _, HL.out.2.2.2⟩, B0.out.2⟩
  ·have hF : agoL s p b = (s.laid p).getD j [] := ago_at (by rw [hLn]; exact hj)
   obtain ⟨bb, cc, e1, hr1, hMb, hBy, hle⟩ := hx j (by omega)
   rw [← hF] at e1 hr1 hBy hle
   rw [HL.out.1] at e1
   have cj : w.cell? ⟨g, o + j, none⟩ = some (.slice (some ⟨bb, 0, none⟩) sz cc) := by rw [hbk.cell, e1]
   have Z := HL.out.1
   obtain ⟨zs, hzs⟩ : ∃ q, agoL s p b = q := ⟨_, rfl⟩
   rw [hzs] at hr1 hBy Z
   have S1 := (Seen.of_row (n := sz) hr1 (by omega) (by omega) hBy).later B0.out.2 (Nat.le_refl _)
   rw [List.take_of_length_le (by omega)] at S1
   have HS : Hid (Seen (w.alloc (.cells (madeCells #[.int .u8 0] sz) 5)) (some ⟨bb, 0, none⟩) sz zs ∧ agoL s p b = zs ∧ zs.length = sz ∧ Bytes zs) := ⟨S1, hzs, Z, hBy⟩
   clear er x hpg hx hLn hbk e1 hr1 hBy hle Z S1 hF hzs hMb
   have HK : Hid (zs.take sz = zs) := List.take_of_length_le (by rw [HS.out.2.2.1]; exact Nat.le_refl _)
   rcases (show b < 0 ∨ 0 ≤ b by omega) with h0 | h0
   ·have e2 : (L : Int) - 1 = (j : Int) := by omega
    have e3 : (0 : Int) ≤ (j : Int) := by omega
    have e4 : (j : Int) < (L : Int) := by omega
    clear hj
    go_enter Tryz.func207, Tryz.ntmps207
    go_wp2_with (first | ((with_reducible show wpList _ _ _ (({ dst := some 35, op := _, type := _, pos := _, after := _, guard := _ } : Oper) :: _) _ _); refine wpList_copy_seen rfl _ _ rfl w.heap.size 0 sz sz _ _ sz cc rfl rfl zs HS.out.1 5 [] (u8s (List.replicate sz 0)) [] (by simpa using B0.out.1) rfl sz (Nat.min_self _) (by rw [u8s_length, List.length_replicate]) (fun _ => rfl) ?_; intro w2 b2 s2 k2))
    have R : Hid (Blk w2 w.heap.size 5 (u8s zs) ∧ Below w.heap.size w w2) := ⟨by rw [HK.out] at b2; simpa using b2, below_kept B0.out.2 k2 B0.out.2.size (fun j hj => by omega)⟩
    clear b2 s2 k2
    go_ret
    exact ⟨.slice (some ⟨w.heap.size, 0, none⟩) sz sz, rfl, ⟨w.heap.size, by rw [HS.out.2.1, HS.out.2.2.1], by rw [HS.out.2.1]; exact R.out.1, Nat.le_refl _, HL.out.2.2.2⟩, R.out.2⟩
   ·have e2 : (L : Int) - 1 - b = (j : Int) := by omega
    have e3 : (0 : Int) ≤ (j : Int) := by omega
    have e4 : (j : Int) < (L : Int) := by omega
    clear hj
    go_enter Tryz.func207, Tryz.ntmps207
    go_wp2_with (first | ((with_reducible show wpList _ _ _ (({ dst := some 35, op := _, type := _, pos := _, after := _, guard := _ } : Oper) :: _) _ _); refine wpList_copy_seen rfl _ _ rfl w.heap.size 0 sz sz _ _ sz cc rfl rfl zs HS.out.1 5 [] (u8s (List.replicate sz 0)) [] (by simpa using B0.out.1) rfl sz (Nat.min_self _) (by rw [u8s_length, List.length_replicate]) (fun _ => rfl) ?_; intro w2 b2 s2 k2))
    have R : Hid (Blk w2 w.heap.size 5 (u8s zs) ∧ Below w.heap.size w w2) := ⟨by rw [HK.out] at b2; simpa using b2, below_kept B0.out.2 k2 B0.out.2.size (fun j hj => by omega)⟩
    clear b2 s2 k2
    go_ret
    exact ⟨.slice (some ⟨w.heap.size, 0, none⟩) sz sz, rfl, ⟨w.heap.size, by rw [HS.out.2.1, HS.out.2.2.1], by rw [HS.out.2.1]; exact R.out.1, Nat.le_refl _, HL.out.2.2.2⟩, R.out.2⟩
def turnL (zs : List Int) (f : Fl) : List Int := if 0 ≤ f.b ∧ f.b < zs.length then zs.set f.b.toNat (bits .xor .u8 (zs.getD f.b.toNat 0) f.y) else zs
theorem turnL_length (zs : List Int) (f : Fl) : (turnL zs f).length = zs.length := by unfold turnL; split <;> simp
theorem turn_any (g : Nat) (zs : List Int) (f : Fl) (hf : f.Good) (hz : Bytes zs) (hl : zs.length ≤ 1048576) (w : World) (x : Blk w g 5 (u8s zs)) :
  Calls Tryz.prog 208 #[.slice (some ⟨g, 0, none⟩) zs.length zs.length, .agg (flC f).toArray] w fun e w' => e = .returned (.tuple #[]) ∧ Blk w' g 5 (u8s (turnL zs f)) ∧ Kept (fun k => k = g) w w' := by
 have X : Hid (Blk w g 5 (u8s zs)) := x
 have hg : g < w.heap.size := x.lt
 have hgw : w.heap.size ≠ g := by omega
 have hb3 := hf.2.2.2.1
 have hy := hf.2.2.2.2.1
 obtain ⟨n, hn⟩ : ∃ n, zs.length = n := ⟨_, rfl⟩
 rw [hn] at hl ⊢
 have HN : Hid (zs.length = n) := hn
 clear hn hf
 rcases (show f.b < 0 ∨ (n : Int) ≤ f.b ∧ 0 ≤ f.b ∨ (0 ≤ f.b ∧ f.b < (n : Int)) by omega) with h0 | ⟨h0, h1⟩ | ⟨h0, h1⟩
 ·have HF : Hid (turnL zs f = zs) := if_neg (by omega)
  clear x
  go_enter Tryz.func208, Tryz.ntmps208
  go_wp2_with (first | (refine wpList_box_new rfl 163 _ rfl (flC f) rfl ?_; intro w1 b1 s1 l1; have c3 : w1.cell? ⟨w.heap.size, 3, none⟩ = some (.int .i64 f.b) := b1.cell 3))
  go_end0
  exact ⟨rfl, by rw [HF.out]; exact X.out.later l1 X.out.lt, Kept.new _ l1⟩
 ·have HF : Hid (turnL zs f = zs) := if_neg (by have := HN.out; omega)
  clear x
  go_enter Tryz.func208, Tryz.ntmps208
  go_wp2_with (first | (refine wpList_box_new rfl 163 _ rfl (flC f) rfl ?_; intro w1 b1 s1 l1; have c3 : w1.cell? ⟨w.heap.size, 3, none⟩ = some (.int .i64 f.b) := b1.cell 3))
  go_end0
  exact ⟨rfl, by rw [HF.out]; exact X.out.later l1 X.out.lt, Kept.new _ l1⟩
 ·obtain ⟨j, hj⟩ : ∃ j : Nat, f.b = (j : Int) := ⟨f.b.toNat, by omega⟩
  obtain ⟨z, hzz⟩ : ∃ z, zs.getD j 0 = z := ⟨_, rfl⟩
  have HF : Hid (turnL zs f = zs.set j (bits .xor .u8 z f.y)) := by
   have e : turnL zs f = zs.set f.b.toNat (bits .xor .u8 (zs.getD f.b.toNat 0) f.y) := if_pos ⟨h0, by have := HN.out; omega⟩
   rw [hj, Int.toNat_natCast, hzz] at e; exact e
  have cz : w.cell? ⟨g, j, none⟩ = some (.int .u8 z) := by rw [← hzz]; exact u8s_cell x j (by have := HN.out; omega)
  have fz : w.frozen? ⟨g, j, none⟩ = false := x.frozen j
  have bz := hz.at j (by have := HN.out; omega)
  rw [hzz] at bz
  clear x hzz
  have h1' : (j : Int) < (n : Int) := by omega
  have h0' : (0 : Int) ≤ (j : Int) := by omega
  have HJ : Hid (f.b = (j : Int)) := hj
  clear hj h0 h1 hb3
  go_enter Tryz.func208, Tryz.ntmps208
  go_wp2_with (first | (refine wpList_box_new rfl 163 _ rfl (flC f) rfl ?_; intro w1 b1 s1 l1; have c3 : w1.cell? ⟨w.heap.size, 3, none⟩ = some (.int .i64 j) := by { rw [b1.cell 3, ← HJ.out]; rfl }; have c4 : w1.cell? ⟨w.heap.size, 4, none⟩ = some (.int .u8 f.y) := b1.cell 4; have cz1 : w1.cell? ⟨g, j, none⟩ = some (.int .u8 z) := (l1.cell (p := ⟨g, j, none⟩) hg).trans cz; have fz1 : w1.frozen? ⟨g, j, none⟩ = false := (X.out.later l1 X.out.lt).frozen j))
  go_region_with (fail)
  all_goals
   go_end0
   have B2 := (X.out.later l1 X.out.lt).set j (.int .u8 (bits .xor .u8 z f.y))
   rw [u8s_set] at B2
   exact ⟨rfl, by rw [HF.out]; exact B2.drew, ((Kept.new (fun k => k = g) l1).setCell (p := ⟨g, j, none⟩) rfl _).drew⟩
def spL (s : HSt) (p : Nat) (z : List Int) (f : Fl) : List Int :=
 if f.k = 0 then turnL z f else if f.k = 1 then agoL s p f.c else if f.k = 2 ∧ hasP s f.p then agoL s f.p.toNat 0 else z
def spoL (s : HSt) (p : Nat) (fs : List Fl) : List Int := fs.foldl (spL s p) (agoL s p 0)
theorem spL_length {s : HSt} (g : s.Good) (p : Nat) (z : List Int) (f : Fl) (h : z.length = s.size) : (spL s p z f).length = s.size := by
 unfold spL
 split
 ·rw [turnL_length, h]
 ·split
  ·exact agoL_length g _ _
  ·split
   ·exact agoL_length g _ _
   ·exact h
theorem spoL_take {s : HSt} (p : Nat) (fs : List Fl) (k : Nat) (hk : k < fs.length) : spoL s p (fs.take (k + 1)) = spL s p (spoL s p (fs.take k)) (fs.getD k default) := by
 unfold spoL
 rw [List.take_succ_eq_append_getElem hk, List.foldl_append]
 simp [List.getD, hk]
theorem spoL_length {s : HSt} (g : s.Good) (p : Nat) (fs : List Fl) : (spoL s p fs).length = s.size := by
 unfold spoL
 have : ∀ (l : List Fl) (z : List Int), z.length = s.size → (l.foldl (spL s p) z).length = s.size := by
  intro l
  induction l with
  | nil => intro z hz; exact hz
  | cons f l ih => intro z hz; exact ih _ (spL_length g p z f hz)
 exact this fs _ (agoL_length g p 0)
theorem xor8 (x y : Int) (hx : 0 ≤ x ∧ x < 256) (hy : 0 ≤ y ∧ y < 256) : 0 ≤ bits .xor .u8 x y ∧ bits .xor .u8 x y < 256 := by
 have h1 : x.toNat ^^^ y.toNat < 2 ^ 8 := Nat.xor_lt_two_pow (by omega) (by omega)
 rw [u8_xor x y hx.1 hx.2 hy.1 hy.2]
 omega
theorem turnL_bytes {z : List Int} {f : Fl} (hz : Bytes z) (hf : f.Good) : Bytes (turnL z f) := by
 unfold turnL
 split
 ·next h =>
  intro y hy
  rcases List.mem_or_eq_of_mem_set hy with h1 | rfl
  ·exact hz y h1
  ·exact xor8 _ _ (hz.at _ (by omega)) hf.2.2.2.2.1
 ·exact hz
theorem spoilt_any (h : Nat) (s : HSt) (p : Nat) (hp : p < s.pages) (v : Value) (fs : List Fl) (M : Nat → Prop) (w : World) (x : HostAt w M h s) (y : FlS w M v fs) :
  Calls Tryz.prog 201 #[.pointer (some ⟨h, 0, none⟩), .int .i64 p, v] w fun e w' => ∃ v, e = .returned v ∧ NewB w w' v (spoL s p fs) ∧ Below w.heap.size w w' := by
 obtain ⟨ao, c, rfl, hx⟩ := y.ex
 have G : Hid s.Good := by obtain ⟨_, _, _, _, _, _, x⟩ := x; exact x.good
 have X : Hid (HostAt w M h s ∧ FlS w M (.slice ao fs.length c) fs ∧ p < s.pages) := ⟨x, y, hp⟩
 have HX : Hid (∀ i, i < fs.length → ∃ b o, ao = some ⟨b, o, none⟩ ∧ b < w.heap.size ∧ M b ∧ w.rangeAt b (o + i * 6) (flC (fs.getD i default))) := hx
 have ht := y.top
 have CA : Hid (∀ (W : World), Below w.heap.size w W → ∀ (q : Nat) (b : Int), q < s.pages → I64 b → Calls Tryz.prog 207 #[.pointer (some ⟨h, 0, none⟩), .int .i64 q, .int .i64 b] W fun e w' => ∃ v, e = .returned v ∧ NewB W w' v (agoL s q b) ∧ Below W.heap.size W w') :=
  fun W hW q b hq hb => ago_any h s q b hq hb M W (X.out.1.later hW)
 have CH : Hid (∀ (W : World), Below w.heap.size w W → ∀ (q : Int), Calls Tryz.prog 204 #[.pointer (some ⟨h, 0, none⟩), .int .i64 q] W fun e w' => e = .returned (.bool (hasP s q)) ∧ W = w') :=
  fun W hW q => has_any h s q M W (X.out.1.later hW)
 have C0 := CA.out w (Below.refl _ _) p 0 hp (by decide)
 clear x y hx
 obtain ⟨n, hn⟩ : ∃ n, fs.length = n := ⟨_, rfl⟩
 rw [hn] at ht ⊢
 have HN : Hid (fs.length = n) := hn
 clear hn hp
 go_enter Tryz.func201, Tryz.ntmps201
 go_wp2_with (go_at_call 207; refine C0.mono ?_; rintro e w1 ⟨v1, rfl, n1, l1⟩)
 go_loopw [7, 15] (fun b i wr => ∃ k : Nat, k ≤ n ∧ i = .int .i64 k ∧ Below w.heap.size w wr ∧ NewB w wr b (spoL s p (fs.take k))) (fun _ i _ => n - (intOf i).toNat)
 case atStart => exact ⟨0, Nat.zero_le _, rfl, l1, n1⟩
 case round =>
  obtain ⟨k, hk, rfl, hbel, hnb⟩ := hrel
  obtain ⟨g, rfl, hbk, hgw, hby⟩ := hnb
  have hlz := spoL_length G.out p (fs.take k)
  rw [hlz]
  obtain ⟨zs, hzs⟩ : ∃ q, spoL s p (fs.take k) = q := ⟨_, rfl⟩
  rw [hzs] at hbk hby hlz
  obtain ⟨sz, hsz⟩ : ∃ q, s.size = q := ⟨_, rfl⟩
  rw [hsz] at hlz ⊢
  have hs4 : sz ≤ 4124 := by rw [← hsz]; exact G.out.size.2
  by_cases hlt : k < n
  ·obtain ⟨b, o, rfl, hbl, _, hrg⟩ := HX.out k (by rw [HN.out]; exact hlt)
   have hlt' : k < fs.length := by rw [HN.out]; exact hlt
   obtain ⟨f, hf⟩ : ∃ f, fs.getD k default = f := ⟨_, rfl⟩
   rw [hf] at hrg
   have hg : f.Good := by rw [← hf]; exact Fl.good_at X.out.2.1.good k hlt'
   have hst : spoL s p (fs.take (k + 1)) = spL s p zs f := by rw [spoL_take p fs k hlt', hzs, hf]
   have HB : Hid (Below w.heap.size w wr ∧ wr.rangeAt b (o + k * 6) (flC f) ∧ Blk wr g 5 (u8s zs) ∧ w.heap.size ≤ g ∧ g < wr.heap.size ∧ Bytes zs ∧ f.Good ∧ spoL s p (fs.take (k + 1)) = spL s p zs f ∧ zs.length = sz ∧ s.size = sz) := ⟨hbel, rangeAt_same hrg (hbel.block b hbl), hbk, hgw, hbk.lt, hby, hg, hst, hlz, hsz⟩
   have HE : Hid (∀ (v : Value) (W W' : World), Below w.heap.size w W → NewB W W' v (spL s p zs f) → Below W.heap.size W W' → NewB w W' v (spoL s p (fs.take (k + 1))) ∧ Below w.heap.size w W') := fun v W W' h1 h2 h3 => by
    obtain ⟨q, e1, e2, e3, e4⟩ := h2
    exact ⟨⟨q, by rw [hst]; exact e1, by rw [hst]; exact e2, Nat.le_trans h1.size e3, by rw [hst]; exact e4⟩, below_chain h1 h3 h1.size⟩
   have i1 : (0 : Int) ≤ (k : Int) := by omega
   have i2 : (k : Int) < (n : Int) := by omega
   clear hbl hrg hf hg hst hbk hgw hby hlt' hbel hzs hlz hsz
   rcases (show f.k = 0 ∨ f.k = 1 ∨ (f.k = 2 ∧ hasP s f.p = true) ∨ (f.k = 2 ∧ hasP s f.p = false) ∨ (f.k ≠ 0 ∧ f.k ≠ 1 ∧ f.k ≠ 2) by
    cases hasP s f.p <;> simp <;> omega) with h0 | h0 | ⟨h0, h1⟩ | ⟨h0, h1⟩ | ⟨h0, h1, h2⟩
   ·have q0 : (f.k == 0) = true := by simp [h0]
    have HF : Hid (spL s p zs f = turnL zs f) := if_pos h0
    clear h0
    go_wp2_with (first | (refine wpList_load_mid rfl 163 (.tmp 17) rfl b (o + k * 6) rfl (flC f) _ HB.out.2.1 Tryz.underlying163 rfl (sizeFl f) ?_) | (refine wpList_alloc_new rfl 163 rfl 6 _ zeroFl ?_; intro w4 b4 s4 l4) | (refine wpList_store_blk rfl 163 163 (.tmp 9) _ rfl _ rfl _ (flC f) rfl b4 rfl (sizeFl f) (flC_one f) ?_; intro w5 b5 s5 k5; have c1 : w5.cell? ⟨wr.heap.size, 1, none⟩ = some (.int .i64 f.k) := b5.cell 1) | (refine wpList_load_blk rfl 163 (.tmp 9) rfl _ rfl (flC f) _ b5 Tryz.underlying163 rfl (sizeFl f) ?_))
    have U5 : Hid (Below wr.heap.size wr w5) := below_kept l4 k5 (by omega) (fun j hj => by omega)
    have CT := turn_any g zs f HB.out.2.2.2.2.2.2.1 HB.out.2.2.2.2.2.1 (by rw [HB.out.2.2.2.2.2.2.2.2.1]; omega) w5 (HB.out.2.2.1.later U5.out HB.out.2.2.2.2.1)
    rw [HB.out.2.2.2.2.2.2.2.2.1] at CT
    refine CT.mono ?_
    rintro e w6 ⟨rfl, b6, k6⟩
    have R : Hid (NewB w w6 (.slice (some ⟨g, 0, none⟩) sz sz) (spoL s p (fs.take (k + 1))) ∧ Below w.heap.size w w6) := by
     refine ⟨⟨g, ?_, ?_, HB.out.2.2.2.1, ?_⟩, below_kept (below_chain HB.out.1 U5.out HB.out.1.size) k6 (by have := U5.out.size; have := HB.out.1.size; omega) (fun j hj => by have := HB.out.2.2.2.1; omega)⟩
     ·rw [HB.out.2.2.2.2.2.2.2.1, HF.out, turnL_length, HB.out.2.2.2.2.2.2.2.2.1]
     ·rw [HB.out.2.2.2.2.2.2.2.1, HF.out]; exact b6
     ·rw [HB.out.2.2.2.2.2.2.2.1, HF.out]; exact turnL_bytes HB.out.2.2.2.2.2.1 HB.out.2.2.2.2.2.2.1
    clear b4 s4 l4 b5 s5 k5 c1 b6 k6 U5 CT
    go_wp2
    go_roundw
    case rel => exact ⟨k + 1, by omega, by go_num, R.out.2, R.out.1⟩
    case measure => simp [intOf] <;> omega
   ·have q0 : (f.k == 0) = false := by simp [h0]
    have q1 : (f.k == 1) = true := by simp [h0]
    have HF : Hid (spL s p zs f = agoL s p f.c) := by
     have : spL s p zs f = agoL s p f.c := by unfold spL; rw [if_neg (by omega), if_pos h0]
     exact this
    clear h0
    go_wp2_with (first | (refine wpList_load_mid rfl 163 (.tmp 17) rfl b (o + k * 6) rfl (flC f) _ HB.out.2.1 Tryz.underlying163 rfl (sizeFl f) ?_) | (refine wpList_alloc_new rfl 163 rfl 6 _ zeroFl ?_; intro w4 b4 s4 l4) | (refine wpList_store_blk rfl 163 163 (.tmp 9) _ rfl _ rfl _ (flC f) rfl b4 rfl (sizeFl f) (flC_one f) ?_; intro w5 b5 s5 k5; have c1 : w5.cell? ⟨wr.heap.size, 1, none⟩ = some (.int .i64 f.k) := b5.cell 1; have c5 : w5.cell? ⟨wr.heap.size, 5, none⟩ = some (.int .i64 f.c) := b5.cell 5))
    have U5 : Hid (Below w.heap.size w w5) := below_chain HB.out.1 (below_kept l4 k5 (by omega) (fun j hj => by omega)) HB.out.1.size
    refine (CA.out w5 U5.out p f.c X.out.2.2 HB.out.2.2.2.2.2.2.1.2.2.2.2.2).mono ?_
    rintro e w6 ⟨v6, rfl, n6, l6⟩
    have R : Hid (NewB w w6 v6 (spoL s p (fs.take (k + 1))) ∧ Below w.heap.size w w6) := HE.out v6 w5 w6 U5.out (by rw [HF.out]; exact n6) l6
    clear c5
    clear b4 s4 l4 b5 s5 k5 c1 n6 l6 U5
    go_wp2
    go_roundw
    case rel => exact ⟨k + 1, by omega, by go_num, R.out.2, R.out.1⟩
    case measure => simp [intOf] <;> omega
   ·have q0 : (f.k == 0) = false := by simp [h0]
    have q1 : (f.k == 1) = false := by simp [h0]
    have q2 : (f.k == 2) = true := by simp [h0]
    obtain ⟨q, hq⟩ : ∃ q : Nat, f.p = (q : Int) := ⟨f.p.toNat, by simp [hasP] at h1; omega⟩
    have HQ : Hid (f.p = (q : Int) ∧ q < s.pages) := ⟨hq, by simp [hasP] at h1; omega⟩
    have HF : Hid (spL s p zs f = agoL s q 0) := by
     have : spL s p zs f = agoL s q 0 := by unfold spL; rw [if_neg (by omega), if_neg (by omega), if_pos ⟨h0, h1⟩, hq, Int.toNat_natCast]
     exact this
    have C5 := fun W hW => CH.out W hW f.p
    rw [h1, hq] at C5
    clear h0 h1 hq
    go_wp2_with (first | (refine wpList_load_mid rfl 163 (.tmp 17) rfl b (o + k * 6) rfl (flC f) _ HB.out.2.1 Tryz.underlying163 rfl (sizeFl f) ?_) | (refine wpList_alloc_new rfl 163 rfl 6 _ zeroFl ?_; intro w4 b4 s4 l4) | (refine wpList_store_blk rfl 163 163 (.tmp 9) _ rfl _ rfl _ (flC f) rfl b4 rfl (sizeFl f) (flC_one f) ?_; intro w5 b5 s5 k5; have c1 : w5.cell? ⟨wr.heap.size, 1, none⟩ = some (.int .i64 f.k) := b5.cell 1; have c2 : w5.cell? ⟨wr.heap.size, 2, none⟩ = some (.int .i64 q) := by { rw [b5.cell 2, ← HQ.out.1]; rfl }) | (go_at_call 204; refine (C5 w5 (below_chain HB.out.1 (below_kept l4 k5 (by omega) (fun j hj => by omega)) HB.out.1.size)).mono ?_; rintro e _ ⟨rfl, rfl⟩))
    have U5 : Hid (Below w.heap.size w w5) := below_chain HB.out.1 (below_kept l4 k5 (by omega) (fun j hj => by omega)) HB.out.1.size
    refine (CA.out w5 U5.out q 0 HQ.out.2 (by decide)).mono ?_
    rintro e w6 ⟨v6, rfl, n6, l6⟩
    have R : Hid (NewB w w6 v6 (spoL s p (fs.take (k + 1))) ∧ Below w.heap.size w w6) := HE.out v6 w5 w6 U5.out (by rw [HF.out]; exact n6) l6
    clear c2
    clear b4 s4 l4 b5 s5 k5 c1 n6 l6 U5
    go_wp2
    go_roundw
    case rel => exact ⟨k + 1, by omega, by go_num, R.out.2, R.out.1⟩
    case measure => simp [intOf] <;> omega
   ·have q0 : (f.k == 0) = false := by simp [h0]
    have q1 : (f.k == 1) = false := by simp [h0]
    have q2 : (f.k == 2) = true := by simp [h0]
    have HF : Hid (spL s p zs f = zs) := by
     have : spL s p zs f = zs := by unfold spL; rw [if_neg (by omega), if_neg (by omega), if_neg (by rw [h1]; simp)]
     exact this
    have C5 := fun W hW => CH.out W hW f.p
    rw [h1] at C5
    clear h0 h1
    go_wp2_with (first | (refine wpList_load_mid rfl 163 (.tmp 17) rfl b (o + k * 6) rfl (flC f) _ HB.out.2.1 Tryz.underlying163 rfl (sizeFl f) ?_) | (refine wpList_alloc_new rfl 163 rfl 6 _ zeroFl ?_; intro w4 b4 s4 l4) | (refine wpList_store_blk rfl 163 163 (.tmp 9) _ rfl _ rfl _ (flC f) rfl b4 rfl (sizeFl f) (flC_one f) ?_; intro w5 b5 s5 k5; have c1 : w5.cell? ⟨wr.heap.size, 1, none⟩ = some (.int .i64 f.k) := b5.cell 1; have c2 : w5.cell? ⟨wr.heap.size, 2, none⟩ = some (.int .i64 f.p) := b5.cell 2) | (go_at_call 204; refine (C5 w5 (below_chain HB.out.1 (below_kept l4 k5 (by omega) (fun j hj => by omega)) HB.out.1.size)).mono ?_; rintro e _ ⟨rfl, rfl⟩))
    have R : Hid (NewB w w5 (.slice (some ⟨g, 0, none⟩) sz sz) (spoL s p (fs.take (k + 1))) ∧ Below w.heap.size w w5) := by
     have U4 : Below wr.heap.size wr w5 := below_kept l4 k5 (by omega) (fun j hj => by omega)
     refine ⟨⟨g, ?_, ?_, HB.out.2.2.2.1, ?_⟩, below_chain HB.out.1 U4 HB.out.1.size⟩
     ·rw [HB.out.2.2.2.2.2.2.2.1, HF.out, HB.out.2.2.2.2.2.2.2.2.1]
     ·rw [HB.out.2.2.2.2.2.2.2.1, HF.out]; exact HB.out.2.2.1.later U4 HB.out.2.2.2.2.1
     ·rw [HB.out.2.2.2.2.2.2.2.1, HF.out]; exact HB.out.2.2.2.2.2.1
    clear c2
    clear b4 s4 l4 b5 s5 k5 c1
    go_roundw
    case rel => exact ⟨k + 1, by omega, by go_num, R.out.2, R.out.1⟩
    case measure => simp [intOf] <;> omega
   ·have q0 : (f.k == 0) = false := by simp [h0]
    have q1 : (f.k == 1) = false := by simp [h1]
    have q2 : (f.k == 2) = false := by simp [h2]
    have HF : Hid (spL s p zs f = zs) := by
     have : spL s p zs f = zs := by unfold spL; rw [if_neg h0, if_neg h1, if_neg (fun h => h2 h.1)]
     exact this
    clear h0 h1 h2
    go_wp2_with (first | (refine wpList_load_mid rfl 163 (.tmp 17) rfl b (o + k * 6) rfl (flC f) _ HB.out.2.1 Tryz.underlying163 rfl (sizeFl f) ?_) | (refine wpList_alloc_new rfl 163 rfl 6 _ zeroFl ?_; intro w4 b4 s4 l4) | (refine wpList_store_blk rfl 163 163 (.tmp 9) _ rfl _ rfl _ (flC f) rfl b4 rfl (sizeFl f) (flC_one f) ?_; intro w5 b5 s5 k5; have c1 : w5.cell? ⟨wr.heap.size, 1, none⟩ = some (.int .i64 f.k) := b5.cell 1))
    have R : Hid (NewB w w5 (.slice (some ⟨g, 0, none⟩) sz sz) (spoL s p (fs.take (k + 1))) ∧ Below w.heap.size w w5) := by
     have U4 : Below wr.heap.size wr w5 := below_kept l4 k5 (by omega) (fun j hj => by omega)
     refine ⟨⟨g, ?_, ?_, HB.out.2.2.2.1, ?_⟩, below_chain HB.out.1 U4 HB.out.1.size⟩
     ·rw [HB.out.2.2.2.2.2.2.2.1, HF.out, HB.out.2.2.2.2.2.2.2.2.1]
     ·rw [HB.out.2.2.2.2.2.2.2.1, HF.out]; exact HB.out.2.2.1.later U4 HB.out.2.2.2.2.1
     ·rw [HB.out.2.2.2.2.2.2.2.1, HF.out]; exact HB.out.2.2.2.2.2.1
    clear b4 s4 l4 b5 s5 k5 c1
    go_roundw
    case rel => exact ⟨k + 1, by omega, by go_num, R.out.2, R.out.1⟩
    case measure => simp [intOf] <;> omega
  ·obtain rfl : k = n := by omega
   have HF : Hid (spoL s p fs = zs ∧ Below w.heap.size w wr ∧ Blk wr g 5 (u8s zs) ∧ w.heap.size ≤ g ∧ Bytes zs ∧ zs.length = sz) := ⟨by
    rw [← hzs, List.take_of_length_le (by rw [HN.out]; exact Nat.le_refl _)], hbel, hbk, hgw, hby, hlz⟩
   clear hbel hzs hbk hgw hby hk hlz hsz
   go_wp2
   go_ret
   exact ⟨.slice (some ⟨g, 0, none⟩) sz sz, rfl, ⟨g, by rw [HF.out.1, HF.out.2.2.2.2.2], by rw [HF.out.1]; exact HF.out.2.2.1, HF.out.2.2.2.1, by rw [HF.out.1]; exact HF.out.2.2.2.2.1⟩, HF.out.2.1⟩
def HSt.past (s : HSt) : HSt := { s with coming := fun k => if k = s.ops then [] else s.coming k }
theorem map_ne {w : World} {gm n : Nat} {D : DataW Value} (x : w.ownsMap Tryz.prog 3 heldR gm n D) {g : Nat} {t : TypeId} {vs : List Value} (hb : Blk w g t vs) : g ≠ gm := fun e => by
 subst e
 obtain ⟨es, clock, h1, _⟩ := x
 unfold Blk at hb
 rw [h1] at hb
 cases hb
theorem RowP.isBlk {w : World} {M : Nat → Prop} {v : Value} {L : List (List Int)} (h : RowP w M v L) {b : Nat} (hb : rowBlk v = some b) : ∃ vs, Blk w b 37 vs := by
 rcases h with ⟨rfl, _⟩ | ⟨g, o, cap, vs, rfl, hk, _⟩
 ·cases hb
 ·cases hb; exact ⟨vs, hk⟩
theorem HostIn.past {w w' : World} {M : Nat → Prop} {h : Nat} {s : HSt} {gl gm : Nat} {lg : Value} {rws : List Value} {n : Nat} {D : DataW Value} (x : HostIn w M h s gl gm lg rws n D)
  (hm : w'.ownsMap Tryz.prog 3 heldR gm n (D.del (.int .i64 s.ops))) (hg : w.grownBy w' (some gm)) : HostIn w' M h s.past gl gm lg rws n (D.del (.int .i64 s.ops)) ∧ FlS w' M (lookV D s.ops) (s.coming s.ops) ∧ Kept (fun k => k = gm) w w' := by
 have hk : Kept (fun k => k = gm) w w' := ⟨hg.os, hg.tape, hg.output, hg.size, fun k hk hs => hg.block k hk (fun e => hs (Option.some.inj e))⟩
 have ne : ∀ {t : TypeId} (b : Nat) (vs : List Value), Blk w b t vs → ¬ b = gm := fun b vs hb => map_ne x.map hb
 refine ⟨⟨⟨x.good.size, x.good.pages, x.good.depth, x.good.reg, x.good.ops, x.good.log, x.good.laid, x.good.len⟩, x.blk.kept hk (ne _ _ x.blk), x.lot.kept hk (ne _ _ x.lot), x.cnt, x.mh, x.ml, x.mm, hm, fun k => ?_, log_kept x.log hk ne, fun p hp => row_kept (x.row p hp) hk (fun b hb => ?_) ne, x.apart, fun k hk => Nat.lt_of_lt_of_le (x.all k hk) hg.size⟩, (com_kept (x.com _) hk ne).mono (fun k hk => hk.1), hk⟩
 ·by_cases e : k = s.ops
  ·subst e
   rw [lookV_del, show s.past.coming s.ops = [] from if_pos rfl]
   exact FlS.nil _ _
  ·rw [lookV_del_other _ _ e, show s.past.coming k = s.coming k from if_neg e]
   exact com_kept (x.com k) hk ne
 ·obtain ⟨vs, hv⟩ := (x.row p hp).isBlk hb
  exact ne _ _ hv
theorem HostIn.turned {w w' : World} {M : Nat → Prop} {h : Nat} {s : HSt} {gl gm : Nat} {lg : Value} {rws : List Value} {n : Nat} {D : DataW Value} (x : HostIn w M h s gl gm lg rws n D) (s' : HSt)
  (g : s'.Good) (e1 : s'.pages = s.pages) (e2 : s'.coming = s.coming) (e3 : s'.laid = s.laid) (e4 : s'.log = s.log) (b : Blk w' h 102 (hostC s' gl gm lg)) (hk : Kept (fun k => k = h) w w') : HostIn w' M h s' gl gm lg rws n D := by
 have ne : ∀ {t : TypeId}, t ≠ 102 → ∀ (b : Nat) (vs : List Value), Blk w b t vs → ¬ b = h := fun ht b vs hb => blk_ne hb x.blk ht
 refine ⟨g, b, x.lot.kept hk (ne (by decide) _ _ x.lot), by rw [e1]; exact x.cnt, x.mh, x.ml, x.mm, ownsMap_same x.map (hk.block _ x.map.lt (map_ne x.map x.blk).symm), fun k => by rw [e2]; exact com_kept (x.com k) hk (ne (by decide)), by rw [e4]; exact log_kept x.log hk (ne (by decide)), fun p hp => ?_, by rw [e1]; exact x.apart, fun k hk' => Nat.lt_of_lt_of_le (x.all k hk') hk.size⟩
 rw [e1] at hp
 rw [e3]
 exact row_kept (x.row p hp) hk (fun b hb => by
  obtain ⟨vs, hv⟩ := (x.row p hp).isBlk hb
  exact ne (by decide) _ _ hv) (ne (by decide))
theorem i64_ops {s : HSt} (g : s.Good) : I64 (s.ops : Int) := by have := g.ops; constructor <;> omega
theorem bef_any (h : Nat) (s : HSt) (M : Nat → Prop) (gl gm : Nat) (lg : Value) (rws : List Value) (n : Nat) (D : DataW Value) (w : World) (x : HostIn w M h s gl gm lg rws n D) :
  Calls Tryz.prog 205 #[.pointer (some ⟨h, 0, none⟩)] w fun e w' => e = .returned (lookV D s.ops) ∧ HostIn w' M h s.past gl gm lg rws n (D.del (.int .i64 s.ops)) ∧ FlS w' M (lookV D s.ops) (s.coming s.ops) ∧ Kept (fun k => k = gm) w w' := by
 have X : Hid (HostIn w M h s gl gm lg rws n D) := x
 have c4 : w.cell? ⟨h, 4, none⟩ = some (.map (some gm)) := x.blk.cell 4
 have c5 : w.cell? ⟨h, 5, none⟩ = some (.int .i64 s.ops) := x.blk.cell 5
 have hlk := look_at x.map (i64_ops x.good)
 obtain ⟨v, hv⟩ : ∃ q, lookV D s.ops = q := ⟨_, rfl⟩
 rw [hv] at hlk
 have HV : Hid (lookV D s.ops = v) := hv
 rw [hv]
 clear x hv
 have HL : Hid (∀ k, (Instr.lookup 100 (.map (some gm)) (.int .i64 s.ops) false).run Tryz.prog (w.drewN k) = .ok v (w.drewN k)) := fun k => by
  have := look_at (w := w.drewN k) X.out.map (i64_ops X.out.good)
  rw [HV.out] at this
  exact this
 go_enter Tryz.func205, Tryz.ntmps205
 have hl1 : (Instr.lookup 100 (.map (some gm)) (.int .i64 s.ops) false).run Tryz.prog w.drew = .ok v w.drew := HL.out 1
 have own2 : w.drew.drew.ownsMap Tryz.prog 3 heldR gm n D := X.out.map
 obtain ⟨w2, hd2, m2, t2⟩ := own2.drop keysI Tryz.underlying100 (Maps.keyOf_int_mk Tryz.underlying3 (wf_of_i64 (i64_ops X.out.good))) 0
 have R : Hid (HostIn w2 M h s.past gl gm lg rws n (D.del (.int .i64 s.ops)) ∧ FlS w2 M (lookV D s.ops) (s.coming s.ops) ∧ Kept (fun k => k = gm) w w2) := by
  have q := t2.grown
  exact X.out.past m2 ⟨q.os, q.tape, q.output, q.size, q.block⟩
 clear own2 m2 t2
 go_wp2_with fail
 go_region_with (fail)
 all_goals
  go_wp2_with fail
  go_region_with (fail)
  all_goals
   go_wp2_with fail
   go_ret
   exact ⟨rfl, R.out.1, by rw [← HV.out]; exact R.out.2.1, R.out.2.2⟩
def more (M : Nat → Prop) (w w' : World) (k : Nat) : Prop := M k ∨ (w.heap.size ≤ k ∧ k < w'.heap.size)
theorem rows_elem {L : List (List Int)} {z : List Int} {i : Nat} (hi : i < (L ++ [z]).length) : (i < L.length ∧ (L ++ [z]).getD i [] = L.getD i []) ∨ (i = L.length ∧ (L ++ [z]).getD i [] = z) := by
 rcases Nat.lt_or_ge i L.length with h | h
 ·exact .inl ⟨h, by simp [List.getD, List.getElem?_append, h]⟩
 ·obtain rfl : i = L.length := by simp at hi; omega
  exact .inr ⟨rfl, by simp [List.getD]⟩
theorem row_append {w : World} {M : Nat → Prop} {v : Value} {L : List (List Int)} (x : RowP w M v L) (hM : ∀ k, M k → k < w.heap.size) (bb c : Nat) (z : List Int) (hz : RowAt w bb z) (hm : M bb) (hzb : Bytes z) (hzl : z.length ≤ 8192) (hL : L.length ≤ 3000000000000) :
  ∃ g o cap w', (Builtin.append_ #[33, 33] 33 #[v, .slice (some ⟨w.heap.size, 0, none⟩) 1 1]).run Tryz.prog (w.alloc (.cells #[.slice (some ⟨bb, 0, none⟩) z.length c] 37)) = .ok (.slice (some ⟨g, o, none⟩) (L.length + 1) cap) w' ∧
   RowP w' (more M w w') (.slice (some ⟨g, o, none⟩) (L.length + 1) cap) (L ++ [z]) ∧ Kept (fun k => rowBlk v = some k) w w' ∧ (rowBlk v = some g ∨ w.heap.size ≤ g) ∧ g < w'.heap.size := by
 obtain ⟨w0, hw0⟩ : ∃ q, w.alloc (.cells #[.slice (some ⟨bb, 0, none⟩) z.length c] 37) = q := ⟨_, rfl⟩
 have b0 : Below w.heap.size w w0 := by rw [← hw0]; exact (Below.refl _ _).alloc (Nat.le_refl _) _
 have s0 : w0.heap.size = w.heap.size + 1 := by rw [← hw0]; simp
 have n0 : ∀ j u, [Value.slice (some ⟨bb, 0, none⟩) z.length c][j]? = some u → w0.cell? ((⟨w.heap.size, 0, none⟩ : Addr).add j) = some u := by rw [← hw0]; exact cell_one_new w _ _
 rw [hw0]
 have hbb : bb < w.heap.size := hM bb hm
 obtain ⟨i0, hi, hz0, hz1, hz2⟩ := info_parts info_rowB
 have one : ∀ u ∈ [Value.slice (some ⟨bb, 0, none⟩) z.length c], u.oneCell' = true := by intro u hu; simp at hu; subst hu; rfl
 have L1 : [Value.slice (some ⟨bb, 0, none⟩) z.length c].length = 1 * i0.size := by rw [hz1]; rfl
 -- a new row
 have fresh : ∀ (olds : List Value) (cap : Nat), olds.length = L.length → L.length + 1 ≤ cap → (∀ i, i < L.length → ∃ b c, olds[i]? = some (.slice (some ⟨b, 0, none⟩) (L.getD i []).length c) ∧ RowAt w b (L.getD i []) ∧ M b ∧ Bytes (L.getD i []) ∧ (L.getD i []).length ≤ 8192) → ∀ (arr : Array Value), arr = olds.toArray ++ #[Value.slice (some ⟨bb, 0, none⟩) z.length c] ++ Builtin.zeroCells (Value.slice none 0 0).cells (cap - (L.length + 1)) →
   RowP (w0.drew.alloc (.cells arr 37)) (more M w (w0.drew.alloc (.cells arr 37))) (.slice (some ⟨w0.heap.size, 0, none⟩) (L.length + 1) cap) (L ++ [z]) ∧ Kept (fun k => rowBlk v = some k) w (w0.drew.alloc (.cells arr 37)) := by
  intro olds cap ho hc hx arr harr
  have kp : Below w.heap.size w (w0.drew.alloc (.cells arr 37)) := by
   have : Below w.heap.size w w0.drew := ⟨b0.os, b0.tape, b0.output, b0.size, b0.block⟩
   exact this.alloc this.size _
  have hs : (w0.drew.alloc (.cells arr 37)).heap.size = w.heap.size + 2 := by
   have : (w0.drew.alloc (.cells arr 37)).heap.size = w0.heap.size + 1 := by simp
   rw [this, s0]
  have hl : arr.toList.length = cap := by
   rw [harr]; simp [size_zeroCells, ho, Value.cells]; omega
  refine ⟨.inr ⟨w0.heap.size, 0, cap, arr.toList, by simp, ?_, .inr ⟨by omega, by omega⟩, by simp; omega, by omega, fun i hi => ?_⟩, Kept.new _ kp⟩
  ·unfold Blk; rw [Array.toArray_toList]; exact heap_alloc_new w0.drew _
  ·rw [Nat.zero_add]
   rcases rows_elem hi with ⟨h1, h2⟩ | ⟨h1, h2⟩
   ·obtain ⟨b, c', e1, hr, hmm, r⟩ := hx i h1
    refine ⟨b, c', ?_, ?_, .inl hmm, by rw [h2]; exact r⟩
    ·rw [h2, harr, ← e1, Array.getElem?_toList, Array.getElem?_append_left (by simp; omega), Array.getElem?_append_left (by simp; omega)]; simp
    ·rw [h2]; exact hr.later kp (Nat.le_refl _)
   ·refine ⟨bb, c, ?_, ?_, .inl hm, by rw [h2]; exact ⟨hzb, hzl⟩⟩
    ·rw [h2, harr, Array.getElem?_toList, Array.getElem?_append_left (by simp; omega), Array.getElem?_append_right (by simp; omega)]; simp [h1, ho]
    ·rw [h2]; exact hz.later kp (Nat.le_refl _)
 rcases x with ⟨rfl, rfl⟩ | ⟨g, o, cap, vs, rfl, hb, hMg, hc, ho, hx⟩
 ·have hr := run_append_nil (P := Tryz.prog) w0 33 33 37 i0 (.slice none 0 0) Tryz.underlying33 hi hz0 ⟨w.heap.size, 0, none⟩ 1 1 _ L1 n0 (by decide) (by decide) (by rw [hz2]; decide)
  have hg := fresh [] (grownCap w0 1 0 37) rfl (grownCap_ge w0 1 0 _) (fun i hi => by cases hi) _ rfl
  refine ⟨w0.heap.size, 0, grownCap w0 1 0 37, _, hr, ?_, ?_, .inr (by omega), ?_⟩
  ·simpa using hg.1
  ·simpa using hg.2
  ·simp
 ·have hgw : g < w.heap.size := hb.lt
  have hbw : Blk w0 g 37 vs := hb.later b0 hgw
  by_cases hroom : L.length + 1 ≤ cap
  ·have hr := run_append_room_src (P := Tryz.prog) w0 33 33 33 37 i0 Tryz.underlying33 hi g o L.length cap (.slice (some ⟨w.heap.size, 0, none⟩) 1 1) 1 _ (Src.ofSlice w0 Tryz.underlying33 ⟨w.heap.size, 0, none⟩ 1 1 _ L1 n0 one) hroom
    (fun j hj => by
     have : j = 0 := by simpa using hj
     subst this
     rw [hz1, Nat.mul_one, Nat.add_zero, hbw.cell, List.getElem?_eq_getElem (by omega)]; rfl) (fun j hj => hbw.frozen _)
   rw [hz1, Nat.mul_one] at hr
   have hs : w0.setCells g (o + L.length) [Value.slice (some ⟨bb, 0, none⟩) z.length c] = w0.setCell ⟨g, o + L.length, none⟩ (.slice (some ⟨bb, 0, none⟩) z.length c) := rfl
   rw [hs] at hr
   have hk : Kept (fun k => k = g) w (w0.setCell ⟨g, o + L.length, none⟩ (.slice (some ⟨bb, 0, none⟩) z.length c)) := (Kept.new (fun k => k = g) b0).setCell (p := ⟨g, o + L.length, none⟩) rfl _
   have hbs := hbw.set (o + L.length) (.slice (some ⟨bb, 0, none⟩) z.length c)
   have ne : ∀ (b : Nat) (zs : List Int), RowAt w b zs → b ≠ g := fun b zs ⟨rest, hr'⟩ => blk_ne (show Blk w b 5 _ from hr') hb (by decide)
   refine ⟨g, o, cap, _, hr, .inr ⟨g, o, cap, _, by simp, hbs, .inl hMg, by simp; omega, by simp; omega, fun i hi => ?_⟩, hk.mono (fun k e => by rw [e]; rfl), .inl rfl, ?_⟩
   ·rcases rows_elem hi with ⟨h1, h2⟩ | ⟨h1, h2⟩
    ·obtain ⟨b, c', e1, hr1, hmm, r⟩ := hx i h1
     refine ⟨b, c', ?_, ?_, .inl hmm, by rw [h2]; exact r⟩
     ·rw [h2, List.getElem?_set_ne (by omega)]; exact e1
     ·rw [h2]; exact hr1.kept hk (ne b _ hr1)
    ·refine ⟨bb, c, ?_, ?_, .inl hm, by rw [h2]; exact ⟨hzb, hzl⟩⟩
     ·rw [h2, h1, List.getElem?_set_self (by omega)]
     ·rw [h2]; exact hz.kept hk (ne bb _ hz)
   ·have := hk.size; omega
  ·have ol : ((vs.drop o).take L.length).length = L.length := by simp; omega
   have hr := run_append_grow (P := Tryz.prog) w0 33 33 37 i0 (.slice none 0 0) Tryz.underlying33 hi hz0 ⟨g, o, none⟩ L.length cap ((vs.drop o).take L.length) (by rw [ol, hz1, Nat.mul_one]) (fun j u hu => by
     rw [add_mid, hbw.cell]
     have hj : j < L.length := by have := (List.getElem?_eq_some_iff.1 hu).1; omega
     rw [List.getElem?_take, if_pos hj, List.getElem?_drop] at hu
     exact hu) ⟨w.heap.size, 0, none⟩ 1 1 _ L1 n0 (by omega) (by omega) (growslice_fits (by omega) (by rw [hz2]; omega))
   have hg := fresh ((vs.drop o).take L.length) (grownCap w0 (L.length + 1) cap 37) ol (grownCap_ge _ _ _ _) (fun i hi => by
     obtain ⟨b, c', e1, r⟩ := hx i hi
     exact ⟨b, c', by rw [List.getElem?_take, if_pos hi, List.getElem?_drop]; exact e1, r⟩) _ rfl
   exact ⟨w0.heap.size, 0, grownCap w0 (L.length + 1) cap 37, _, hr, by simpa using hg.1, by simpa using hg.2, .inr (by omega), by simp⟩
theorem wpList_append_run {ops : Array Oper} {rest : List Oper} {o : Oper} {a : Act} {Q : Exit → Act → World → Prop} {w : World} (hgd : o.guard = none) (s x : Operand) (t ty : TypeId) (ho : o.op = .call { callee := .builtin .append, args := #[s, x], argTypes := #[t, t] }) (hty : o.type = ty)
  (va vb : Value) (hs : a.eval s = va) (hx : a.eval x = vb) (v' : Value) (w' : World) (hr : (Builtin.append_ #[t, t] ty #[va, vb]).run Tryz.prog w = .ok v' w') (h : wpList Tryz.prog ops Q rest (a.put o.dst v') w') : wpList Tryz.prog ops Q (o :: rest) a w := by
 refine wpList_plain hgd fun K hK => ?_
 subst hty
 unfold Oper.wp execOp
 simp only [ho, resolve, invoke, builtin, Sem.run_bind, Sem.run_pure, Result.andThen_ok, List.map_toArray, List.map_cons, List.map_nil, hs, hx, hr]
 exact hK _ _ h
theorem sizeRowB : (Tryz.prog.info? 37).map (·.size) = some 1 := by kernel_rfl
theorem sl_row (ao : Option Addr) (n c : Nat) (hl : 1 ≤ n) (w : World) : (Instr.sliceAt 33 (.slice ao n c) (some (.int .i64 1)) none none).run Tryz.prog w = .ok (.slice (subA ao 1 c) (n - 1) (c - 1)) w := by
 rw [run_sliceAt_slice w 33 _ _ _ _ Tryz.underlying33, run_slice_l w 33 ao n c Tryz.underlying33 .i64 1 (by omega) (by omega)]
 rw [show Tryz.prog.elem 33 = 37 by kernel_rfl]
 have hs : (sizeOf 37).run Tryz.prog w = .ok 1 w := by
  have h := sizeRowB
  cases hq : Tryz.prog.info? 37 with
  | none => simp [hq] at h
  | some i => simp [hq] at h; simp [sizeOf, typeInfo, hq, h]
 simp [hs, Result.andThen, sliced, subA]
theorem row_drop {w : World} {M : Nat → Prop} {g o cap n : Nat} {L : List (List Int)} (x : RowP w M (.slice (some ⟨g, o, none⟩) n cap) L) (hn : 2 ≤ n) :
  L.length = n ∧ RowP (w.setCell ⟨g, o, none⟩ (.slice none 0 0)) M (.slice (subA (some ⟨g, o, none⟩) 1 cap) (n - 1) (cap - 1)) (L.drop 1) ∧ Kept (fun k => k = g) w (w.setCell ⟨g, o, none⟩ (.slice none 0 0)) ∧ w.cell? ⟨g, o, none⟩ ≠ none ∧ w.frozen? ⟨g, o, none⟩ = false ∧ subA (some ⟨g, o, none⟩) 1 cap = some ⟨g, o + 1, none⟩ := by
 rcases x with ⟨e, _⟩ | ⟨g', o', cap', vs, e, hb, hMg, hc, ho, hx⟩
 ·simp at e
 ·simp only [Value.slice.injEq, Option.some.injEq, Addr.mk.injEq, and_true, true_and] at e
  obtain ⟨⟨rfl, rfl⟩, rfl, rfl⟩ := e
  have hk : Kept (fun k => k = g) w (w.setCell ⟨g, o, none⟩ (.slice none 0 0)) := (Kept.refl (fun k => k = g) w).setCell (p := ⟨g, o, none⟩) rfl _
  have es : subA (some ⟨g, o, none⟩) 1 cap = some ⟨g, o + 1, none⟩ := by
   unfold subA
   rw [if_neg (by omega)]
   exact congrArg some (add_mid g o 1)
  refine ⟨rfl, .inr ⟨g, o + 1, cap - 1, _, by rw [es]; simp, hb.set o (.slice none 0 0), hMg, by simp; omega, by simp; omega, fun i hi => ?_⟩, hk, ?_, hb.frozen o, es⟩
  ·have hi' : i + 1 < L.length := by simp at hi; omega
   have e2 : (L.drop 1).getD i [] = L.getD (i + 1) [] := by simp [List.getD, List.getElem?_drop, Nat.add_comm]
   rw [e2]
   obtain ⟨b, c', e1, hr, hm, r⟩ := hx (i + 1) hi'
   refine ⟨b, c', ?_, ?_, hm, r⟩
   ·rw [List.getElem?_set_ne (by omega), show o + 1 + i = o + (i + 1) by omega]; exact e1
   ·exact hr.kept hk (blk_ne (show Blk w b 5 _ from hr.choose_spec) hb (by decide))
  ·rw [hb.cell, List.getElem?_eq_getElem (by omega)]; simp
def keepL (d : Nat) (L : List (List Int)) (z : List Int) : List (List Int) := if d < L.length then (L ++ [z]).drop 1 else L ++ [z]
theorem keepL_length (d : Nat) (L : List (List Int)) (z : List Int) : (keepL d L z).length ≤ L.length + 1 := by unfold keepL; split <;> simp
theorem keepL_mem {d : Nat} {L : List (List Int)} {z y : List Int} (h : y ∈ keepL d L z) : y ∈ L ∨ y = z := by
 unfold keepL at h
 split at h
 ·have := List.mem_of_mem_drop h; simpa using this
 ·simpa using h
def HSt.wrote (s : HSt) (p : Nat) (z : List Int) : HSt := { s with laid := fun q => if q = p then keepL s.depth (s.laid p) z else s.laid q }
theorem HostIn.rowed {w w' : World} {M M' : Nat → Prop} {h : Nat} {s : HSt} {gl gm : Nat} {lg : Value} {rws : List Value} {n : Nat} {D : DataW Value} (x : HostIn w M h s gl gm lg rws n D) (p : Nat) (hp : p < s.pages) (z : List Int) (hz : z.length = s.size) (hr : (s.laid p).length < s.ops)
  (v' : Value) (hv : RowP w' M' v' (keepL s.depth (s.laid p) z)) (hb : ∀ g, rowBlk v' = some g → rowBlk (rws.getD p (.slice none 0 0)) = some g ∨ w.heap.size ≤ g) (hl : Blk w' gl 33 (rws.set p v')) (hk : Kept (fun k => rowBlk (rws.getD p (.slice none 0 0)) = some k ∨ k = gl) w w')
  (hM : ∀ k, M k → M' k) (ha : ∀ k, M' k → k < w'.heap.size) : HostIn w' M' h (s.wrote p z) gl gm lg (rws.set p v') n D := by
 have nr : ∀ {t : TypeId}, t ≠ 37 → t ≠ 33 → ∀ (b : Nat) (vs : List Value), Blk w b t vs → ¬ (rowBlk (rws.getD p (.slice none 0 0)) = some b ∨ b = gl) := fun h1 h2 b vs hb e => by
  rcases e with e | rfl
  ·obtain ⟨us, hu⟩ := (x.row p hp).isBlk e
   exact blk_ne hb hu h1 rfl
  ·exact blk_ne hb x.lot h2 rfl
 have hpl : p < rws.length := by rw [x.cnt]; exact hp
 have gq : ∀ q, q ≠ p → (rws.set p v').getD q (.slice none 0 0) = rws.getD q (.slice none 0 0) := fun q hq => by simp [List.getD, List.getElem?_set_ne (Ne.symm hq)]
 have gp : (rws.set p v').getD p (.slice none 0 0) = v' := by simp [List.getD, hpl]
 have ap : ∀ q, q < s.pages → q ≠ p → ∀ g, rowBlk (rws.getD q (.slice none 0 0)) = some g → rowBlk (rws.getD p (.slice none 0 0)) ≠ some g := fun q hq hne g hg => by
  rcases Nat.lt_or_gt_of_ne hne with h1 | h1
  ·exact x.apart q p h1 hp g hg
  ·intro e; exact x.apart p q h1 hq g e hg
 have mm : ∀ b, M b → M' b := hM
 refine ⟨⟨x.good.size, x.good.pages, x.good.depth, x.good.reg, x.good.ops, x.good.log, fun q => ?_, fun q y hy => ?_⟩, x.blk.kept hk (nr (by decide) (by decide) _ _ x.blk), hl, by rw [List.length_set]; exact x.cnt, hM _ x.mh, hM _ x.ml, hM _ x.mm, ownsMap_same x.map (hk.block _ x.map.lt (fun e => ?_)), fun k => com_mono (com_kept (x.com k) hk (nr (by decide) (by decide))) hM, (log_kept x.log hk (nr (by decide) (by decide))).mono hM, fun q hq => ?_, fun q r hqr hr g hg => ?_, ha⟩
 ·show (if q = p then _ else _ : List (List Int)).length ≤ s.ops
  split
  ·exact Nat.le_trans (keepL_length _ _ _) (by omega)
  ·exact x.good.laid q
 ·have hy' : y ∈ (if q = p then keepL s.depth (s.laid p) z else s.laid q) := hy
  split at hy'
  ·rcases keepL_mem hy' with h1 | rfl
   ·exact x.good.len p y h1
   ·exact hz
  ·exact x.good.len q y hy'
 ·rcases e with e | e
  ·obtain ⟨us, hu⟩ := (x.row p hp).isBlk e
   exact map_ne x.map hu rfl
  ·exact map_ne x.map x.lot e.symm
 ·show RowP w' M' _ (if q = p then _ else _)
  by_cases e : q = p
  ·rw [if_pos e, e, gp]; exact hv
  ·rw [if_neg e, gq q e]
   refine (row_kept (x.row q hq) hk (fun b hb hS => ?_) (nr (by decide) (by decide))).mono hM
   rcases hS with h1 | h1
   ·exact ap q hq e b hb h1
   ·obtain ⟨us, hu⟩ := (x.row q hq).isBlk hb
    exact blk_ne hu x.lot (by decide) h1
 ·have hr' : r < s.pages := hr
  have old : ∀ q, q < s.pages → ∀ g, rowBlk (rws.getD q (.slice none 0 0)) = some g → g < w.heap.size := fun q hq g hg => by
   obtain ⟨us, hu⟩ := (x.row q hq).isBlk hg
   exact hu.lt
  by_cases e1 : q = p
  ·subst e1
   rw [gp] at hg
   rw [gq r (by omega)]
   intro hr2
   rcases hb g hg with h1 | h1
   ·exact ap r hr' (by omega) g hr2 h1
   ·have := old r hr' g hr2; omega
  ·rw [gq q e1] at hg
   by_cases e2 : r = p
   ·subst e2
    rw [gp]
    intro hr2
    rcases hb g hr2 with h1 | h1
    ·exact ap q (by omega) e1 g hg h1
    ·have := old q (by omega) g hg; omega
   ·rw [gq r e2]; exact x.apart q r hqr hr' g hg
theorem getD_at {rws : List Value} {p : Nat} (h : p < rws.length) : rws[p]? = some (rws.getD p (.slice none 0 0)) := by simp [List.getD, h]
theorem keep_any (h : Nat) (s : HSt) (p : Nat) (hp : p < s.pages) (z : List Int) (hz : z.length = s.size) (hzb : Bytes z) (hr : (s.laid p).length < s.ops) (bb c : Nat) (M : Nat → Prop) (gl gm : Nat) (lg : Value) (rws : List Value) (n : Nat) (D : DataW Value) (w : World) (x : HostIn w M h s gl gm lg rws n D) (hm : M bb) (hR : RowAt w bb z) :
  Calls Tryz.prog 203 #[.pointer (some ⟨h, 0, none⟩), .int .i64 p, .slice (some ⟨bb, 0, none⟩) s.size c] w fun e w' => e = .returned (.tuple #[]) ∧ HostAt w' (more M w w') h (s.wrote p z) ∧ Kept M w w' := by
 have X : Hid (HostIn w M h s gl gm lg rws n D) := x
 have c1 : w.cell? ⟨h, 1, none⟩ = some (.slice (some ⟨gl, 0, none⟩) s.pages s.pages) := x.blk.cell 1
 have hpl : p < rws.length := by rw [x.cnt]; exact hp
 have cp : w.cell? ⟨gl, p, none⟩ = some (rws.getD p (.slice none 0 0)) := by rw [x.lot.cell p]; exact getD_at hpl
 have hLo := x.good.laid p
 have hop := x.good.ops
 have hpg := x.good.pages
 have hsz := x.good.size
 obtain ⟨g, o, cap, w1, hap, hrow, hk1, hg1, hgl1⟩ := row_append (x.row p hp) x.all bb c z hR hm hzb (by omega) (by omega)
 rw [hz] at hap
 have nh : ¬ rowBlk (rws.getD p (.slice none 0 0)) = some h := fun e => by
  obtain ⟨us, hu⟩ := (x.row p hp).isBlk e
  exact blk_ne hu x.blk (by decide) rfl
 have nl : ¬ rowBlk (rws.getD p (.slice none 0 0)) = some gl := fun e => by
  obtain ⟨us, hu⟩ := (x.row p hp).isBlk e
  exact blk_ne hu x.lot (by decide) rfl
 have bh1 := x.blk.kept hk1 nh
 have bl1 := x.lot.kept hk1 nl
 have hgh : g ≠ h := fun e => by
  rcases hg1 with h1 | h1
  ·exact nh (e ▸ h1)
  ·have := x.blk.lt; omega
 have hggl : g ≠ gl := fun e => by
  rcases hg1 with h1 | h1
  ·exact nl (e ▸ h1)
  ·have := x.lot.lt; omega
 have d1 : w1.cell? ⟨h, 1, none⟩ = some (.slice (some ⟨gl, 0, none⟩) s.pages s.pages) := bh1.cell 1
 have d2 : w1.cell? ⟨h, 2, none⟩ = some (.int .i64 s.depth) := bh1.cell 2
 have hdp := x.good.depth
 have dp : w1.cell? ⟨gl, p, none⟩ = some (rws.getD p (.slice none 0 0)) := by rw [bl1.cell p]; exact getD_at hpl
 have fp : w1.frozen? ⟨gl, p, none⟩ = false := bl1.frozen p
 obtain ⟨v0, hv0⟩ : ∃ q, rws.getD p (.slice none 0 0) = q := ⟨_, rfl⟩
 rw [hv0] at cp dp hap
 have KM : ∀ (w' : World), Kept (fun k => rowBlk v0 = some k ∨ k = gl ∨ k = g) w w' → Kept M w w' := fun w' hk => ⟨hk.os, hk.tape, hk.output, hk.size, fun k hk1 hM => hk.block k hk1 (fun e => by
  rcases e with e | rfl | rfl
  ·rcases x.row p hp with ⟨e1, _⟩ | ⟨g', o', cap', vs', e1, _, hM', _⟩
   ·rw [hv0] at e1; rw [e1] at e; cases e
   ·rw [hv0] at e1; rw [e1] at e; cases e; exact hM hM'
  ·exact hM x.ml
  ·rcases hg1 with h1 | h1
   ·rcases x.row p hp with ⟨e1, _⟩ | ⟨g', o', cap', vs', e1, _, hM', _⟩
    ·rw [e1] at h1; cases h1
    ·rw [e1] at h1; cases h1; exact hM hM'
   ·omega)⟩
 have AL : ∀ (w' : World), w.heap.size ≤ w'.heap.size → ∀ k, more M w w' k → k < w'.heap.size := fun w' hs k hk => by
  rcases hk with hk | hk
  ·have := x.all k hk; omega
  ·exact hk.2
 obtain ⟨L, hL⟩ : ∃ q, (s.laid p).length = q := ⟨_, rfl⟩
 rw [hL] at hap hrow hLo hr
 have i1 : (0 : Int) ≤ (p : Int) := by omega
 have i2 : (p : Int) < (s.pages : Int) := by omega
 by_cases hd : s.depth < L
 ·-- one is forgotten
  obtain ⟨e1, hrow2, hk2, hne2, hfr2, es⟩ := row_drop hrow (by omega)
  have esl := sl_row (some ⟨g, o, none⟩) (L + 1) cap (by omega)
  rw [es] at hrow2 esl
  obtain ⟨cv, hcv⟩ := Option.ne_none_iff_exists'.1 hne2
  have hd' : (s.depth : Int) < (L : Int) := by omega
  have RR : Hid (∀ w', w' = (w1.setCell ⟨g, o, none⟩ (.slice none 0 0)).setCell ⟨gl, p, none⟩ (.slice (some ⟨g, o + 1, none⟩) L (cap - 1)) → HostAt w' (more M w w') h (s.wrote p z) ∧ Kept M w w') := by
   refine fun w' hw' => ?_
   have kall : Kept (fun k => rowBlk v0 = some k ∨ k = gl ∨ k = g) w w' := by
    rw [hw']
    refine Kept.setCell (p := ⟨gl, p, none⟩) (Kept.setCell (p := ⟨g, o, none⟩) (hk1.mono (fun k e => ?_)) (.inr (.inr rfl)) _) (.inr (.inl rfl)) _
    rw [hv0] at e
    exact .inl e
   have hs2 : w'.heap.size = w1.heap.size := by rw [hw']; simp [World.setCell]
   have bl2 : Blk (w1.setCell ⟨g, o, none⟩ (.slice none 0 0)) gl 33 rws := bl1.kept hk2 (Ne.symm hggl)
   have bl3 := bl2.set p (.slice (some ⟨g, o + 1, none⟩) L (cap - 1))
   rw [← hw'] at bl3
   have kl : Kept (fun k => k = gl) (w1.setCell ⟨g, o, none⟩ (.slice none 0 0)) w' := by rw [hw']; exact (Kept.refl (fun k => k = gl) _).setCell (p := ⟨gl, p, none⟩) rfl _
   have hrow3 : RowP w' (more M w w') (.slice (some ⟨g, o + 1, none⟩) L (cap - 1)) (keepL s.depth (s.laid p) z) := by
    have e2 : keepL s.depth (s.laid p) z = (s.laid p ++ [z]).drop 1 := if_pos (by rw [hL]; exact hd)
    rw [e2]
    have := (row_kept hrow2 kl (fun b hb => by cases hb; exact hggl) (fun b vs hb => blk_ne hb bl2 (by decide))).mono (M' := more M w w') (fun k hk => by
     rcases hk with hk | hk
     ·exact .inl hk
     ·exact .inr ⟨hk.1, by omega⟩)
    simpa using this
   refine ⟨(X.out.rowed p hp z hz (by rw [hL]; exact hr) _ hrow3 (fun g' hg' => by cases hg'; exact hg1) bl3 ⟨kall.os, kall.tape, kall.output, kall.size, fun k hk1' hS => ?_⟩ (fun k hk => .inl hk) (AL w' kall.size)).at, KM w' kall⟩
   by_cases e : k = g
   ·subst e
    rcases hg1 with h1 | h1
    ·exact absurd (.inl h1) hS
    ·omega
   ·exact kall.block k hk1' (fun e3 => by
     rcases e3 with e3 | e3 | e3
     ·exact hS (.inl (by rw [hv0]; exact e3))
     ·exact hS (.inr e3)
     ·exact e e3)
  have HE : Hid (g ≠ h ∧ g ≠ gl) := ⟨hgh, hggl⟩
  have dp2 : (w1.setCell ⟨g, o, none⟩ (.slice none 0 0)).cell? ⟨h, 1, none⟩ = some (.slice (some ⟨gl, 0, none⟩) s.pages s.pages) := (bh1.kept hk2 (Ne.symm hgh)).cell 1
  have dp3 : (w1.setCell ⟨g, o, none⟩ (.slice none 0 0)).cell? ⟨gl, p, none⟩ = some v0 := by rw [(bl1.kept hk2 (Ne.symm hggl)).cell p, ← hv0]; exact getD_at hpl
  have dp4 : (w1.setCell ⟨g, o, none⟩ (.slice none 0 0)).frozen? ⟨gl, p, none⟩ = false := (bl1.kept hk2 (Ne.symm hggl)).frozen p
  clear hrow hrow2 hk1 hk2 hg1 nh nl bh1 bl1 KM AL x hv0 hL hR hz hzb es hgh hggl e1 hne2 hgl1 hm
  go_enter Tryz.func203, Tryz.ntmps203
  go_wp2_with (at_builtin; refine wpList_append_run rfl _ _ 33 33 rfl rfl v0 _ rfl rfl _ w1 hap ?_)
  go_end0
  exact ⟨rfl, RR.out _ rfl⟩
 ·have hd' : ¬ (s.depth : Int) < (L : Int) := by omega
  have RR : Hid (∀ w', w' = w1.setCell ⟨gl, p, none⟩ (.slice (some ⟨g, o, none⟩) (L + 1) cap) → HostAt w' (more M w w') h (s.wrote p z) ∧ Kept M w w') := by
   refine fun w' hw' => ?_
   have kall : Kept (fun k => rowBlk v0 = some k ∨ k = gl ∨ k = g) w w' := by
    rw [hw']
    refine Kept.setCell (p := ⟨gl, p, none⟩) (hk1.mono (fun k e => ?_)) (.inr (.inl rfl)) _
    rw [hv0] at e
    exact .inl e
   have hs2 : w'.heap.size = w1.heap.size := by rw [hw']; simp [World.setCell]
   have bl3 := bl1.set p (.slice (some ⟨g, o, none⟩) (L + 1) cap)
   rw [← hw'] at bl3
   have kl : Kept (fun k => k = gl) w1 w' := by rw [hw']; exact (Kept.refl (fun k => k = gl) _).setCell (p := ⟨gl, p, none⟩) rfl _
   have hrow3 : RowP w' (more M w w') (.slice (some ⟨g, o, none⟩) (L + 1) cap) (keepL s.depth (s.laid p) z) := by
    have e2 : keepL s.depth (s.laid p) z = s.laid p ++ [z] := if_neg (by rw [hL]; exact hd)
    rw [e2]
    exact (row_kept hrow kl (fun b hb => by cases hb; exact hggl) (fun b vs hb => blk_ne hb bl1 (by decide))).mono (M' := more M w w') (fun k hk => by
     rcases hk with hk | hk
     ·exact .inl hk
     ·exact .inr ⟨hk.1, by omega⟩)
   refine ⟨(X.out.rowed p hp z hz (by rw [hL]; exact hr) _ hrow3 (fun g' hg' => by cases hg'; exact hg1) bl3 ⟨kall.os, kall.tape, kall.output, kall.size, fun k hk1' hS => ?_⟩ (fun k hk => .inl hk) (AL w' kall.size)).at, KM w' kall⟩
   by_cases e : k = g
   ·subst e
    rcases hg1 with h1 | h1
    ·exact absurd (.inl h1) hS
    ·omega
   ·exact kall.block k hk1' (fun e3 => by
     rcases e3 with e3 | e3 | e3
     ·exact hS (.inl (by rw [hv0]; exact e3))
     ·exact hS (.inr e3)
     ·exact e e3)
  clear hrow hk1 hg1 nh nl bh1 bl1 KM AL x hv0 hL hR hz hzb hgh hggl hgl1 hm
  go_enter Tryz.func203, Tryz.ntmps203
  go_wp2_with (at_builtin; refine wpList_append_run rfl _ _ 33 33 rfl rfl v0 _ rfl rfl _ w1 hap ?_)
  go_end0
  exact ⟨rfl, RR.out _ rfl⟩
theorem wpList_yieldH {ops : Array Oper} {rest : List Oper} {o : Oper} {a : Act} {Q : Exit → Act → World → Prop} {w : World} (hgd : o.guard = none) (v : Value) (hrun : (execOp a.eval o).run Tryz.prog w = .ok (.value v) w) (h : wpList Tryz.prog ops Q rest (a.put o.dst v) w) : wpList Tryz.prog ops Q (o :: rest) a w := by
 refine wpList_plain hgd fun K hK => ?_
 unfold Oper.wp
 rw [hrun]
 exact hK _ _ h
def headL (zs : List Int) : List Int := zs.take 12 ++ List.replicate (12 - zs.length) 0
theorem headL_length (zs : List Int) : (headL zs).length = 12 := by simp [headL]; omega
theorem build_tc (op : Int) (w : World) : (Instr.build 97 #[(0, .int .i64 op), (2, .int .i64 8)]).run Tryz.prog w = .ok (.agg (tcC ⟨op, 0, 8, List.replicate 12 0⟩).toArray) w := by kernel_rfl
theorem sl_nonce (g : Nat) (w : World) : (Instr.sliceAt 95 (.pointer (some ⟨g, 3, none⟩)) none none none).run Tryz.prog w = .ok (.slice (some ⟨g, 3, none⟩) 12 12) w := by kernel_rfl
theorem touch_reg (h : Nat) (s : HSt) (op : Int) (hop : op = 2 ∨ op = 3) (M : Nat → Prop) (w : World) (x : HostAt w M h s) :
  Calls Tryz.prog 199 #[.pointer (some ⟨h, 0, none⟩), .int .i64 op, .int .i64 0, .slice none 0 0] w fun e w' => e = .returned (.agg (tcC ⟨op, 0, 8, List.replicate 12 0⟩).toArray) ∧ Below w.heap.size w w' := by
 have bt := build_tc op
 have q1 : (op == 1) = false := by rcases hop with rfl | rfl <;> rfl
 have q0 : (op == 0) = false := by rcases hop with rfl | rfl <;> rfl
 clear x hop
 go_enter Tryz.func199, Tryz.ntmps199
 go_wp2_with (first | ((with_reducible show wpList _ _ _ (({ dst := some 8, op := _, type := _, pos := _, after := _, guard := _ } : Oper) :: _) _ _); refine wpList_alloc_new rfl 97 rfl 15 _ zeroTc ?_; intro w1 b1 s1 l1; have z1 : Hid (w1.heap.size = w.heap.size + 1) := s1; clear s1) | ((with_reducible show wpList _ _ _ (({ dst := some 11, op := _, type := _, pos := _, after := _, guard := _ } : Oper) :: _) _ _); refine wpList_build rfl 97 _ rfl #[(0, .int .i64 op), (2, .int .i64 8)] (by simp [Act.eval]) _ (bt _) ?_) | ((with_reducible show wpList _ _ _ (({ dst := some 9, op := _, type := _, pos := _, after := _, guard := _ } : Oper) :: _) _ _); refine wpList_alloc_new rfl 97 rfl 15 _ zeroTc ?_; intro w2 b2 s2 l2; have z2 : Hid (w2.heap.size = w1.heap.size + 1) := s2; clear s2) | (refine wpList_store_blk rfl 97 97 (.tmp 9) (.tmp 11) rfl _ rfl _ (tcC ⟨op, 0, 8, List.replicate 12 0⟩) rfl b2 rfl (sizeTc rfl) (tcC_one _) ?_; intro w3 b3 s3 k3; have z3 : Hid (w3.heap.size = w2.heap.size) := s3; clear s3) | (refine wpList_load_blk rfl 97 (.tmp 9) rfl _ rfl (tcC ⟨op, 0, 8, List.replicate 12 0⟩) _ b3 Tryz.underlying97 rfl (sizeTc rfl) ?_) | (refine wpList_store_blk rfl 97 97 (.tmp 8) (.tmp 28) rfl _ rfl _ (tcC ⟨op, 0, 8, List.replicate 12 0⟩) rfl ((b1.later l2 b1.lt).kept k3 (by have := b1.lt; omega)) rfl (sizeTc rfl) (tcC_one _) ?_; intro w4 b4 s4 k4))
 refine ret_blk rfl w.heap.size (tcC ⟨op, 0, 8, List.replicate 12 0⟩) _ rfl b4 Tryz.underlying97 rfl (sizeTc rfl) rfl ⟨rfl, ?_⟩
 have := z1.out; have := z2.out; have := z3.out
 exact below_kept (below_kept (below_chain l1 l2 (by omega)) k3 (by omega) (fun j hj => by omega)) k4 (by omega) (fun j hj => by omega)
theorem touch_read (h : Nat) (s : HSt) (p : Int) (M : Nat → Prop) (w : World) (x : HostAt w M h s) :
  Calls Tryz.prog 199 #[.pointer (some ⟨h, 0, none⟩), .int .i64 0, .int .i64 p, .slice none 0 0] w fun e w' => e = .returned (.agg (tcC ⟨0, p, s.size, List.replicate 12 0⟩).toArray) ∧ Below w.heap.size w w' := by
 have bt := build_tc 0
 obtain ⟨gl, gm, lg, rws, n, D, x⟩ := x
 have X : Hid (Blk w h 102 (hostC s gl gm lg)) := x.blk
 clear x
 go_enter Tryz.func199, Tryz.ntmps199
 go_wp2_with (first | ((with_reducible show wpList _ _ _ (({ dst := some 8, op := _, type := _, pos := _, after := _, guard := _ } : Oper) :: _) _ _); refine wpList_alloc_new rfl 97 rfl 15 _ zeroTc ?_; intro w1 b1 s1 l1; have z1 : Hid (w1.heap.size = w.heap.size + 1) := s1; clear s1) | ((with_reducible show wpList _ _ _ (({ dst := some 11, op := _, type := _, pos := _, after := _, guard := _ } : Oper) :: _) _ _); refine wpList_build rfl 97 _ rfl #[(0, .int .i64 0), (2, .int .i64 8)] (by simp [Act.eval]) _ (bt _) ?_) | ((with_reducible show wpList _ _ _ (({ dst := some 9, op := _, type := _, pos := _, after := _, guard := _ } : Oper) :: _) _ _); refine wpList_alloc_new rfl 97 rfl 15 _ zeroTc ?_; intro w2 b2 s2 l2; have z2 : Hid (w2.heap.size = w1.heap.size + 1) := s2; clear s2) | (refine wpList_store_blk rfl 97 97 (.tmp 9) (.tmp 11) rfl _ rfl _ (tcC ⟨0, 0, 8, List.replicate 12 0⟩) rfl b2 rfl (sizeTc rfl) (tcC_one _) ?_; intro w3 b3 s3 k3; have z3 : Hid (w3.heap.size = w2.heap.size) := s3; clear s3; have d0 : w3.cell? ⟨h, 0, none⟩ = some (.int .i64 s.size) := ((((X.out.later l1 X.out.lt).later l2 (by have := z1.out; have := X.out.lt; omega)).kept k3 (by have := z1.out; have := X.out.lt; omega))).cell 0; have d1 : w3.cell? ⟨w1.heap.size, 1, none⟩ = some (.int .i64 0) := b3.cell 1; have d2 : w3.cell? ⟨w1.heap.size, 2, none⟩ = some (.int .i64 8) := b3.cell 2; have g1 : w3.frozen? ⟨w1.heap.size, 1, none⟩ = false := b3.frozen 1; have g2 : w3.frozen? ⟨w1.heap.size, 2, none⟩ = false := b3.frozen 2; have nh : w1.heap.size ≠ h := by { have := z1.out; have := X.out.lt; omega }) | (refine wpList_load_blk rfl 97 (.tmp 9) rfl _ rfl (tcC ⟨0, p, s.size, List.replicate 12 0⟩) _ (show Blk _ _ _ (tcC ⟨0, p, s.size, List.replicate 12 0⟩) from (b3.set 1 (.int .i64 p)).set 2 (.int .i64 s.size)) Tryz.underlying97 rfl (sizeTc rfl) ?_) | (refine wpList_store_blk rfl 97 97 (.tmp 8) (.tmp 28) rfl _ rfl _ (tcC ⟨0, p, s.size, List.replicate 12 0⟩) rfl ((((b1.later l2 b1.lt).kept k3 (by have := b1.lt; omega)).other (p := ⟨w1.heap.size, 1, none⟩) (by have := b1.lt; simp; omega) _).other (p := ⟨w1.heap.size, 2, none⟩) (by have := b1.lt; simp; omega) _) rfl (sizeTc rfl) (tcC_one _) ?_; intro w4 b4 s4 k4))
 refine ret_blk rfl w.heap.size (tcC ⟨0, p, s.size, List.replicate 12 0⟩) _ rfl b4 Tryz.underlying97 rfl (sizeTc rfl) rfl ⟨rfl, ?_⟩
 have := z1.out; have := z2.out; have := z3.out
 have l3 : Below w.heap.size w w3 := below_kept (below_chain l1 l2 (by omega)) k3 (by omega) (fun j hj => by omega)
 exact below_kept (below_kept l3 (((Kept.refl (fun k => k = w1.heap.size) w3).setCell (p := ⟨w1.heap.size, 1, none⟩) rfl _).setCell (p := ⟨w1.heap.size, 2, none⟩) rfl _) (by omega) (fun j hj => by omega)) k4 (by simp [World.setCell]; omega) (fun j hj => by omega)
theorem lenTc (p z : Int) (zs : List Int) : (tcC ⟨1, p, z, headL zs⟩).length = (tcC default).length := by
 rw [tcC_length (show (Tc.mk 1 p z (headL zs)).Good from headL_length zs)]; rfl
theorem u8s_rep12 (n : Nat) : u8s (List.replicate 12 0) = u8s (List.replicate (Nat.min n 12) 0) ++ u8s (List.replicate (12 - Nat.min n 12) 0) := by
 have : Nat.min n 12 ≤ 12 := Nat.min_le_right _ _
 simp only [u8s, ← List.map_append, List.replicate_append_replicate]
 congr 2; omega
theorem head_cut (zs : List Int) (n : Nat) (hn : zs.length = n) : u8s (zs.take (Nat.min n 12)) ++ u8s (List.replicate (12 - Nat.min n 12) 0) = u8s (headL zs) := by
 unfold headL
 subst hn
 rcases Nat.le_total zs.length 12 with h | h
 ·have e : Nat.min zs.length 12 = zs.length := Nat.min_eq_left h
  rw [e, List.take_of_length_le (Nat.le_refl _), List.take_of_length_le h]
  simp [u8s]
 ·have e : Nat.min zs.length 12 = 12 := Nat.min_eq_right h
  rw [e, Nat.sub_eq_zero_of_le h]
  simp [u8s]
theorem touch_write (h : Nat) (s : HSt) (p : Int) (ao : Option Addr) (n c : Nat) (zs : List Int) (M : Nat → Prop) (w : World) (x : HostAt w M h s) (hx : Seen w ao n zs) :
  Calls Tryz.prog 199 #[.pointer (some ⟨h, 0, none⟩), .int .i64 1, .int .i64 p, .slice ao n c] w fun e w' => e = .returned (.agg (tcC ⟨1, p, s.size, headL zs⟩).toArray) ∧ Below w.heap.size w w' := by
 have bt := build_tc 1
 obtain ⟨gl, gm, lg, rws, n', D, x⟩ := x
 have X : Hid (Blk w h 102 (hostC s gl gm lg) ∧ Seen w ao n zs) := ⟨x.blk, hx⟩
 have sn := fun g => sl_nonce g
 clear x hx
 go_enter Tryz.func199, Tryz.ntmps199
 go_wp2_with (first | ((with_reducible show wpList _ _ _ (({ dst := some 8, op := _, type := _, pos := _, after := _, guard := _ } : Oper) :: _) _ _); refine wpList_alloc_new rfl 97 rfl 15 _ zeroTc ?_; intro w1 b1 s1 l1; have z1 : Hid (w1.heap.size = w.heap.size + 1) := s1; clear s1) | ((with_reducible show wpList _ _ _ (({ dst := some 11, op := _, type := _, pos := _, after := _, guard := _ } : Oper) :: _) _ _); refine wpList_build rfl 97 _ rfl #[(0, .int .i64 1), (2, .int .i64 8)] (by simp [Act.eval]) _ (bt _) ?_) | ((with_reducible show wpList _ _ _ (({ dst := some 9, op := _, type := _, pos := _, after := _, guard := _ } : Oper) :: _) _ _); refine wpList_alloc_new rfl 97 rfl 15 _ zeroTc ?_; intro w2 b2 s2 l2; have z2 : Hid (w2.heap.size = w1.heap.size + 1) := s2; clear s2) | (refine wpList_store_blk rfl 97 97 (.tmp 9) (.tmp 11) rfl _ rfl _ (tcC ⟨1, 0, 8, List.replicate 12 0⟩) rfl b2 rfl (sizeTc rfl) (tcC_one _) ?_; intro w3 b3 s3 k3; have z3 : Hid (w3.heap.size = w2.heap.size) := s3; clear s3) | ((with_reducible show wpList _ _ _ (({ dst := some 18, op := _, type := _, pos := _, after := _, guard := _ } : Oper) :: _) _ _); refine wpList_yieldH rfl (.slice (some ⟨w1.heap.size, 3, none⟩) 12 12) (by simp [execOp, Act.eval, sn]) ?_) | ((with_reducible show wpList _ _ _ (({ dst := some 19, op := _, type := _, pos := _, after := _, guard := _ } : Oper) :: _) _ _); refine wpList_yieldH rfl (.slice ao n c) (by simp [execOp, Act.eval]) ?_) | ((with_reducible show wpList _ _ _ (({ dst := some 20, op := _, type := _, pos := _, after := _, guard := _ } : Oper) :: _) _ _); refine wpList_copy_seen rfl _ _ rfl w1.heap.size 3 12 12 _ ao n c rfl rfl zs (((X.out.2.later l1 (Nat.le_refl _)).later l2 (Nat.le_refl _)).kept k3 (fun b o hn e => by { have := (X.out.2.later l1 (Nat.le_refl _)).old (Nat.le_refl _) b o hn e; omega })) 97 [.int .i64 1, .int .i64 0, .int .i64 8] (u8s (List.replicate (Nat.min n 12) 0)) (u8s (List.replicate (12 - Nat.min n 12) 0)) (by { rw [← u8s_rep12 n]; exact b3 }) rfl (Nat.min n 12) rfl (by simp [u8s_length]) (fun _ => rfl) ?_; intro w5 b5 s5 k5; rw [head_cut zs n X.out.2.len] at b5; have z5 : Hid (w5.heap.size = w3.heap.size) := s5; clear s5; have d0 : w5.cell? ⟨h, 0, none⟩ = some (.int .i64 s.size) := ((((X.out.1.later l1 X.out.1.lt).later l2 (by have := z1.out; have := X.out.1.lt; omega)).kept k3 (by have := z1.out; have := X.out.1.lt; omega)).kept k5 (by have := z1.out; have := X.out.1.lt; omega)).cell 0; have d1 : w5.cell? ⟨w1.heap.size, 1, none⟩ = some (.int .i64 0) := b5.cell 1; have d2 : w5.cell? ⟨w1.heap.size, 2, none⟩ = some (.int .i64 8) := b5.cell 2; have g1 : w5.frozen? ⟨w1.heap.size, 1, none⟩ = false := b5.frozen 1; have g2 : w5.frozen? ⟨w1.heap.size, 2, none⟩ = false := b5.frozen 2; have nh : w1.heap.size ≠ h := by { have := z1.out; have := X.out.1.lt; omega }) | (refine wpList_load_blk rfl 97 (.tmp 9) rfl _ rfl (tcC ⟨1, p, s.size, headL zs⟩) _ (show Blk _ _ _ (tcC ⟨1, p, s.size, headL zs⟩) from (b5.set 1 (.int .i64 p)).set 2 (.int .i64 s.size)) Tryz.underlying97 rfl (sizeTc (headL_length zs)) ?_) | (refine wpList_store_blk rfl 97 97 (.tmp 8) (.tmp 28) rfl _ rfl _ (tcC ⟨1, p, s.size, headL zs⟩) rfl (((((b1.later l2 b1.lt).kept k3 (by have := b1.lt; omega)).kept k5 (by have := b1.lt; omega)).other (p := ⟨w1.heap.size, 1, none⟩) (by have := b1.lt; simp; omega) _).other (p := ⟨w1.heap.size, 2, none⟩) (by have := b1.lt; simp; omega) _) (lenTc p s.size zs) (sizeTc (headL_length zs)) (tcC_one _) ?_; intro w4 b4 s4 k4))
 refine ret_blk rfl w.heap.size (tcC ⟨1, p, s.size, headL zs⟩) _ rfl b4 Tryz.underlying97 rfl (sizeTc (headL_length zs)) rfl ⟨rfl, ?_⟩
 have := z1.out; have := z2.out; have := z3.out; have := z5.out
 have l3 : Below w.heap.size w w5 := below_kept (below_kept (below_chain l1 l2 (by omega)) k3 (by omega) (fun j hj => by omega)) k5 (by omega) (fun j hj => by omega)
 exact below_kept (below_kept l3 (((Kept.refl (fun k => k = w1.heap.size) w5).setCell (p := ⟨w1.heap.size, 1, none⟩) rfl _).setCell (p := ⟨w1.heap.size, 2, none⟩) rfl _) (by omega) (fun j hj => by omega)) k4 (by simp [World.setCell]; omega) (fun j hj => by omega)
theorem till_run {md : Region.Mode} {ops : Array Oper} {Q : Exit → Act → World → Prop} {c : Nat} {S : World → Prop} {oi : Oper} {n : Nat} {l : Array Bool} {a : Act} {w : World} (i : Nat) (d : Option Tmp) (v : Value) (w' : World) (hr : Region.ready md ops l = [i]) (hi : ops[i]? = some oi) (hd : oi.dst = d)
  (hw : Region.wanted oi (yielded ops a.tmps) = true) (hrun : (execOp a.eval oi).run Tryz.prog w = .ok (.value v) w') (hS : S w') (h : wpTill md ops Q c S n (l.setIfInBounds i true) (a.put d v) w') : wpTill md ops Q c S (n + 1) l a w := by
 subst hd
 refine till_ready i hr hi fun K hK => ?_
 rw [if_pos hw]
 unfold Oper.wp
 rw [hrun]
 exact hK _ _ ⟨hS, h⟩
theorem exec_append {a : Act} {o : Oper} {w w' : World} {v' : Value} (s x : Operand) (t ty : TypeId) (ho : o.op = .call { callee := .builtin .append, args := #[s, x], argTypes := #[t, t] }) (hty : o.type = ty) (va vb : Value) (hs : a.eval s = va) (hx : a.eval x = vb)
  (hr : (Builtin.append_ #[t, t] ty #[va, vb]).run Tryz.prog w = .ok v' w') : (execOp a.eval o).run Tryz.prog w = .ok (.value v') w' := by
 subst hty
 unfold execOp
 simp only [ho, resolve, invoke, builtin, Sem.run_bind, Sem.run_pure, Result.andThen_ok, List.map_toArray, List.map_cons, List.map_nil, hs, hx, hr]
theorem exec_build {a : Act} {o : Oper} {w w' : World} {v : Value} (t : TypeId) (m : Nat) (parts : Array (Nat × Operand)) (ho : o.op = .buildSlice t m parts) (ps : Array (Nat × Value)) (hp : (parts.map fun (i, x) => (i, a.eval x)) = ps) (hr : (Instr.buildSlice t m ps).run Tryz.prog w = .ok v w') : (execOp a.eval o).run Tryz.prog w = .ok (.value v) w' := by
 unfold execOp
 simp only [ho, hp, Sem.run_bind, hr, Sem.run_pure, Result.andThen_ok]
theorem list12 (l : List Int) (h : l.length = 12) : ∃ a0 a1 a2 a3 a4 a5 a6 a7 a8 a9 a10 a11, l = [a0, a1, a2, a3, a4, a5, a6, a7, a8, a9, a10, a11] := by
 match l, h with
 | [a0, a1, a2, a3, a4, a5, a6, a7, a8, a9, a10, a11], _ => exact ⟨a0, a1, a2, a3, a4, a5, a6, a7, a8, a9, a10, a11, rfl⟩
theorem build1_tc (t : Tc) (ht : t.Good) (w : World) : (Instr.buildSlice 51 1 #[(0, .agg (tcC t).toArray)]).run Tryz.prog w = .ok (.slice (some ⟨w.heap.size, 0, none⟩) 1 1) (w.alloc (.cells (tcC t).toArray 97)) := by
 obtain ⟨op, pg, ln, hd⟩ := t
 obtain ⟨a0, a1, a2, a3, a4, a5, a6, a7, a8, a9, a10, a11, rfl⟩ := list12 hd ht
 kernel_rfl
def HSt.pow (s : HSt) : Int := powL (s.coming s.ops)
def HSt.next (s : HSt) : HSt := { s.past with ops := s.ops + 1, down := decide (s.pow ≠ 0) }
def HSt.logged (s : HSt) (t : Tc) : HSt := { s with log := s.log ++ [t] }
theorem powL_cases (fs : List Fl) : powL fs = 0 ∨ powL fs = 1 ∨ powL fs = 2 := by unfold powL; split <;> (try split) <;> simp
theorem next_good {s : HSt} (g : s.Good) (h : s.ops < 3000000000000) : s.next.Good :=
 ⟨g.size, g.pages, g.depth, g.reg, by show s.ops + 1 ≤ _; omega, by show s.log.length ≤ s.ops + 1; have := g.log; omega, fun p => by show (s.laid p).length ≤ s.ops + 1; have := g.laid p; omega, g.len⟩
theorem HostIn.nexted {w w' : World} {M : Nat → Prop} {h : Nat} {s : HSt} {gl gm : Nat} {lg : Value} {rws : List Value} {n : Nat} {D : DataW Value} (x : HostIn w M h s.past gl gm lg rws n D) (hs : s.ops < 3000000000000) (v : Value) (hv : v = .bool (decide (s.pow ≠ 0)))
  (hw : w' = (w.setCell ⟨h, 5, none⟩ (.int .i64 ((s.ops : Int) + 1))).setCell ⟨h, 7, none⟩ v) : HostIn w' M h s.next gl gm lg rws n D ∧ Kept (fun k => k = h) w w' := by
 subst hv
 have hk : Kept (fun k => k = h) w w' := by rw [hw]; exact ((Kept.refl (fun k => k = h) w).setCell (p := ⟨h, 5, none⟩) rfl _).setCell (p := ⟨h, 7, none⟩) rfl _
 refine ⟨x.turned s.next (next_good (s := s) ⟨x.good.size, x.good.pages, x.good.depth, x.good.reg, x.good.ops, x.good.log, x.good.laid, x.good.len⟩ hs) rfl rfl rfl rfl ?_ hk, hk⟩
 rw [hw]
 have := (x.blk.set 5 (.int .i64 ((s.ops : Int) + 1))).set 7 (.bool (decide (s.pow ≠ 0)))
 have e : ((hostC s.past gl gm lg).set 5 (.int .i64 ((s.ops : Int) + 1))).set 7 (.bool (decide (s.pow ≠ 0))) = hostC s.next gl gm lg := by
  simp only [hostC, List.set_cons_zero, List.set_cons_succ]
  rw [show ((s.next.ops : Nat) : Int) = (s.ops : Int) + 1 from by show ((s.ops + 1 : Nat) : Int) = _; omega]
  rfl
 rw [e] at this
 exact this
theorem HostIn.log_more {w : World} {M : Nat → Prop} {h : Nat} {s : HSt} {gl gm : Nat} {lg : Value} {rws : List Value} {n : Nat} {D : DataW Value} (x : HostIn w M h s gl gm lg rws n D) (t : Tc) (ht : t.Good) (hl : s.log.length < s.ops) :
  ∃ v' w', (Builtin.append_ #[51, 51] 51 #[lg, .slice (some ⟨w.heap.size, 0, none⟩) 1 1]).run Tryz.prog (w.alloc (.cells (tcC t).toArray 97)) = .ok v' w' ∧ Kept M w w' ∧ w'.heap[h]? = w.heap[h]? ∧ h < w'.heap.size ∧
   (∀ k, k < w.heap.size → ¬ M k → w'.heap[k]? = w.heap[k]?) ∧ ∀ w'', w'' = w'.setCell ⟨h, 6, none⟩ v' → HostIn w'' (more M w w'') h (s.logged t) gl gm v' rws n D ∧ Kept M w w'' := by
 obtain ⟨w0, hw0⟩ : ∃ q, w.alloc (.cells (tcC t).toArray 97) = q := ⟨_, rfl⟩
 have b0 : Below w.heap.size w w0 := by rw [← hw0]; exact (Below.refl _ _).alloc (Nat.le_refl _) _
 have s0 : w0.heap.size = w.heap.size + 1 := by rw [← hw0]; simp
 have bt : Blk w0 w.heap.size 97 (tcC t) := by rw [← hw0]; exact heap_alloc_new w _
 rw [hw0]
 have x0 := x.later b0
 obtain ⟨i0, hi, hz0, hz1, hz2⟩ := info_parts info_tc
 have hop := x.good.ops
 obtain ⟨v', w', hr, hown, hg, _, hat⟩ := run_append_own_at (P := Tryz.prog) w0 0 51 51 97 i0 (.agg (tcC default).toArray) 15 40 Tryz.underlying51 hi hz0 hz1 hz2 rfl (by decide) lg s.log.length _ x0.log.own ⟨w.heap.size, 0, none⟩ 1 1 (tcC t) (by rw [tcC_length ht])
  (fun j u hu => by rw [add_mid, Nat.zero_add, bt.cell]; exact hu) (tcC_one t) (by unfold maxLen; omega) (by omega) (Nat.zero_le _)
 have hb : ∀ g, lg.ownBlock = some g → Blk w g 97 (match w.heap[g]? with | some (.cells a _ _) => a.toList | _ => []) := fun g hg => by
  rcases x.log.own.2 with ⟨e, _⟩ | ⟨g', cap, cur, e, _, hh, _⟩
  ·rw [e] at hg; cases hg
  ·rw [e] at hg; cases hg; unfold Blk; rw [hh]
 have km : ∀ k, k < w.heap.size → lg.ownBlock ≠ some k → w'.heap[k]? = w.heap[k]? := fun k hk hne => (hg.block k (by omega) (Ne.symm hne)).trans (b0.block k hk)
 have nM : ∀ k, ¬ M k → lg.ownBlock ≠ some k := fun k hM e => hM (x.log.foot k e)
 have kp : Kept (fun k => lg.ownBlock = some k) w w' := ⟨hg.os.trans b0.os, hg.tape.trans b0.tape, hg.output.trans b0.output, Nat.le_trans b0.size hg.size, fun k hk hne => km k hk hne⟩
 have kM : Kept M w w' := kp.mono (fun k e => x.log.foot k e)
 have nh : lg.ownBlock ≠ some h := fun e => blk_ne (hb h e) x.blk (by decide) rfl
 have hsz := hg.size
 refine ⟨v', w', hr, kM, km h x.blk.lt nh, by have := x.blk.lt; omega, fun k hk hM => km k hk (nM k hM), fun w'' hw'' => ?_⟩
 have k2 : Kept (fun k => k = h) w' w'' := by rw [hw'']; exact (Kept.refl (fun k => k = h) w').setCell (p := ⟨h, 6, none⟩) rfl _
 have s2 : w''.heap.size = w'.heap.size := by rw [hw'']; simp [World.setCell]
 have kall : Kept (fun k => lg.ownBlock = some k ∨ k = h) w w'' := (kp.mono (fun k e => .inl e)).trans (k2.mono (fun k e => .inr e))
 have ne : ∀ {ty : TypeId}, ty ≠ 97 → ty ≠ 102 → ∀ (b : Nat) (vs : List Value), Blk w b ty vs → ¬ (lg.ownBlock = some b ∨ b = h) := fun h1 h2 b vs hbb e => by
  rcases e with e | e
  ·exact blk_ne hbb (hb b e) h1 rfl
  ·exact blk_ne hbb x.blk h2 e
 have bh : Blk w'' h 102 (hostC (s.logged t) gl gm v') := by
  have := (x.blk.block (km h x.blk.lt nh)).set 6 v'
  rw [← hw''] at this
  exact this
 have hv' : ∀ g, v'.ownBlock = some g → more M w w'' g ∧ g ≠ h := fun g hg2 => by
  rcases hat with e | e
  ·rw [e] at hg2
   exact ⟨.inl (x.log.foot g hg2), fun e2 => nh (e2 ▸ hg2)⟩
  ·rw [e] at hg2
   have : w0.heap.size = g := Option.some.inj hg2
   have h3 := (hown.lt g (by rw [e]; exact hg2)).2
   refine ⟨.inr ⟨by omega, by omega⟩, fun e2 => ?_⟩
   have := x.blk.lt; omega
 have hown2 : w''.ownsRow 0 97 15 v' (s.log.length + 1) ((s.log ++ [t]).flatMap tcC) := by
  refine ⟨by rw [List.flatMap_append]; simpa using hown.1, ?_⟩
  have e3 : (s.log ++ [t]).flatMap tcC = s.log.flatMap tcC ++ tcC t := by simp [List.flatMap_append]
  rw [e3]
  rcases hown.2 with h2 | ⟨g, cap, cur, hv, hg0, hh, r⟩
  ·exact .inl h2
  ·exact .inr ⟨g, cap, cur, hv, hg0, by rw [k2.block g (lt_of_block hh) (hv' g (by rw [hv]; rfl)).2]; exact hh, r⟩
 have mono : ∀ k, M k → more M w w'' k := fun k hk => .inl hk
 refine ⟨⟨⟨x.good.size, x.good.pages, x.good.depth, x.good.reg, x.good.ops, by show (s.log ++ [t]).length ≤ s.ops; simp; omega, x.good.laid, x.good.len⟩, bh, x.lot.kept kall (ne (by decide) (by decide) _ _ x.lot), x.cnt, .inl x.mh, .inl x.ml, .inl x.mm, ownsMap_same x.map (kall.block _ x.map.lt (fun e => ?_)), fun k => com_mono (com_kept (x.com k) kall (ne (by decide) (by decide))) mono, ⟨?_, ?_, fun g hg2 => (hv' g hg2).1⟩, fun p hp => (row_kept (x.row p hp) kall (fun b hbb => ?_) (ne (by decide) (by decide))).mono mono, x.apart, fun k hk => ?_⟩, kall.mono (fun k e => ?_)⟩
 ·rcases e with e | e
  ·exact map_ne x.map (hb _ e) rfl
  ·exact map_ne x.map x.blk e.symm
 ·intro t' ht'
  rcases List.mem_append.1 ht' with h1 | h1
  ·exact x.log.good t' h1
  ·simp at h1; subst h1; exact ht
 ·have e4 : (s.logged t).log.length = s.log.length + 1 := by simp [HSt.logged]
  rw [e4]; exact hown2
 ·obtain ⟨vs, hv⟩ := (x.row p hp).isBlk hbb
  exact ne (by decide) (by decide) _ _ hv
 ·rcases hk with hk | hk
  ·have := x.all k hk; have := kall.size; omega
  ·exact hk.2
 ·rcases e with e | e
  ·exact x.log.foot k e
  ·subst e; exact x.mh
def OpPost (M C : Nat → Prop) (h : Nat) (s s2 : HSt) (t : Tc) (Post : (Nat → Prop) → World → Prop) (w : World) (e : Ending) (w' : World) : Prop :=
 ((s.down = true ∧ e = .returned (.int .i64 110) ∧ HostAt w' M h s ∨ s.down = false ∧ s.pow = 1 ∧ e = .returned (.int .i64 110) ∧ HostAt w' M h s.next) ∧ Kept M w w') ∨
   (s.down = false ∧ s.pow ≠ 1 ∧ e = .returned (.int .i64 (if s.pow = 2 then 110 else 0)) ∧ ∃ M2, HostAt w' M2 h (s2.logged t) ∧ (∀ k, M k → M2 k) ∧ (∀ k, M2 k → M k ∨ w.heap.size ≤ k) ∧ Kept (fun k => M k ∨ C k) w w' ∧ Post M2 w')
theorem own_slice {w : World} {base : Nat} {e : TypeId} {size n : Nat} {v : Value} {xs : List Value} (h : w.ownsRow base e size v n xs) : ∃ a m c, v = .slice a m c := by
 rcases h.2 with ⟨rfl, _⟩ | ⟨g, cap, cur, rfl, _⟩
 ·exact ⟨_, _, _, rfl⟩
 ·exact ⟨_, _, _, rfl⟩
theorem fl_not_host {w : World} {h : Nat} {s : HSt} {gl gm : Nat} {lg : Value} (b : Blk w h 102 (hostC s gl gm lg)) {o : Nat} {f : Fl} (hr : w.rangeAt h o (flC f)) : False := by
 have r0 := hr 0 (.int .i64 f.a) rfl
 have r1 := hr 1 (.int .i64 f.k) rfl
 have r2 := hr 2 (.int .i64 f.p) rfl
 have r3 := hr 3 (.int .i64 f.b) rfl
 rw [b.cell] at r0 r1 r2 r3
 match o, r0, r1, r2, r3 with
 | 0, _, r1, _, _ => simp [hostC] at r1
 | 1, r0, _, _, _ => simp [hostC] at r0
 | 2, _, r1, _, _ => simp [hostC] at r1
 | 3, r0, _, _, _ => simp [hostC] at r0
 | 4, r0, _, _, _ => simp [hostC] at r0
 | 5, _, _, r2, _ => simp [hostC] at r2
 | 6, _, r1, _, _ => simp [hostC] at r1
 | 7, r0, _, _, _ => simp [hostC] at r0
 | (n + 8), r0, _, _, _ => simp [hostC] at r0
theorem operate_any (h : Nat) (s s2 : HSt) (t : Tc) (ht : t.Good) (F : Nat) (caps : Array Value) (hent : ∀ args w, (callFunc F args).run Tryz.prog w = .ok (.enter F args) w) (M C : Nat → Prop) (Post : (Nat → Prop) → World → Prop) (w : World) (x : HostAt w M h s) (hops : s.ops < 3000000000000) (hC : ∀ k, C k → k < w.heap.size)
  (hdr : ∀ M2 (W : World), Post M2 W → Post M2 { W with drawn := W.drawn + 1 }) (hst : ∀ M2 W W', Post M2 W → (∀ k, M2 k → k < W.heap.size) → Kept M2 W W' → Post (more M2 W W') W')
  (h2 : s2.ops = s.ops + 1 ∧ s2.log = s.log)
  (HD : s.down = false → s.pow ≠ 1 → ∀ W fv, HostAt W M h s.next → FlS W M fv (s.coming s.ops) → Kept M w W → Calls Tryz.prog F (#[fv] ++ caps) W fun e W' => e = .returned (.tuple #[]) ∧ ∃ M2, HostAt W' M2 h s2 ∧ (∀ k, M k → M2 k) ∧ (∀ k, M2 k → M k ∨ W.heap.size ≤ k) ∧ Kept (fun k => M k ∨ C k) W W' ∧ Post M2 W') :
  Calls Tryz.prog 198 #[.pointer (some ⟨h, 0, none⟩), .agg (tcC t).toArray, .func (.func F) #[] caps] w (OpPost M C h s s2 t Post w) := by
 obtain ⟨gl, gm, lg0, rws, n, D, x⟩ := x
 have X : Hid (HostIn w M h s gl gm lg0 rws n D ∧ s.ops < 3000000000000) := ⟨x, hops⟩
 have hh := x.blk.lt
 have hnw : w.heap.size ≠ h := by omega
 cases hd : s.down
 ·-- the power is there
  have CB := fun W (y : HostIn W M h s gl gm lg0 rws n D) => bef_any h s M gl gm lg0 rws n D W y
  obtain ⟨fv, hfv⟩ : ∃ q, lookV D s.ops = q := ⟨_, rfl⟩
  rw [hfv] at CB
  obtain ⟨pw, hpw⟩ : ∃ q, s.pow = q := ⟨_, rfl⟩
  have CP := fun W (y : FlS W M fv (s.coming s.ops)) => power_any fv (s.coming s.ops) M W y
  rw [show powL (s.coming s.ops) = pw from hpw] at CP
  have HP : Hid (s.pow = pw) := hpw
  have HCB : Hid (∀ W, HostIn W M h s gl gm lg0 rws n D → Calls Tryz.prog 205 #[.pointer (some ⟨h, 0, none⟩)] W fun e w' => e = .returned fv ∧ HostIn w' M h s.past gl gm lg0 rws n (D.del (.int .i64 s.ops)) ∧ FlS w' M fv (s.coming s.ops) ∧ Kept (fun k => k = gm) W w') := CB
  have HCP : Hid (∀ W, FlS W M fv (s.coming s.ops) → Calls Tryz.prog 206 #[fv] W fun e w' => e = .returned (.int .i64 pw) ∧ Below W.heap.size W w') := CP
  have hop := x.good.ops
  obtain ⟨dn, hdn⟩ : ∃ q, (pw != 0) = q := ⟨_, rfl⟩
  have HDN : Hid (dn = decide (s.pow ≠ 0)) := by
   have : dn = decide (s.pow ≠ 0) := by rw [hpw, ← hdn]; by_cases e : pw = 0 <;> simp [e]
   exact this
  have hpc : pw = 0 ∨ pw = 1 ∨ pw = 2 := by rw [← hpw]; exact powL_cases _
  have HD' : Hid (s.pow ≠ 1 → ∀ W fv, HostAt W M h s.next → FlS W M fv (s.coming s.ops) → Kept M w W → Calls Tryz.prog F (#[fv] ++ caps) W fun e W' => e = .returned (.tuple #[]) ∧ ∃ M2, HostAt W' M2 h s2 ∧ (∀ k, M k → M2 k) ∧ (∀ k, M2 k → M k ∨ W.heap.size ≤ k) ∧ Kept (fun k => M k ∨ C k) W W' ∧ Post M2 W') := HD hd
  have HH : Hid (s.down = false ∧ (∀ k, C k → k < w.heap.size) ∧ s2.ops = s.ops + 1 ∧ s2.log = s.log) := ⟨hd, hC, h2⟩
  -- the states on the way
  have N : Hid (∀ w1 w2 w3, Below w.heap.size w w1 → Kept (fun k => k = gm) w1 w2 → Below w2.heap.size w2 w3 → HostIn w2 M h s.past gl gm lg0 rws n (D.del (.int .i64 s.ops)) → FlS w2 M fv (s.coming s.ops) → HostIn w3 M h s.past gl gm lg0 rws n (D.del (.int .i64 s.ops)) ∧ FlS w3 M fv (s.coming s.ops) ∧ Kept M w w3) := fun w1 w2 w3 l1 k2 l3 x2 f2 =>
   ⟨x2.later l3, f2.frame (Same.below l3 x2.all), ((Kept.new M l1).trans (k2.mono (fun k e => by rw [e]; exact X.out.1.mm))).trans (Kept.new M l3)⟩
  clear CB CP hfv HD hC h2 hd hops hpw x
  by_cases h1 : pw = 1
  ·have q1 : (pw == 1) = true := by simp [h1]
   have HQ : Hid (pw = 1) := h1
   clear h1 hpc
   go_enter Tryz.func198, Tryz.ntmps198
   go_wp2_with (first | (refine wpList_box_new rfl 97 _ rfl (tcC t) rfl ?_; intro w1 b1 s1 l1; have z1 : Hid (w1.heap.size = w.heap.size + 1) := s1; clear s1; have c7 : w1.cell? ⟨h, 7, none⟩ = some (.bool false) := by { rw [← HH.out.1]; exact (X.out.1.later l1).blk.cell 7 }) | (go_at_call 205; refine (HCB.out w1 (X.out.1.later l1)).mono ?_; rintro e w2 ⟨rfl, x2, f2, k2⟩) | (go_at_call 206; refine (HCP.out w2 f2).mono ?_; rintro e w3 ⟨rfl, l3⟩; obtain ⟨x3, f3, k3⟩ := N.out w1 w2 w3 l1 k2 l3 x2 f2; have c5 : w3.cell? ⟨h, 5, none⟩ = some (.int .i64 s.ops) := x3.blk.cell 5; have g5 : w3.frozen? ⟨h, 5, none⟩ = false := x3.blk.frozen 5; have d7 : w3.cell? ⟨h, 7, none⟩ = some (.bool s.down) := x3.blk.cell 7; have g7 : w3.frozen? ⟨h, 7, none⟩ = false := x3.blk.frozen 7; have T3 : Hid (Blk w3 w.heap.size 97 (tcC t) ∧ HostIn w3 M h s.past gl gm lg0 rws n (D.del (.int .i64 s.ops)) ∧ FlS w3 M fv (s.coming s.ops) ∧ Kept M w w3 ∧ w.heap.size < w3.heap.size) := ⟨(b1.kept k2 (map_ne (X.out.1.later l1).map b1)).later l3 (b1.kept k2 (map_ne (X.out.1.later l1).map b1)).lt, x3, f3, k3, by { have := z1.out; have := k2.size; have := l3.size; omega }⟩; clear x2 f2 k2 l3 x3 f3 k3 b1 l1 z1))
   go_ret
   obtain ⟨y, ky⟩ := T3.out.2.1.nexted (s := s) X.out.2 (.bool dn) (by rw [HDN.out]) rfl
   exact .inl ⟨.inr ⟨HH.out.1, by rw [HP.out]; exact HQ.out, rfl, y.at⟩, T3.out.2.2.2.1.trans (ky.mono (fun k e => by rw [e]; exact X.out.1.mh))⟩
  ·have q1 : (pw == 1) = false := by simp [h1]
   have HQ : Hid (pw ≠ 1 ∧ (pw = 0 ∨ pw = 2)) := ⟨h1, by omega⟩
   clear h1 hpc
   go_enter Tryz.func198, Tryz.ntmps198
   go_wp2_with (first | (refine wpList_box_new rfl 97 _ rfl (tcC t) rfl ?_; intro w1 b1 s1 l1; have z1 : Hid (w1.heap.size = w.heap.size + 1) := s1; clear s1; have c7 : w1.cell? ⟨h, 7, none⟩ = some (.bool false) := by { rw [← HH.out.1]; exact (X.out.1.later l1).blk.cell 7 }) | (go_at_call 205; refine (HCB.out w1 (X.out.1.later l1)).mono ?_; rintro e w2 ⟨rfl, x2, f2, k2⟩) | (go_at_call 206; refine (HCP.out w2 f2).mono ?_; rintro e w3 ⟨rfl, l3⟩; obtain ⟨x3, f3, k3⟩ := N.out w1 w2 w3 l1 k2 l3 x2 f2; have c5 : w3.cell? ⟨h, 5, none⟩ = some (.int .i64 s.ops) := x3.blk.cell 5; have g5 : w3.frozen? ⟨h, 5, none⟩ = false := x3.blk.frozen 5; have d7 : w3.cell? ⟨h, 7, none⟩ = some (.bool s.down) := x3.blk.cell 7; have g7 : w3.frozen? ⟨h, 7, none⟩ = false := x3.blk.frozen 7; have T3 : Hid (Blk w3 w.heap.size 97 (tcC t) ∧ HostIn w3 M h s.past gl gm lg0 rws n (D.del (.int .i64 s.ops)) ∧ FlS w3 M fv (s.coming s.ops) ∧ Kept M w w3 ∧ w.heap.size < w3.heap.size) := ⟨(b1.kept k2 (map_ne (X.out.1.later l1).map b1)).later l3 (b1.kept k2 (map_ne (X.out.1.later l1).map b1)).lt, x3, f3, k3, by { have := z1.out; have := k2.size; have := l3.size; omega }⟩; clear x2 f2 k2 l3 x3 f3 k3 b1 l1 z1))
   obtain ⟨w5, hw5⟩ : ∃ q, (w3.setCell ⟨h, 5, none⟩ (.int .i64 ((s.ops : Int) + 1))).setCell ⟨h, 7, none⟩ (.bool dn) = q := ⟨_, rfl⟩
   rw [hw5]
   have T5 : Hid (HostIn w5 M h s.next gl gm lg0 rws n (D.del (.int .i64 s.ops)) ∧ FlS w5 M fv (s.coming s.ops) ∧ Kept M w w5 ∧ Blk w5 w.heap.size 97 (tcC t) ∧ w.heap.size < w5.heap.size) := by
    obtain ⟨y, ky⟩ := T3.out.2.1.nexted (s := s) X.out.2 (.bool dn) (by rw [HDN.out]) hw5.symm
    refine ⟨y, ?_, T3.out.2.2.2.1.trans (ky.mono (fun k e => by rw [e]; exact X.out.1.mh)), T3.out.1.kept ky hnw, by have := T3.out.2.2.2.2; have := ky.size; omega⟩
    have cm := y.com
    obtain ⟨tp, gd, ao, c, e, hx⟩ := T3.out.2.2.1
    refine ⟨tp, gd, ao, c, e, fun i hi => ?_⟩
    obtain ⟨b, o, e1, hb, hM, hr⟩ := hx i hi
    refine ⟨b, o, e1, Nat.lt_of_lt_of_le hb ky.size, hM, rangeAt_same hr (ky.block b hb (fun e2 => ?_))⟩
    subst e2
    exact fl_not_host T3.out.2.1.blk hr
   refine (HD'.out (by rw [HP.out]; exact HQ.out.1) w5 fv T5.out.1.at T5.out.2.1 T5.out.2.2.1).mono ?_
   rintro e w6 ⟨rfl, M2, x6, m6, n6, k6, p6⟩
   obtain ⟨gl2, gm2, lg, rws2, n2, D2, x6⟩ := x6
   have hMw : ∀ k, M k → k < w.heap.size := X.out.1.all
   have L6 : Hid (w6.cell? ⟨h, 6, none⟩ = some lg ∧ w6.rangeAt w.heap.size 0 (tcC t) ∧ HostIn w6 M2 h s2 gl2 gm2 lg rws2 n2 D2 ∧ Kept (fun k => M k ∨ C k) w w6 ∧ Post M2 w6) := by
    refine ⟨x6.blk.cell 6, ?_, x6, (T5.out.2.2.1.mono (fun k e => .inl e)).trans k6, p6⟩
    have b6 := T5.out.2.2.2.1.kept k6 (fun e => by
     rcases e with e | e
     ·have := hMw _ e; omega
     ·have := HH.out.2.1 _ e; omega)
    intro j v hv
    rw [Nat.zero_add, b6.cell]; exact hv
   have TB6 : Hid (w.heap.size < w6.heap.size ∧ ¬ M2 w.heap.size ∧ (∀ k, M k → M2 k) ∧ (∀ k, M2 k → M k ∨ w5.heap.size ≤ k) ∧ w5.heap.size ≤ w6.heap.size) := ⟨by have := T5.out.2.2.2.2; have := k6.size; omega, fun e => by
    rcases n6 _ e with e | e
    ·have := hMw _ e; omega
    ·have := T5.out.2.2.2.2; omega, m6, n6, k6.size⟩
   have LG : Hid (s2.log.length < s2.ops) := by
    have := X.out.1.good.log
    have q : s2.log.length < s2.ops := by rw [HH.out.2.2.1, HH.out.2.2.2]; omega
    exact q
   have HM : Hid (∀ k, M k → k < w.heap.size) := hMw
   clear x6 m6 n6 k6 p6 hw5 hMw
   go_wp2_with fail
   refine wp_region_noPanic (till_region 10 (fun W => W.cell? ⟨h, 6, none⟩ = some lg ∧ W.rangeAt w.heap.size 0 (tcC t)) (by kernel_rfl) ?_)
   have hS : (fun W : World => W.cell? ⟨h, 6, none⟩ = some lg ∧ W.rangeAt w.heap.size 0 (tcC t)) { w6 with drawn := w6.drawn + 1 } := ⟨L6.out.1, L6.out.2.1⟩
   obtain ⟨w7, hw7⟩ : ∃ q, ({ w6 with drawn := w6.drawn + 1 } : World) = q := ⟨_, rfl⟩
   have TB : Hid (w.heap.size < w7.heap.size ∧ ¬ M2 w.heap.size) := by { rw [← hw7]; exact ⟨TB6.out.1, TB6.out.2.1⟩ }
   have L7 : Hid (HostIn w7 M2 h s2 gl2 gm2 lg rws2 n2 D2 ∧ Kept (fun k => M k ∨ C k) w w7 ∧ Post M2 w7 ∧ w7.heap.size = w6.heap.size) := by subst hw7; exact ⟨L6.out.2.2.1.frame ⟨Nat.le_refl _, fun _ _ => rfl⟩, ⟨L6.out.2.2.2.1.os, L6.out.2.2.2.1.tape, L6.out.2.2.2.1.output, L6.out.2.2.2.1.size, L6.out.2.2.2.1.block⟩, hdr M2 w6 L6.out.2.2.2.2, rfl⟩
   rw [hw7] at hS ⊢
   clear hw7
   refine tTake 0 (some 34) (.pointer (some ⟨h, 0, none⟩)) rfl rfl (by kernel_rfl) (by kernel_rfl) (by kernel_rfl) (by decide) (fun _ _ _ h => h) (by rfl) (fun W' => by go_simp) hS ?_
   simp only [Act.put, sqA, sqB, sqC]
   refine tTake 1 (some 35) (.pointer (some ⟨h, 0, none⟩)) rfl rfl (by kernel_rfl) (by kernel_rfl) (by kernel_rfl) (by decide) (fun _ _ _ h => h) (by rfl) (fun W' => by go_simp) hS ?_
   simp only [Act.put, sqA, sqB, sqC]
   refine tTake 2 (some 36) (.pointer (some ⟨h, 0, none⟩)) rfl rfl (by kernel_rfl) (by kernel_rfl) (by kernel_rfl) (by decide) (fun _ _ _ h => h) (by rfl) (fun W' => by go_simp) hS ?_
   simp only [Act.put, sqA, sqB, sqC]
   refine tTake 3 (some 37) (.pointer (some ⟨h, 6, none⟩)) rfl rfl (by kernel_rfl) (by kernel_rfl) (by kernel_rfl) (by decide) (fun _ _ _ h => h) (by rfl) (fun W' => by go_simp) hS ?_
   simp only [Act.put, sqA, sqB, sqC]
   refine tLoad 4 (some 38) lg rfl rfl (by kernel_rfl) (by kernel_rfl) (by kernel_rfl) (by decide) (by kernel_rfl) (by kernel_rfl) (fun _ _ _ h => h) (by rfl) (fun W' hS' => by have hc := hS'.1; go_simp) hS ?_
   simp only [Act.put, sqA, sqB, sqC]
   refine tLoadMid 5 (some 39) (tcC t) rfl rfl (by kernel_rfl) (by kernel_rfl) (by kernel_rfl) (by decide) (by kernel_rfl) (by kernel_rfl) (fun _ _ _ h => h) (by rfl) 97 (.tmp 4) rfl w.heap.size 0 rfl _ (fun _ h => h.2) Tryz.underlying97 rfl (sizeTc ht) hS ?_
   simp only [Act.put, sqA, sqB, sqC]
   obtain ⟨v8, w8, hr8, k8, e8, l8, o8, f8⟩ := L7.out.1.log_more t ht LG.out
   have hS8 : (fun W : World => W.cell? ⟨h, 6, none⟩ = some lg ∧ W.rangeAt w.heap.size 0 (tcC t)) w8 := ⟨(World.cell?_of_block (w := w7) (a := ⟨h, 6, none⟩) e8).trans hS.1, rangeAt_same hS.2 (o8 _ TB.out.1 TB.out.2)⟩
   have hS7 : (fun W : World => W.cell? ⟨h, 6, none⟩ = some lg ∧ W.rangeAt w.heap.size 0 (tcC t)) (w7.alloc (.cells (tcC t).toArray 97)) := ⟨(World.cell?_of_block (w := w7) (a := ⟨h, 6, none⟩) (Below.heap_alloc w7 _ h L7.out.1.blk.lt)).trans hS.1, rangeAt_same hS.2 (Below.heap_alloc w7 _ _ TB.out.1)⟩
   refine till_run 6 (some 40) (.slice (some ⟨w7.heap.size, 0, none⟩) 1 1) (w7.alloc (.cells (tcC t).toArray 97)) (by kernel_rfl) rfl rfl (by rfl) (exec_build 51 1 _ rfl #[(0, .agg (tcC t).toArray)] (by simp [Act.eval]) (build1_tc t ht w7)) hS7 ?_
   simp only [Act.put, sqA, sqB, sqC]
   refine till_run 7 (some 41) v8 w8 (by kernel_rfl) rfl rfl (by rfl) (exec_append (.tmp 38) (.tmp 40) 51 51 rfl rfl lg (.slice (some ⟨w7.heap.size, 0, none⟩) 1 1) rfl rfl hr8) hS8 ?_
   simp only [Act.put, sqA, sqB, sqC]
   clear hS hS7
   have hS := hS8
   refine tTake 8 (some 42) (.pointer (some ⟨h, 0, none⟩)) rfl rfl (by kernel_rfl) (by kernel_rfl) (by kernel_rfl) (by decide) (fun _ _ _ h => h) (by rfl) (fun W' => by go_simp) hS ?_
   simp only [Act.put, sqA, sqB, sqC]
   refine tTake 9 (some 43) (.pointer (some ⟨h, 6, none⟩)) rfl rfl (by kernel_rfl) (by kernel_rfl) (by kernel_rfl) (by decide) (fun _ _ _ h => h) (by rfl) (fun W' => by go_simp) hS ?_
   simp only [Act.put, sqA, sqB, sqC]
   have c8 := hS.1
   have g8 : w8.frozen? ⟨h, 6, none⟩ = false := (World.frozen?_of_block (w := w7) (a := ⟨h, 6, none⟩) e8).trans (L7.out.1.blk.frozen 6)
   have F8 : Hid (HostIn (w8.setCell ⟨h, 6, none⟩ v8) (more M2 w7 (w8.setCell ⟨h, 6, none⟩ v8)) h (s2.logged t) gl2 gm2 v8 rws2 n2 D2 ∧ Kept M2 w7 (w8.setCell ⟨h, 6, none⟩ v8)) := f8 _ rfl
   clear hS hS8 f8 k8 o8 hr8
   obtain ⟨vo, vn, vc, rfl⟩ := own_slice F8.out.1.log.own
   refine till_at (by kernel_rfl) ?_
   refine wpAny_ready (rs := [10]) (by kernel_rfl) (by simp) (AllReady.cons rfl (fun K hK => ?_) AllReady.nil)
   go_simp
   refine hK _ _ ?_
   clear hK K
   refine wpAny_done (by kernel_rfl) (NoPanic.normal ?_) _
   have FIN : Hid (∃ M3, HostAt (w8.setCell ⟨h, 6, none⟩ (.slice vo vn vc)) M3 h (s2.logged t) ∧ (∀ k, M k → M3 k) ∧ (∀ k, M3 k → M k ∨ w.heap.size ≤ k) ∧ Kept (fun k => M k ∨ C k) w (w8.setCell ⟨h, 6, none⟩ (.slice vo vn vc)) ∧ Post M3 (w8.setCell ⟨h, 6, none⟩ (.slice vo vn vc))) := by
    obtain ⟨q1, q2⟩ := F8.out
    refine ⟨_, q1.at, fun k hk => .inl (TB6.out.2.2.1 k hk), fun k hk => ?_, ?_, hst M2 w7 _ L7.out.2.2.1 L7.out.1.all q2⟩
    ·have := T5.out.2.2.2.2
     have := TB6.out.2.2.2.2
     have := L7.out.2.2.2
     rcases hk with hk | hk
     ·rcases TB6.out.2.2.2.1 k hk with h3 | h3
      ·exact .inl h3
      ·exact .inr (by omega)
     ·exact .inr (by omega)
    ·have k7 := L7.out.2.1
     have := T5.out.2.2.2.2
     have := k7.size
     refine ⟨q2.os.trans k7.os, q2.tape.trans k7.tape, q2.output.trans k7.output, Nat.le_trans k7.size q2.size, fun k hk hS => (q2.block k (by omega) (fun hm => ?_)).trans (k7.block k hk hS)⟩
     rcases TB6.out.2.2.2.1 k hm with h3 | h3
     ·exact hS (.inl h3)
     ·omega
   clear F8 L7 c8 g8 e8 l8
   rcases HQ.out.2 with h0 | h0
   ·have q2 : (pw == 2) = false := by simp [h0]
    have HR : Hid ((if s.pow = 2 then (110 : Int) else 0) = 0) := if_neg (by rw [HP.out]; omega)
    clear h0
    go_wp2_with fail
    go_ret
    exact .inr ⟨HH.out.1, by rw [HP.out]; exact HQ.out.1, by rw [HR.out]; rfl, FIN.out⟩
   ·have q2 : (pw == 2) = true := by simp [h0]
    have HR : Hid ((if s.pow = 2 then (110 : Int) else 0) = 110) := if_pos (by rw [HP.out]; omega)
    clear h0
    go_wp2_with fail
    go_ret
    exact .inr ⟨HH.out.1, by rw [HP.out]; exact HQ.out.1, by rw [HR.out]; rfl, FIN.out⟩
 ·have HH : Hid (s.down = true) := hd
  clear HD hst hdr x
  go_enter Tryz.func198, Tryz.ntmps198
  go_wp2_with (first | (refine wpList_box_new rfl 97 _ rfl (tcC t) rfl ?_; intro w1 b1 s1 l1; have c7 : w1.cell? ⟨h, 7, none⟩ = some (.bool true) := by { rw [← HH.out]; exact (X.out.1.later l1).blk.cell 7 }))
  go_ret
  exact .inl ⟨.inl ⟨HH.out, rfl, (X.out.1.later l1).at⟩, Kept.new _ l1⟩
theorem wpList_boxV {ops : Array Oper} {rest : List Oper} {o : Oper} {a : Act} {Q : Exit → Act → World → Prop} {w : World} (hgd : o.guard = none) (t : TypeId) (x : Operand) (ho : o.op = .box t x) (v : Value) (hx : a.eval x = v) (hv : v.cells = #[v])
  (h : ∀ w', Blk w' w.heap.size t [v] → w'.heap.size = w.heap.size + 1 → Below w.heap.size w w' → wpList Tryz.prog ops Q rest (a.put o.dst (.pointer (some ⟨w.heap.size, 0, none⟩))) w') : wpList Tryz.prog ops Q (o :: rest) a w := by
 refine wpList_plain hgd fun K hK => ?_
 unfold Oper.wp execOp
 simp only [ho, hx, Sem.run_bind, Instr.box, hv, newVar, newRow, run_newObj_alloc, Sem.run_pure, Result.andThen_ok]
 exact hK _ _ (h _ (heap_alloc_new w _) (by simp) ((Below.refl _ _).alloc (Nat.le_refl _) _))
def HSt.opE (s : HSt) : Int := if s.down = true ∨ s.pow = 1 ∨ s.pow = 2 then 110 else 0
def HSt.opS (s : HSt) (f : HSt → HSt) (t : Tc) : HSt := if s.down = true then s else if s.pow = 1 then s.next else (f s.next).logged t
def HSt.done (s : HSt) : Prop := s.down = false ∧ s.pow ≠ 1
structure Goes (M M2 : Nat → Prop) (w w' : World) : Prop where
 sub : ∀ k, M k → M2 k
 new : ∀ k, M2 k → M k ∨ w.heap.size ≤ k
 kept : Kept M w w'
theorem Goes.later {M M2 : Nat → Prop} {w w1 w' : World} (hb : Below w.heap.size w w1) (h : Goes M M2 w1 w') : Goes M M2 w w' :=
 ⟨h.sub, fun k hk => (h.new k hk).imp id (fun x => Nat.le_trans hb.size x), (Kept.new M hb).trans h.kept⟩
theorem opE_eq (s : HSt) : s.opE = 0 ∨ s.opE = 110 := by unfold HSt.opE; split <;> simp
theorem operate_all (h : Nat) (s : HSt) (f : HSt → HSt) (t : Tc) (ht : t.Good) (F : Nat) (caps : Array Value) (hent : ∀ args w, (callFunc F args).run Tryz.prog w = .ok (.enter F args) w) (M C : Nat → Prop) (Post : (Nat → Prop) → World → Prop) (w : World) (x : HostAt w M h s) (hops : s.ops < 3000000000000) (hC : ∀ k, C k → k < w.heap.size)
  (hdr : ∀ M2 (W : World), Post M2 W → Post M2 { W with drawn := W.drawn + 1 }) (hst : ∀ M2 W W', Post M2 W → (∀ k, M2 k → k < W.heap.size) → Kept M2 W W' → Post (more M2 W W') W')
  (h2 : (f s.next).ops = s.ops + 1 ∧ (f s.next).log = s.log)
  (HD : s.done → ∀ W fv, HostAt W M h s.next → FlS W M fv (s.coming s.ops) → Kept M w W → Calls Tryz.prog F (#[fv] ++ caps) W fun e W' => e = .returned (.tuple #[]) ∧ ∃ M2, HostAt W' M2 h (f s.next) ∧ (∀ k, M k → M2 k) ∧ (∀ k, M2 k → M k ∨ W.heap.size ≤ k) ∧ Kept (fun k => M k ∨ C k) W W' ∧ Post M2 W') :
  Calls Tryz.prog 198 #[.pointer (some ⟨h, 0, none⟩), .agg (tcC t).toArray, .func (.func F) #[] caps] w fun e w' => e = .returned (.int .i64 s.opE) ∧ ∃ M2, HostAt w' M2 h (s.opS f t) ∧ (∀ k, M k → M2 k) ∧ (∀ k, M2 k → M k ∨ w.heap.size ≤ k) ∧ Kept (fun k => M k ∨ C k) w w' ∧ (s.done → Post M2 w') := by
 refine (operate_any h s (f s.next) t ht F caps hent M C Post w x hops hC hdr hst h2 (fun h1 h3 => HD ⟨h1, h3⟩)).mono ?_
 rintro e w' (⟨⟨h1, rfl, y⟩ | ⟨h1, h3, rfl, y⟩, k⟩ | ⟨h1, h3, rfl, M2, y, m1, m2, k, p⟩)
 ·refine ⟨by rw [HSt.opE, if_pos (.inl h1)], M, by rw [HSt.opS, if_pos h1]; exact y, fun _ h => h, fun _ h => .inl h, k.mono (fun _ h => .inl h), fun hd => ?_⟩
  rw [hd.1] at h1; cases h1
 ·exact ⟨by rw [HSt.opE, if_pos (.inr (.inl h3))], M, by rw [HSt.opS, if_neg (by rw [h1]; simp), if_pos h3]; exact y, fun _ h => h, fun _ h => .inl h, k.mono (fun _ h => .inl h), fun hd => absurd h3 hd.2⟩
 ·refine ⟨?_, M2, by rw [HSt.opS, if_neg (by rw [h1]; simp), if_neg h3]; exact y, m1, m2, k, fun _ => p⟩
  unfold HSt.opE
  by_cases e : s.pow = 2
  ·rw [if_pos e, if_pos (.inr (.inr e))]
  ·rw [if_neg e, if_neg (by rw [h1]; simp; exact ⟨h3, e⟩)]
theorem clone_row {w w' : World} {v : Value} {n : Nat} {zs : List Int} (hl : zs.length = n) (hn : 1 ≤ n) (h : w'.ownsRow w.heap.size 5 1 v n (zs.map (Value.int .u8))) : ∃ g cap, v = .slice (some ⟨g, 0, none⟩) n cap ∧ RowAt w' g zs ∧ w.heap.size ≤ g := by
 rcases own_len hl h with ⟨_, e⟩ | ⟨g, cap, rfl, hr, hg, _⟩
 ·omega
 ·exact ⟨g, cap, rfl, hr, hg⟩
theorem HostIn.wider {w : World} {M : Nat → Prop} {h : Nat} {s : HSt} {gl gm : Nat} {lg : Value} {rws : List Value} {n : Nat} {D : DataW Value} (x : HostIn w M h s gl gm lg rws n D) (g : Nat) (hg : g < w.heap.size) : HostIn w (fun k => M k ∨ k = g) h s gl gm lg rws n D :=
 ⟨x.good, x.blk, x.lot, x.cnt, .inl x.mh, .inl x.ml, .inl x.mm, x.map, fun k => com_mono (x.com k) (fun _ h => .inl h), x.log.mono (fun _ h => .inl h), fun p hp => (x.row p hp).mono (fun _ h => .inl h), x.apart, fun k hk => by
  rcases hk with hk | rfl
  ·exact x.all k hk
  ·exact hg⟩
theorem enter_write : ∀ args w, (callFunc 202 args).run Tryz.prog w = .ok (.enter 202 args) w := fun args w => by kernel_rfl
theorem write1_any (h : Nat) (s : HSt) (p : Nat) (hp : p < s.pages) (ao : Option Addr) (c : Nat) (zs : List Int) (hr : (s.laid p).length < s.ops) (fv : Value) (bh bp bb : Nat) (M : Nat → Prop) (w : World) (x : HostAt w M h s) (b1 : Blk w bh 42 [.pointer (some ⟨h, 0, none⟩)]) (b2 : Blk w bp 3 [.int .i64 p]) (b3 : Blk w bb 37 [.slice ao s.size c]) (hx : Seen w ao s.size zs) :
  Calls Tryz.prog 202 #[fv, .pointer (some ⟨bh, 0, none⟩), .pointer (some ⟨bp, 0, none⟩), .pointer (some ⟨bb, 0, none⟩)] w fun e w' => e = .returned (.tuple #[]) ∧ ∃ M2, HostAt w' M2 h (s.wrote p zs) ∧ (∀ k, M k → M2 k) ∧ (∀ k, M2 k → M k ∨ w.heap.size ≤ k) ∧ Kept M w w' := by
 have X : Hid (HostAt w M h s ∧ Blk w bh 42 [.pointer (some ⟨h, 0, none⟩)] ∧ Blk w bp 3 [.int .i64 p] ∧ Blk w bb 37 [.slice ao s.size c] ∧ Seen w ao s.size zs) := ⟨x, b1, b2, b3, hx⟩
 have G : Hid s.Good := by obtain ⟨_, _, _, _, _, _, q⟩ := x; exact q.good
 have B : Hid (bh < w.heap.size ∧ bp < w.heap.size ∧ bb < w.heap.size) := ⟨b1.lt, b2.lt, b3.lt⟩
 clear x b1 b2 b3 hx
 go_enter Tryz.func202, Tryz.ntmps202
 refine wp_region_noPanic (till_region 4 (fun W => W.cell? ⟨bh, 0, none⟩ = some (.pointer (some ⟨h, 0, none⟩)) ∧ W.cell? ⟨bp, 0, none⟩ = some (.int .i64 p) ∧ W.cell? ⟨bb, 0, none⟩ = some (.slice ao s.size c)) (by kernel_rfl) ?_)
 obtain ⟨w1, hw1⟩ : ∃ q, ({ w with drawn := w.drawn + 1 } : World) = q := ⟨_, rfl⟩
 have V1 : Hid ((fun W : World => W.cell? ⟨bh, 0, none⟩ = some (.pointer (some ⟨h, 0, none⟩)) ∧ W.cell? ⟨bp, 0, none⟩ = some (.int .i64 p) ∧ W.cell? ⟨bb, 0, none⟩ = some (.slice ao s.size c)) w1 ∧ HostAt w1 M h s ∧ Seen w1 ao s.size zs ∧ Kept M w w1 ∧ w1.heap.size = w.heap.size ∧ w1.heap = w.heap) := by rw [← hw1]; exact ⟨⟨X.out.2.1.cell 0, X.out.2.2.1.cell 0, X.out.2.2.2.1.cell 0⟩, X.out.1.frame ⟨Nat.le_refl _, fun _ _ => rfl⟩, ⟨X.out.2.2.2.2.len, X.out.2.2.2.2.top, X.out.2.2.2.2.bytes, X.out.2.2.2.2.cells⟩, (Kept.refl M w).drew, rfl, rfl⟩
 rw [hw1]
 clear hw1
 have hS := V1.out.1
 refine tLoad 0 (some 5) (.pointer (some ⟨h, 0, none⟩)) rfl rfl (by kernel_rfl) (by kernel_rfl) (by kernel_rfl) (by decide) (by kernel_rfl) (by kernel_rfl) (fun _ _ _ h => h) (by rfl) (fun W' hS' => by obtain ⟨s1, s2, s3⟩ := hS'; go_simp) hS ?_
 simp only [Act.put, sqA, sqB, sqC]
 refine tLoad 1 (some 6) (.int .i64 p) rfl rfl (by kernel_rfl) (by kernel_rfl) (by kernel_rfl) (by decide) (by kernel_rfl) (by kernel_rfl) (fun _ _ _ h => h) (by rfl) (fun W' hS' => by obtain ⟨s1, s2, s3⟩ := hS'; go_simp) hS ?_
 simp only [Act.put, sqA, sqB, sqC]
 refine till_run 2 (some 7) (.slice ao s.size c) w1 (by kernel_rfl) rfl rfl (by rfl) (by have hc := hS.2.2; go_simp) hS ?_
 simp only [Act.put, sqA, sqB, sqC]
 refine till_ready 3 (by kernel_rfl) rfl (fun K hK => ?_)
 go_simp
 go_wp2_with (go_at_call 55; refine (clone_any ao s.size c zs w1 V1.out.2.2.1).mono ?_; rintro e w2 ⟨v2, rfl, o2, l2⟩)
 obtain ⟨g, cap, rfl, r2, hg2⟩ := clone_row V1.out.2.2.1.len (by have := G.out.size; omega) o2
 have hS2 : (fun W : World => W.cell? ⟨bh, 0, none⟩ = some (.pointer (some ⟨h, 0, none⟩)) ∧ W.cell? ⟨bp, 0, none⟩ = some (.int .i64 p) ∧ W.cell? ⟨bb, 0, none⟩ = some (.slice ao s.size c)) w2 := ⟨(l2.cell (p := ⟨bh, 0, none⟩) (by have := B.out.1; have := V1.out.2.2.2.2.1; simp; omega)).trans hS.1, (l2.cell (p := ⟨bp, 0, none⟩) (by have := B.out.2.1; have := V1.out.2.2.2.2.1; simp; omega)).trans hS.2.1, (l2.cell (p := ⟨bb, 0, none⟩) (by have := B.out.2.2; have := V1.out.2.2.2.2.1; simp; omega)).trans hS.2.2⟩
 refine ⟨hS2, ?_⟩
 have U2 : Hid (∃ gl gm lg rws n D, HostIn w2 (fun k => M k ∨ k = g) h s gl gm lg rws n D) := by
  obtain ⟨gl, gm, lg, rws, n, D, y⟩ := V1.out.2.1.later l2
  exact ⟨gl, gm, lg, rws, n, D, y.wider g r2.lt⟩
 have R2 : Hid (RowAt w2 g zs ∧ w1.heap.size ≤ g ∧ Below w1.heap.size w1 w2) := ⟨r2, hg2, l2⟩
 clear hS hS2 o2 l2 r2 hg2
 obtain ⟨gl, gm, lg, rws, n, D, y2⟩ := U2.out
 refine till_at (by kernel_rfl) ?_
 refine wpAny_ready (rs := [4]) (by kernel_rfl) (by simp) (AllReady.cons rfl (fun K hK => ?_) AllReady.nil)
 go_simp
 go_wp2_with (go_at_call 203; refine (keep_any h s p hp zs V1.out.2.2.1.len V1.out.2.2.1.bytes hr g cap (fun k => M k ∨ k = g) gl gm lg rws n D w2 y2 (.inr rfl) R2.out.1).mono ?_; rintro e w3 ⟨rfl, y3, k3⟩)
 refine wpAny_done (by kernel_rfl) (NoPanic.normal ?_) _
 go_end0
 refine ⟨rfl, more (fun k => M k ∨ k = g) w2 w3, y3, fun k hk => .inl (.inl hk), fun k hk => ?_, ?_⟩
 ·have := R2.out.2.1; have := R2.out.2.2.size; have := V1.out.2.2.2.2.1
  rcases hk with (hk | hk) | hk
  ·exact .inl hk
  ·exact .inr (by omega)
  ·exact .inr (by omega)
 ·have := R2.out.2.1; have := R2.out.2.2.size; have := V1.out.2.2.2.2.1
  have k1 := V1.out.2.2.2.1
  have l2 := R2.out.2.2
  refine ⟨k3.os.trans (l2.os.trans k1.os), k3.tape.trans (l2.tape.trans k1.tape), k3.output.trans (l2.output.trans k1.output), Nat.le_trans k1.size (Nat.le_trans l2.size k3.size), fun k hk hS => (k3.block k (by omega) (fun e => ?_)).trans ((l2.block k (by omega)).trans (k1.block k hk hS))⟩
  rcases e with e | e
  ·exact hS e
  ·omega
def wrE (s : HSt) (p : Int) (n : Nat) : Int := if hasP s p = false then 2 else if n ≠ s.size then 4 else s.opE
theorem write_bad (h : Nat) (s : HSt) (p : Int) (ao : Option Addr) (n c : Nat) (M : Nat → Prop) (w : World) (x : HostAt w M h s) (hn : n ≤ 140737488355328) (hb : hasP s p = false ∨ n ≠ s.size) :
  Calls Tryz.prog 196 #[.pointer (some ⟨h, 0, none⟩), .int .i64 p, .slice ao n c] w fun e w' => e = .returned (.int .i64 (wrE s p n)) ∧ Below w.heap.size w w' := by
 have CC : Hid (∀ W, Below w.heap.size w W → Calls Tryz.prog 197 #[.pointer (some ⟨h, 0, none⟩), .int .i64 p] W fun e w' => e = .returned (.int .i64 (if hasP s p then 0 else 2)) ∧ W = w') := fun W hW => checkH_any h s p M W (x.later hW)
 have hh : h < w.heap.size := by obtain ⟨_, _, _, _, _, _, q⟩ := x; exact q.blk.lt
 have c0 : w.cell? ⟨h, 0, none⟩ = some (.int .i64 s.size) := by obtain ⟨_, _, _, _, _, _, q⟩ := x; exact q.blk.cell 0
 have hsz : s.size ≤ 4124 := by obtain ⟨_, _, _, _, _, _, q⟩ := x; exact q.good.size.2
 clear x
 cases hp : hasP s p
 ·rw [hp] at CC
  have HF : Hid (wrE s p n = 2) := if_pos hp
  clear hp hb
  go_enter Tryz.func196, Tryz.ntmps196
  go_wp2_with (first | ((with_reducible show wpList _ _ _ (({ dst := some 3, op := _, type := _, pos := _, after := _, guard := _ } : Oper) :: _) _ _); refine wpList_boxV rfl 42 _ rfl (.pointer (some ⟨h, 0, none⟩)) rfl rfl ?_; intro w1 b1 s1 l1; have z1 : Hid (w1.heap.size = w.heap.size + 1) := s1; clear s1) | ((with_reducible show wpList _ _ _ (({ dst := some 4, op := _, type := _, pos := _, after := _, guard := _ } : Oper) :: _) _ _); refine wpList_boxV rfl 3 _ rfl (.int .i64 p) rfl rfl ?_; intro w2 b2 s2 l2; have z2 : Hid (w2.heap.size = w1.heap.size + 1) := s2; clear s2) | ((with_reducible show wpList _ _ _ (({ dst := some 5, op := _, type := _, pos := _, after := _, guard := _ } : Oper) :: _) _ _); refine wpList_boxV rfl 37 _ rfl (.slice ao n c) rfl rfl ?_; intro w3 b3 s3 l3; have z3 : Hid (w3.heap.size = w2.heap.size + 1) := s3; clear s3; have d0 : w3.cell? ⟨w.heap.size, 0, none⟩ = some (.pointer (some ⟨h, 0, none⟩)) := ((b1.later l2 b1.lt).later l3 (b1.later l2 b1.lt).lt).cell 0; have d1 : w3.cell? ⟨w1.heap.size, 0, none⟩ = some (.int .i64 p) := (b2.later l3 b2.lt).cell 0; have d2 : w3.cell? ⟨w2.heap.size, 0, none⟩ = some (.slice ao n c) := b3.cell 0; have hb3 : Below w.heap.size w w3 := below_chain (below_chain l1 l2 l1.size) l3 (by have := l1.size; have := l2.size; omega); have d3 : w3.cell? ⟨h, 0, none⟩ = some (.int .i64 s.size) := (hb3.cell (p := ⟨h, 0, none⟩) hh).trans c0) | (go_at_call 197; refine (CC.out w3 hb3).mono ?_; rintro e _ ⟨rfl, rfl⟩))
  go_ret
  exact ⟨ret_int HF.out.symm, hb3⟩
 ·rw [hp] at CC
  have hne : n ≠ s.size := by rcases hb with h1 | h1; rw [hp] at h1; cases h1; exact h1
  have HF : Hid (wrE s p n = 4) := by
   have : wrE s p n = 4 := by unfold wrE; rw [if_neg (by rw [hp]; simp), if_pos hne]
   exact this
  have hne' : ((n : Int) != (s.size : Int)) = true := by simp; omega
  clear hp hb hne
  go_enter Tryz.func196, Tryz.ntmps196
  go_wp2_with (first | ((with_reducible show wpList _ _ _ (({ dst := some 3, op := _, type := _, pos := _, after := _, guard := _ } : Oper) :: _) _ _); refine wpList_boxV rfl 42 _ rfl (.pointer (some ⟨h, 0, none⟩)) rfl rfl ?_; intro w1 b1 s1 l1; have z1 : Hid (w1.heap.size = w.heap.size + 1) := s1; clear s1) | ((with_reducible show wpList _ _ _ (({ dst := some 4, op := _, type := _, pos := _, after := _, guard := _ } : Oper) :: _) _ _); refine wpList_boxV rfl 3 _ rfl (.int .i64 p) rfl rfl ?_; intro w2 b2 s2 l2; have z2 : Hid (w2.heap.size = w1.heap.size + 1) := s2; clear s2) | ((with_reducible show wpList _ _ _ (({ dst := some 5, op := _, type := _, pos := _, after := _, guard := _ } : Oper) :: _) _ _); refine wpList_boxV rfl 37 _ rfl (.slice ao n c) rfl rfl ?_; intro w3 b3 s3 l3; have z3 : Hid (w3.heap.size = w2.heap.size + 1) := s3; clear s3; have d0 : w3.cell? ⟨w.heap.size, 0, none⟩ = some (.pointer (some ⟨h, 0, none⟩)) := ((b1.later l2 b1.lt).later l3 (b1.later l2 b1.lt).lt).cell 0; have d1 : w3.cell? ⟨w1.heap.size, 0, none⟩ = some (.int .i64 p) := (b2.later l3 b2.lt).cell 0; have d2 : w3.cell? ⟨w2.heap.size, 0, none⟩ = some (.slice ao n c) := b3.cell 0; have hb3 : Below w.heap.size w w3 := below_chain (below_chain l1 l2 l1.size) l3 (by have := l1.size; have := l2.size; omega); have d3 : w3.cell? ⟨h, 0, none⟩ = some (.int .i64 s.size) := (hb3.cell (p := ⟨h, 0, none⟩) hh).trans c0) | (go_at_call 197; refine (CC.out w3 hb3).mono ?_; rintro e _ ⟨rfl, rfl⟩))
  go_quiet (fail)
  go_wp2_with fail
  go_ret
  exact ⟨ret_int HF.out.symm, below_dn hb3 _⟩
theorem write_good (h : Nat) (s : HSt) (p : Nat) (hp : p < s.pages) (ao : Option Addr) (n c : Nat) (zs : List Int) (hn : n = s.size) (M : Nat → Prop) (w : World) (x : HostAt w M h s) (hx : Seen w ao n zs) (ho : ∀ b o, 0 < n → ao = some ⟨b, o, none⟩ → ¬ M b) (hops : s.ops < 3000000000000) :
  Calls Tryz.prog 196 #[.pointer (some ⟨h, 0, none⟩), .int .i64 p, .slice ao n c] w fun e w' => e = .returned (.int .i64 s.opE) ∧ ∃ M2, HostAt w' M2 h (s.opS (fun s => s.wrote p zs) ⟨1, p, s.size, headL zs⟩) ∧ Goes M M2 w w' := by
 have hpt : hasP s p = true := by simp [hasP]; omega
 have CC : Hid (∀ W, Below w.heap.size w W → Calls Tryz.prog 197 #[.pointer (some ⟨h, 0, none⟩), .int .i64 p] W fun e w' => e = .returned (.int .i64 0) ∧ W = w') := fun W hW => by
  have := checkH_any h s p M W (x.later hW)
  rw [hpt] at this
  exact this
 have G : Hid s.Good := by obtain ⟨_, _, _, _, _, _, q⟩ := x; exact q.good
 have CO : Hid (∀ bp bb w4 w5, w.heap.size ≤ bp → w.heap.size ≤ bb → HostAt w4 M h s → Blk w4 w.heap.size 42 [.pointer (some ⟨h, 0, none⟩)] → Blk w4 bp 3 [.int .i64 p] → Blk w4 bb 37 [.slice ao n c] → Seen w4 ao n zs → Below w4.heap.size w4 w5 → Calls Tryz.prog 198 #[.pointer (some ⟨h, 0, none⟩), .agg (tcC ⟨1, p, s.size, headL zs⟩).toArray, .func (.func 202) #[] #[.pointer (some ⟨w.heap.size, 0, none⟩), .pointer (some ⟨bp, 0, none⟩), .pointer (some ⟨bb, 0, none⟩)]] w5 fun e w' => e = .returned (.int .i64 s.opE) ∧ ∃ M2, HostAt w' M2 h (s.opS (fun s => s.wrote p zs) ⟨1, p, s.size, headL zs⟩) ∧ (∀ k, M k → M2 k) ∧ (∀ k, M2 k → M k ∨ w5.heap.size ≤ k) ∧ Kept (fun k => M k ∨ False) w5 w' ∧ (s.done → True)) := fun bp bb w4 w5 hbp hbb y b1 b2 b3 hx4 l5 =>
  operate_all h s (fun s => s.wrote p zs) ⟨1, p, s.size, headL zs⟩ (headL_length zs) 202 _ enter_write M (fun _ => False) (fun _ _ => True) w5 (y.later l5) hops (fun _ h => h.elim) (fun _ _ _ => trivial) (fun _ _ _ _ _ _ => trivial) ⟨rfl, rfl⟩ (fun _ W fv y2 _ k5 => by
   have nb : ∀ b, w.heap.size ≤ b → ¬ M b := fun b hb e => by have := x.all b e; omega
   have hx5 := hx4.later l5 (Nat.le_refl _)
   have hxW : Seen W ao n zs := hx5.kept k5 (fun b o h1 h2 => ho b o h1 h2)
   subst hn
   refine (write1_any h s.next p hp ao c zs (by have := G.out.laid p; show (s.laid p).length < s.ops + 1; omega) fv _ _ _ M W y2 ((b1.later l5 b1.lt).kept k5 (nb _ (Nat.le_refl _))) ((b2.later l5 b2.lt).kept k5 (nb _ hbp)) ((b3.later l5 b3.lt).kept k5 (nb _ hbb)) hxW).mono ?_
   rintro e W' ⟨rfl, M2, y3, m1, m2, k3⟩
   exact ⟨rfl, M2, y3, m1, m2, k3.mono (fun k e => .inl e), trivial⟩)
 have X : Hid (HostAt w M h s ∧ Seen w ao n zs) := ⟨x, hx⟩
 have hh : h < w.heap.size := by obtain ⟨_, _, _, _, _, _, q⟩ := x; exact q.blk.lt
 have c0 : w.cell? ⟨h, 0, none⟩ = some (.int .i64 s.size) := by obtain ⟨_, _, _, _, _, _, q⟩ := x; exact q.blk.cell 0
 have hsz : s.size ≤ 4124 := G.out.size.2
 have hne' : ((n : Int) != (s.size : Int)) = false := by simp; omega
 obtain ⟨E, hE'⟩ : ∃ q, s.opE = q := ⟨_, rfl⟩
 rw [hE'] at CO ⊢
 clear hE' x hops hx ho hpt hn
 go_enter Tryz.func196, Tryz.ntmps196
 go_wp2_with (first | ((with_reducible show wpList _ _ _ (({ dst := some 3, op := _, type := _, pos := _, after := _, guard := _ } : Oper) :: _) _ _); refine wpList_boxV rfl 42 _ rfl (.pointer (some ⟨h, 0, none⟩)) rfl rfl ?_; intro w1 b1 s1 l1; have z1 : Hid (w1.heap.size = w.heap.size + 1) := s1; clear s1) | ((with_reducible show wpList _ _ _ (({ dst := some 4, op := _, type := _, pos := _, after := _, guard := _ } : Oper) :: _) _ _); refine wpList_boxV rfl 3 _ rfl (.int .i64 p) rfl rfl ?_; intro w2 b2 s2 l2; have z2 : Hid (w2.heap.size = w1.heap.size + 1) := s2; clear s2) | ((with_reducible show wpList _ _ _ (({ dst := some 5, op := _, type := _, pos := _, after := _, guard := _ } : Oper) :: _) _ _); refine wpList_boxV rfl 37 _ rfl (.slice ao n c) rfl rfl ?_; intro w3 b3 s3 l3; have z3 : Hid (w3.heap.size = w2.heap.size + 1) := s3; clear s3; have d0 : w3.cell? ⟨w.heap.size, 0, none⟩ = some (.pointer (some ⟨h, 0, none⟩)) := ((b1.later l2 b1.lt).later l3 (b1.later l2 b1.lt).lt).cell 0; have d1 : w3.cell? ⟨w1.heap.size, 0, none⟩ = some (.int .i64 p) := (b2.later l3 b2.lt).cell 0; have d2 : w3.cell? ⟨w2.heap.size, 0, none⟩ = some (.slice ao n c) := b3.cell 0; have hb3 : Below w.heap.size w w3 := below_chain (below_chain l1 l2 l1.size) l3 (by have := l1.size; have := l2.size; omega); have d3 : w3.cell? ⟨h, 0, none⟩ = some (.int .i64 s.size) := (hb3.cell (p := ⟨h, 0, none⟩) hh).trans c0) | (go_at_call 197; refine (CC.out w3 hb3).mono ?_; rintro e _ ⟨rfl, rfl⟩))
 have V3 : Hid (HostAt w3 M h s ∧ Blk w3 w.heap.size 42 [.pointer (some ⟨h, 0, none⟩)] ∧ Blk w3 w1.heap.size 3 [.int .i64 p] ∧ Blk w3 w2.heap.size 37 [.slice ao n c] ∧ Seen w3 ao n zs ∧ Below w.heap.size w w3) := ⟨X.out.1.later hb3, (b1.later l2 b1.lt).later l3 (b1.later l2 b1.lt).lt, b2.later l3 b2.lt, b3, X.out.2.later hb3 (Nat.le_refl _), hb3⟩
 clear b1 b2 b3 l1 l2 l3 z3 hb3 hh c0
 go_quiet (fail)
 go_wp2_with fail
 refine wp_region_noPanic (till_region 7 (fun W => W.cell? ⟨w.heap.size, 0, none⟩ = some (.pointer (some ⟨h, 0, none⟩)) ∧ W.cell? ⟨w1.heap.size, 0, none⟩ = some (.int .i64 p) ∧ W.cell? ⟨w2.heap.size, 0, none⟩ = some (.slice ao n c)) (by kernel_rfl) ?_)
 obtain ⟨w4, hw4⟩ : ∃ q, ({ heap := (w3.drewN nq).heap, tape := (w3.drewN nq).tape, drawn := (w3.drewN nq).drawn + 1, os := (w3.drewN nq).os, output := (w3.drewN nq).output } : World) = q := ⟨_, rfl⟩
 have V4 : Hid (HostAt w4 M h s ∧ Blk w4 w.heap.size 42 [.pointer (some ⟨h, 0, none⟩)] ∧ Blk w4 w1.heap.size 3 [.int .i64 p] ∧ Blk w4 w2.heap.size 37 [.slice ao n c] ∧ Seen w4 ao n zs ∧ Below w.heap.size w w4) := by rw [← hw4]; exact ⟨V3.out.1.frame ⟨Nat.le_refl _, fun _ _ => rfl⟩, V3.out.2.1, V3.out.2.2.1, V3.out.2.2.2.1, ⟨V3.out.2.2.2.2.1.len, V3.out.2.2.2.2.1.top, V3.out.2.2.2.2.1.bytes, V3.out.2.2.2.2.1.cells⟩, ⟨V3.out.2.2.2.2.2.os, V3.out.2.2.2.2.2.tape, V3.out.2.2.2.2.2.output, V3.out.2.2.2.2.2.size, V3.out.2.2.2.2.2.block⟩⟩
 rw [hw4]
 clear hw4
 have hS : (fun W : World => W.cell? ⟨w.heap.size, 0, none⟩ = some (.pointer (some ⟨h, 0, none⟩)) ∧ W.cell? ⟨w1.heap.size, 0, none⟩ = some (.int .i64 p) ∧ W.cell? ⟨w2.heap.size, 0, none⟩ = some (.slice ao n c)) w4 := ⟨V4.out.2.1.cell 0, V4.out.2.2.1.cell 0, V4.out.2.2.2.1.cell 0⟩
 refine tLoad 0 (some 21) (.pointer (some ⟨h, 0, none⟩)) rfl rfl (by kernel_rfl) (by kernel_rfl) (by kernel_rfl) (by decide) (by kernel_rfl) (by kernel_rfl) (fun _ _ _ h => h) (by rfl) (fun W' hS' => by obtain ⟨s1, s2, s3⟩ := hS'; go_simp) hS ?_
 simp only [Act.put, sqA, sqB, sqC]
 refine tLoad 1 (some 22) (.pointer (some ⟨h, 0, none⟩)) rfl rfl (by kernel_rfl) (by kernel_rfl) (by kernel_rfl) (by decide) (by kernel_rfl) (by kernel_rfl) (fun _ _ _ h => h) (by rfl) (fun W' hS' => by obtain ⟨s1, s2, s3⟩ := hS'; go_simp) hS ?_
 simp only [Act.put, sqA, sqB, sqC]
 refine tLoad 2 (some 23) (.int .i64 p) rfl rfl (by kernel_rfl) (by kernel_rfl) (by kernel_rfl) (by decide) (by kernel_rfl) (by kernel_rfl) (fun _ _ _ h => h) (by rfl) (fun W' hS' => by obtain ⟨s1, s2, s3⟩ := hS'; go_simp) hS ?_
 simp only [Act.put, sqA, sqB, sqC]
 refine tLoad 3 (some 24) (.slice ao n c) rfl rfl (by kernel_rfl) (by kernel_rfl) (by kernel_rfl) (by decide) (by kernel_rfl) (by kernel_rfl) (fun _ _ _ h => h) (by rfl) (fun W' hS' => by obtain ⟨s1, s2, s3⟩ := hS'; go_simp) hS ?_
 simp only [Act.put, sqA, sqB, sqC]
 refine tTake 5 (some 26) (.func (.func 202) #[] #[.pointer (some ⟨w.heap.size, 0, none⟩), .pointer (some ⟨w1.heap.size, 0, none⟩), .pointer (some ⟨w2.heap.size, 0, none⟩)]) rfl rfl (by kernel_rfl) (by kernel_rfl) (by kernel_rfl) (by decide) (fun _ _ _ h => h) (by rfl) (fun W' => by go_simp) hS ?_
 simp only [Act.put, sqA, sqB, sqC]
 refine till_ready 4 (by kernel_rfl) rfl (fun K hK => ?_)
 go_simp
 go_wp2_with (go_at_call 199; refine (touch_write h s p ao n c zs M w4 V4.out.1 V4.out.2.2.2.2.1).mono ?_; rintro e w5 ⟨rfl, l5⟩)
 have V5 : Hid (Blk w5 w.heap.size 42 [.pointer (some ⟨h, 0, none⟩)] ∧ Blk w5 w1.heap.size 3 [.int .i64 p] ∧ Blk w5 w2.heap.size 37 [.slice ao n c] ∧ Below w4.heap.size w4 w5) := ⟨V4.out.2.1.later l5 V4.out.2.1.lt, V4.out.2.2.1.later l5 V4.out.2.2.1.lt, V4.out.2.2.2.1.later l5 V4.out.2.2.2.1.lt, l5⟩
 have hS5 : (fun W : World => W.cell? ⟨w.heap.size, 0, none⟩ = some (.pointer (some ⟨h, 0, none⟩)) ∧ W.cell? ⟨w1.heap.size, 0, none⟩ = some (.int .i64 p) ∧ W.cell? ⟨w2.heap.size, 0, none⟩ = some (.slice ao n c)) w5 := ⟨V5.out.1.cell 0, V5.out.2.1.cell 0, V5.out.2.2.1.cell 0⟩
 refine ⟨hS5, ?_⟩
 refine till_ready 6 (by kernel_rfl) rfl (fun K hK => ?_)
 go_simp
 go_wp2_with (go_at_call 198; refine (CO.out w1.heap.size w2.heap.size w4 w5 (by have := z1.out; omega) (by have := z1.out; have := z2.out; omega) V4.out.1 V4.out.2.1 V4.out.2.2.1 V4.out.2.2.2.1 V4.out.2.2.2.2.1 l5).mono ?_; rintro e w6 ⟨rfl, M2, y, m1, m2, k6, _⟩)
 have kM : Kept M w5 w6 := k6.mono (fun k e => e.elim id False.elim)
 have nM : ∀ b, w.heap.size ≤ b → ¬ M b := fun b hb e => by have := X.out.1.all b e; omega
 have U6 : Hid (HostAt w6 M2 h (s.opS (fun s => s.wrote p zs) ⟨1, p, s.size, headL zs⟩) ∧ Goes M M2 w w6) := ⟨y, Goes.later V4.out.2.2.2.2.2 (Goes.later l5 ⟨m1, m2, kM⟩)⟩
 have hS6 : (fun W : World => W.cell? ⟨w.heap.size, 0, none⟩ = some (.pointer (some ⟨h, 0, none⟩)) ∧ W.cell? ⟨w1.heap.size, 0, none⟩ = some (.int .i64 p) ∧ W.cell? ⟨w2.heap.size, 0, none⟩ = some (.slice ao n c)) w6 := ⟨(V5.out.1.kept kM (nM _ (Nat.le_refl _))).cell 0, (V5.out.2.1.kept kM (nM _ (by have := z1.out; omega))).cell 0, (V5.out.2.2.1.kept kM (nM _ (by have := z1.out; have := z2.out; omega))).cell 0⟩
 refine ⟨hS6, ?_⟩
 clear y m1 m2 k6 kM nM l5 hS hS5 hS6
 refine till_at (by kernel_rfl) ?_
 refine take_op 7 (some 6) (.int .i64 E) rfl rfl (by kernel_rfl) (by kernel_rfl) (by kernel_rfl) (fun _ _ _ h => h) (by rfl) (fun _ => by rfl) ?_
 simp only [Act.put, sqA, sqB, sqC]
 refine wpAny_done (by kernel_rfl) (NoPanic.normal ?_) _
 go_wp2_with fail
 go_ret
 exact ⟨rfl, M2, U6.out.1, U6.out.2⟩
end Go.Proofs.YtpanagghppdiiaaGreat
