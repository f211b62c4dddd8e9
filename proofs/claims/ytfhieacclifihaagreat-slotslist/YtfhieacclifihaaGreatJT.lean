/- Over a host without faults slots are a list (what is read being of bulk at most 1048576): whatever is set, paired and got, each Get tells what was laid there last, and no slot changes another one: trystlaw15.SlotsList returns true. Condition: the bulk. -/
import Derived.Test.YtfhieacclifihaaGreatRows
import Derived.WalkKit
import Derived.WalkSpells
import Derived.WalkLawsBesides
import Derived.RowKit
import Derived.Laws.BitsAllLaws
import Derived.Deep.RegionHeld3
import Derived.Deep.DrawnRows
import Derived.BigRegion
import Derived.Deep.Draws
import Derived.Deep.QuietTactic
import Derived.BigQuiet
import Derived.OpenShut
import Derived.Deep.AppendLies
import Derived.Laws.AppendOwnNone
import Derived.ProofKit
import Derived.ShutString
import Derived.ChangeOld
import Derived.SizedLaws
import Derived.Deep.Slices
import Derived.Deep.Strs
import Derived.JoinedCond
import Derived.Test.YtfhieacclifihaaGreatJA
import Derived.Test.YtfhieacclifihaaGreatJB
import Derived.Test.YtfhieacclifihaaGreatJC
import Derived.Test.YtfhieacclifihaaGreatJD
import Derived.Test.YtfhieacclifihaaGreatJE
import Derived.Test.YtfhieacclifihaaGreatJF
import Derived.Test.YtfhieacclifihaaGreatJG
import Derived.Test.YtfhieacclifihaaGreatJH
import Derived.Test.YtfhieacclifihaaGreatJI
import Derived.Test.YtfhieacclifihaaGreatJJ
import Derived.Test.YtfhieacclifihaaGreatJK
import Derived.Test.YtfhieacclifihaaGreatJL
namespace Go.Proofs.YtfhieacclifihaaGreat
open Go.RowKit
set_option linter.unusedVariables false
set_option linter.unusedSimpArgs false
attribute [local go_sem ↓] Go.wp_at_zero Go.wp_at_succ


theorem RowAt.set {w : World} {g : Nat} {zs : List Int} (h : RowAt w g zs) (j : Nat) (hj : j < zs.length) (z : Int) : RowAt (w.setCell ⟨g, j, none⟩ (.int .u8 z)) g (zs.set j z) := by
  obtain ⟨rest, h⟩ := h
  refine ⟨rest, ?_⟩
  rw [heap_setCell_same w g j _ 5 _ h, List.map_set]
  simp [hj]
theorem RowAt.drew {w : World} {g : Nat} {zs : List Int} (h : RowAt w g zs) : RowAt w.drew g zs := h
end Go.Proofs.YtfhieacclifihaaGreat
namespace Go.Proofs.YtfhieacclifihaaGreat
open Go.RowKit
set_option linter.unusedVariables false
set_option linter.unusedSimpArgs false

theorem one_new (w : World) (x : Value) (t : TypeId) : ∀ j u, [x][j]? = some u → (w.alloc (.cells #[x] t)).cell? ((⟨w.heap.size, 0, none⟩ : Addr).add j) = some u := by
  intro j u hj
  rw [add_mid, Nat.zero_add]
  have h : (w.alloc (.cells #[x] t)).heap[w.heap.size]? = some (.cells [x].toArray t (0, 0)) := heap_alloc_new w _
  rw [cell_of_row _ _ j _ t (0, 0) h]
  simpa using hj
set_option maxHeartbeats 1000000 in
set_option maxRecDepth 20000 in
theorem copyB_any (ao : Option Addr) (n c : Nat) (zs : List Int) (w : World) (hx : Seen w ao n zs) :
    Calls Tryz.prog 62 #[.slice ao n c] w fun e w' => ∃ v, e = .returned v ∧ w'.ownsRow w.heap.size 5 1 v n (zs.map (Value.int .u8)) ∧ Below w.heap.size w w' := by
  have t1 := hx.top
  have HL : Hid (zs.length = n) := hx.len
  obtain ⟨i0, hi, hz0, hz1, hz2⟩ := info_parts info_byte
  obtain ⟨w0, hmk, ho1, hg0⟩ := run_make_own (P := Tryz.prog) w w.heap.size 66 5 i0 (.int .u8 0) 1 Tryz.underlying66 hi hz0 hz1 .i64 .i64 n (by rw [hz2]; omega) (by unfold maxLen; omega) (Nat.le_refl _)
  have hb1 : Below w.heap.size w w0 := (Below.refl _ _).grown hg0 (Nat.le_refl _) (fun j hj => by cases hj)
  go_enter Tryz.func62, Tryz.ntmps62
  go_wp2
  go_loopw [3, 4] (fun v i wr => ∃ k : Nat, k ≤ n ∧ i = .int .i64 k ∧ wr.ownsRow w.heap.size 5 1 v k ((zs.map (Value.int .u8)).take k) ∧ Below w.heap.size w wr) (fun _ i _ => n - (intOf i).toNat)
  case atStart => exact ⟨0, Nat.zero_le _, rfl, ho1, hb1⟩
  case round =>
    clear ho1 hb1 hg0
    obtain ⟨k, hk, rfl, hown, hbel⟩ := hrel
    by_cases hlt : k < n
    · obtain ⟨b, o, rfl, hb, hc⟩ := hx.cells (by omega)
      have c1 := (hbel.cell (p := ⟨b, o + k, none⟩) hb).trans (hc k hlt)
      obtain ⟨Z, hZ⟩ : ∃ Z, zs.getD k 0 = Z := ⟨_, rfl⟩
      rw [hZ] at c1
      have HZ : Hid (zs.getD k 0 = Z) := hZ
      have hsz := hbel.size
      have i1 : (0 : Int) ≤ (k : Int) := by omega
      have i2 : (k : Int) < (n : Int) := by omega
      clear hZ hc hx
      go_wp2_with (at_builtin; refine wpList_append_own _ rfl _ _ 66 rfl w.heap.size 5 i0 (.int .u8 0) 1 1 Tryz.underlying66 hi hz0 hz1 hz2 rfl (by decide) _ _ _ rfl (hown.alloc _) ⟨wr.heap.size, 0, none⟩ 1 1 [.int .u8 Z] rfl rfl ?c1 ?c2 ?c3 ?c4 ?c5 ?_)
      case c1 => exact one_new _ _ _
      case c2 => intro u hu; simp at hu; subst hu; rfl
      case c3 => unfold maxLen; omega
      case c4 => omega
      case c5 => simp; omega
      · intro v' w1 hown' hgrow _
        have R := step_own hbel hown (by have := HL.out; omega) HZ.out hown' hgrow
        clear hown' hgrow hown hbel c1
        go_wp2
        go_roundw
        case rel => exact ⟨k + 1, by omega, by go_num, R.1, R.2⟩
        case measure => simp [intOf] <;> omega
    · obtain rfl : k = n := by omega
      have HO : Hid (wr.ownsRow w.heap.size 5 1 u3 k ((zs.map (Value.int .u8)).take k)) := hown
      have HB : Hid (Below w.heap.size w wr) := hbel
      clear hown hbel hx
      go_wp2
      go_ret
      refine ⟨_, rfl, ?_, HB.out⟩
      have h := HO.out
      rwa [List.take_of_length_le (by have := HL.out; simp; omega)] at h
end Go.Proofs.YtfhieacclifihaaGreat
namespace Go.Proofs.YtfhieacclifihaaGreat
open Go.RowKit
set_option linter.unusedVariables false
set_option linter.unusedSimpArgs false

theorem putL_get (zs : List Int) (k : Nat) (bs : List Int) (hk : k + bs.length ≤ zs.length) (j : Nat) : (putL zs k bs)[j]? = if k ≤ j ∧ j < k + bs.length then bs[j - k]? else zs[j]? := by
  have hl : (zs.take k).length = k := by simp; omega
  unfold putL
  by_cases h1 : j < k
  · rw [if_neg (by omega), List.append_assoc, List.getElem?_append_left (by omega), List.getElem?_take, if_pos h1]
  · by_cases h2 : j < k + bs.length
    · rw [if_pos ⟨by omega, h2⟩, List.append_assoc, List.getElem?_append_right (by omega), hl, List.getElem?_append_left (by omega)]
    · rw [if_neg (by omega), List.getElem?_append_right (by simp; omega)]
      have e : (zs.take k ++ bs).length = k + bs.length := by rw [List.length_append, hl]
      rw [e, List.getElem?_drop]
      congr 1
      omega
/-- A piece that lies there, and one that lies elsewhere. -/
theorem piece_same (zs : List Int) (k : Nat) (bs : List Int) (hk : k + bs.length ≤ zs.length) : ((putL zs k bs).drop k).take bs.length = bs := by
  apply List.ext_getElem?
  intro j
  rw [List.getElem?_take]
  split
  · rename_i h
    rw [List.getElem?_drop, putL_get zs k bs hk, if_pos ⟨by omega, by omega⟩, Nat.add_sub_cancel_left]
  · rename_i h
    rw [List.getElem?_eq_none (by omega)]
theorem piece_other (zs : List Int) (k m s : Nat) (bs : List Int) (hk : k + bs.length ≤ zs.length) (h : m + s ≤ k ∨ k + bs.length ≤ m) : ((putL zs k bs).drop m).take s = (zs.drop m).take s := by
  apply List.ext_getElem?
  intro j
  rw [List.getElem?_take, List.getElem?_take]
  split
  · rename_i hj
    rw [List.getElem?_drop, List.getElem?_drop, putL_get zs k bs hk, if_neg (by omega)]
  · rfl
theorem rec_same (txt : Nat → List Int) (v : SlV) (i : Nat) (bs : List Int) (hb : bs.length = v.size) (hk : i % v.each * v.size + v.size ≤ (txt (v.first + i / v.each)).length) : recL (setT txt v i bs) v i = bs := by
  unfold recL setT
  rw [show upn txt (v.first + i / v.each) _ (v.first + i / v.each) = putL (txt (v.first + i / v.each)) (i % v.each * v.size) bs by simp [upn]]
  have := piece_same (txt (v.first + i / v.each)) (i % v.each * v.size) bs (by omega)
  rw [hb] at this
  exact this
theorem rec_other (txt : Nat → List Int) (v : SlV) (i j : Nat) (bs : List Int) (he : 1 ≤ v.each) (hb : bs.length = v.size) (hk : i % v.each * v.size + v.size ≤ (txt (v.first + i / v.each)).length) (hij : i ≠ j) : recL (setT txt v i bs) v j = recL txt v j := by
  unfold recL setT
  by_cases hp : v.first + j / v.each = v.first + i / v.each
  · rw [hp]
    rw [show upn txt (v.first + i / v.each) _ (v.first + i / v.each) = putL (txt (v.first + i / v.each)) (i % v.each * v.size) bs by simp [upn]]
    refine piece_other _ _ _ _ _ (by omega) ?_
    have h1 := Nat.div_add_mod i v.each
    have h2 := Nat.div_add_mod j v.each
    have h3 : i / v.each = j / v.each := by omega
    have h4 : i % v.each ≠ j % v.each := fun e => hij (by rw [← h1, ← h2, h3, e])
    rw [hb]
    rcases Nat.lt_or_gt_of_ne h4 with h5 | h5
    · right
      have : (i % v.each + 1) * v.size ≤ j % v.each * v.size := Nat.mul_le_mul_right _ h5
      rw [Nat.add_mul, Nat.one_mul] at this
      exact this
    · left
      have : (j % v.each + 1) * v.size ≤ i % v.each * v.size := Nat.mul_le_mul_right _ h5
      rw [Nat.add_mul, Nat.one_mul] at this
      exact this
  · rw [show upn txt (v.first + i / v.each) _ (v.first + j / v.each) = txt (v.first + j / v.each) by simp only [upn, if_neg hp]]
end Go.Proofs.YtfhieacclifihaaGreat
namespace Go.Proofs.YtfhieacclifihaaGreat
open Go.RowKit
set_option linter.unusedVariables false
set_option linter.unusedSimpArgs false

/-- What a row of slots is seen to do, in numbers. -/
structure Sn where
  l : List Ax
  nm : Nm
def Sn.get (cf : Cf) (v : SlV) (s : Sn) (i : Nat) : Sn := ⟨s.l ++ [⟨0, i, 0⟩], s.nm.load cf (v.first + i / v.each)⟩
def Sn.set (cf : Cf) (v : SlV) (s : Sn) (i : Nat) : Sn := ⟨s.l ++ [⟨1, i, 0⟩], (s.nm.load cf (v.first + i / v.each)).save cf (v.first + i / v.each)⟩
def Sn.pair (cf : Cf) (v : SlV) (s : Sn) (i j : Nat) : Sn := ⟨s.l ++ [⟨2, i, j⟩], s.nm.pair cf (v.first + i / v.each) (v.first + j / v.each)⟩
/-- Bounds: so many steps were done at most. -/
structure Bn (cf : Cf) (s : Sn) (m : Nat) : Prop where
  l : s.l.length ≤ m
  ord : s.nm.ord.length ≤ cf.win
  log : s.nm.log.length ≤ 6 * m
  wr : s.nm.writes ≤ 6 * m
theorem Bn.get {cf : Cf} {s : Sn} {m : Nat} (hw : 2 ≤ cf.win) (v : SlV) (b : Bn cf s m) (i : Nat) : Bn cf (s.get cf v i) (m + 1) := by
  have h := load_len cf s.nm (v.first + i / v.each) b.ord hw
  exact ⟨by have := b.l; show (s.l ++ _).length ≤ _; simp; omega, h.1, by have := b.log; have := h.2.1; show (s.nm.load _ _).log.length ≤ _; omega, by have := b.wr; have := h.2.2; show (s.nm.load _ _).writes ≤ _; omega⟩
theorem Bn.set {cf : Cf} {s : Sn} {m : Nat} (hw : 2 ≤ cf.win) (v : SlV) (b : Bn cf s m) (i : Nat) : Bn cf (s.set cf v i) (m + 1) := by
  have h := load_len cf s.nm (v.first + i / v.each) b.ord hw
  have h2 := save_len cf (s.nm.load cf (v.first + i / v.each)) (v.first + i / v.each) h.1 hw
  exact ⟨by have := b.l; show (s.l ++ _).length ≤ _; simp; omega, h2.1, by have := b.log; have := h.2.1; have := h2.2.1; show ((s.nm.load _ _).save _ _).log.length ≤ _; omega, by have := b.wr; have := h.2.2; have := h2.2.2; show ((s.nm.load _ _).save _ _).writes ≤ _; omega⟩
theorem Bn.pair {cf : Cf} {s : Sn} {m : Nat} (hw : 2 ≤ cf.win) (v : SlV) (b : Bn cf s m) (i j : Nat) : Bn cf (s.pair cf v i j) (m + 1) := by
  obtain ⟨a, ha⟩ : ∃ a, v.first + i / v.each = a := ⟨_, rfl⟩
  obtain ⟨c, hc⟩ : ∃ c, v.first + j / v.each = c := ⟨_, rfl⟩
  have hp : (s.pair cf v i j).nm = s.nm.pair cf a c := by show s.nm.pair cf _ _ = _; rw [ha, hc]
  have hl : (s.pair cf v i j).l.length ≤ m + 1 := by have := b.l; show (s.l ++ _).length ≤ _; simp; omega
  have h := load_len cf s.nm a b.ord hw
  by_cases e : a = c
  · have h2 := save_len cf (s.nm.load cf a) a h.1 hw
    have hp : (s.pair cf v i j).nm = (s.nm.load cf a).save cf a := by rw [hp]; unfold Nm.pair; rw [if_pos e]
    exact ⟨hl, by rw [hp]; exact h2.1, by rw [hp]; have := b.log; have := h.2.1; have := h2.2.1; omega, by rw [hp]; have := b.wr; have := h.2.2; have := h2.2.2; omega⟩
  · have h1 := load_len cf (s.nm.load cf a) c h.1 hw
    have h2 := save_len cf ((s.nm.load cf a).load cf c) a h1.1 hw
    have h3 := save_len cf (((s.nm.load cf a).load cf c).save cf a) c h2.1 hw
    have hp : (s.pair cf v i j).nm = (((s.nm.load cf a).load cf c).save cf a).save cf c := by rw [hp]; unfold Nm.pair; rw [if_neg e]
    exact ⟨hl, by rw [hp]; exact h3.1, by rw [hp]; have := b.log; have := h.2.1; have := h1.2.1; have := h2.2.1; have := h3.2.1; omega, by rw [hp]; have := b.wr; have := h.2.2; have := h1.2.2; have := h2.2.2; have := h3.2.2; omega⟩
/-- The slots in block g, over the pager v.p and the host h, stand for the rows R, within the blocks S. -/
def Lr (w : World) (cf : Cf) (v : SlV) (g h : Nat) (s : Sn) (R : Nat → List Int) (S : Nat → Prop) : Prop :=
  ∃ lg txt F, PagS w v.p h cf s.nm.ord s.nm txt F ∧ SlS w g { v with log := lg } s.l ∧ (∀ b, slF g { v with log := lg } b → ¬ F b) ∧ (∀ b, S b ↔ (F b ∨ slF g { v with log := lg } b)) ∧ ∀ i, i < v.n → recL txt v i = R i
section
variable {w w' : World} {cf : Cf} {v : SlV} {g h : Nat} {s : Sn} {R : Nat → List Int} {S T : Nat → Prop}
theorem Lr.lt (x : Lr w cf v g h s R S) : ∀ b, S b → b < w.heap.size := by
  obtain ⟨lg, txt, F, a, b, c, d, e⟩ := x
  intro i hi
  rcases (d i).1 hi with e | e
  · exact a.all i e
  · exact b.all i e
theorem Lr.off (x : Lr w cf v g h s R S) (hk : Kept T w w') (hd : ∀ b, T b → ¬ S b) : Lr w' cf v g h s R S := by
  obtain ⟨lg, txt, F, a, b, c, d, e⟩ := x
  exact ⟨lg, txt, F, a.off hk (fun i hi hF => hd i hi ((d i).2 (.inl hF))), b.off hk (fun i hi hs => hd i hi ((d i).2 (.inr hs))), c, d, e⟩
theorem Lr.later (x : Lr w cf v g h s R S) (hb : Below w.heap.size w w') : Lr w' cf v g h s R S :=
  x.off (Kept.new (fun _ => False) hb) (fun _ h => h.elim)
theorem Lr.row (hn : SlN v cf) (x : Lr w cf v g h s R S) (i : Nat) (hi : i < v.n) : (R i).length = v.size ∧ Bytes (R i) := by
  obtain ⟨lg, txt, F, a, b, c, d, e⟩ := x
  have tl : ∀ s, (txt s).length = cf.text ∧ Bytes (txt s) := by
    obtain ⟨gh, gp, v', fh, fp, szp, Mh, s, Mt, z, hf, ha⟩ := a
    exact z.tl
  rw [← e i hi]
  have h1 := hn.place i
  have h2 := tl (v.first + i / v.each)
  refine ⟨?_, fun z hz => h2.2 z (List.mem_of_mem_drop (List.mem_of_mem_take hz))⟩
  unfold recL
  rw [List.length_take, List.length_drop, h2.1]
  omega
theorem len_R (x : Lr w cf v g h s R S) : Calls Tryz.prog 18 #[.pointer (some ⟨g, 0, none⟩)] w fun e w' => e = .returned (.int .i64 (v.n : Int)) ∧ w = w' := by
  obtain ⟨lg, txt, F, a, y, c, d⟩ := x
  exact len_any g { v with log := lg } w y.blk
theorem get_R (x : Lr w cf v g h s R S) (hn : SlN v cf) (i m : Nat) (b : Bn cf s m) (hm : m ≤ 100000000) (hi : i < v.n) :
    Calls Tryz.prog 28 #[.pointer (some ⟨g, 0, none⟩), .int .i64 (i : Int)] w fun e w' => ∃ rb, e = .returned (.tuple #[.slice (some ⟨rb, 0, none⟩) v.size v.size, .int .i64 0]) ∧ Blk w' rb 5 (u8s (R i)) ∧ w.heap.size ≤ rb ∧ ∃ S', Lr w' cf v g h (s.get cf v i) R S' ∧ ¬ S' rb ∧ Kept S w w' ∧ ∀ b, S' b → S b ∨ w.heap.size ≤ b := by
  obtain ⟨lg, txt, F, a, y, c, d, e⟩ := x
  refine (get_S g { v with log := lg } s.l h cf s.nm txt F i w a y c ⟨hn.each, hn.size, hn.fit, hn.n, hn.pages⟩ hi (by have := b.l; omega) b.ord (by have := b.log; omega) (by have := b.wr; omega)).mono ?_
  rintro _ w' ⟨rb, F', lg', rfl, hb, x', y', c', k', f', h1, h2, h3⟩
  rw [← e i hi]
  exact ⟨rb, rfl, hb, h1, fun b => F' b ∨ slF g { v with log := lg' } b, ⟨lg', txt, F', x', y', c', fun b => Iff.rfl, e⟩, fun h => h.elim h2 h3, k'.mono (fun b hb => (d b).2 hb), fun b hb => (f' b hb).elim (fun e => .inl ((d b).2 (.inl e))) (fun e => e.elim (fun e => .inl ((d b).2 (.inr e))) .inr)⟩
theorem set_R (x : Lr w cf v g h s R S) (hn : SlN v cf) (i m : Nat) (b : Bn cf s m) (hm : m ≤ 100000000) (hi : i < v.n) (bo : Option Addr) (bc : Nat) (bs : List Int) (hs : Seen w bo v.size bs) (hbo : ∀ b o, bo = some ⟨b, o, none⟩ → b < w.heap.size ∧ ¬ S b) :
    Calls Tryz.prog 24 #[.pointer (some ⟨g, 0, none⟩), .int .i64 (i : Int), .slice bo v.size bc] w fun e w' => e = .returned (.int .i64 0) ∧ ∃ S', Lr w' cf v g h (s.set cf v i) (upn R i bs) S' ∧ Kept S w w' ∧ ∀ b, S' b → S b ∨ w.heap.size ≤ b := by
  obtain ⟨lg, txt, F, a, y, c, d, e⟩ := x
  have tl : ∀ s, (txt s).length = cf.text ∧ Bytes (txt s) := by
    obtain ⟨gh, gp, v', fh, fp, szp, Mh, s, Mt, z, hf, ha⟩ := a
    exact z.tl
  refine (set_S g { v with log := lg } s.l h cf s.nm txt F i bo bc bs w a y c ⟨hn.each, hn.size, hn.fit, hn.n, hn.pages⟩ hi (by have := b.l; omega) hs (fun b' o e => ⟨(hbo b' o e).1, fun hF => (hbo b' o e).2 ((d _).2 (.inl hF)), fun hF => (hbo b' o e).2 ((d _).2 (.inr hF))⟩) b.ord (by have := b.log; omega) (by have := b.wr; omega)).mono ?_
  rintro _ w' ⟨rfl, F', lg', x', y', c', k', f'⟩
  refine ⟨rfl, fun b => F' b ∨ slF g { v with log := lg' } b, ⟨lg', _, F', x', y', c', fun b => Iff.rfl, fun j hj => ?_⟩, k'.mono (fun b hb => (d b).2 hb), fun b hb => (f' b hb).elim (fun e => .inl ((d b).2 (.inl e))) (fun e => e.elim (fun e => .inl ((d b).2 (.inr e))) .inr)⟩
  have hk : i % v.each * v.size + v.size ≤ (txt (v.first + i / v.each)).length := by rw [(tl _).1]; exact hn.place i
  by_cases hij : j = i
  · subst hij
    refine (rec_same txt v j bs hs.len hk).trans ?_
    unfold upn; rw [if_pos rfl]
  · refine (rec_other txt v i j bs hn.each hs.len hk (fun e => hij e.symm)).trans ?_
    unfold upn; rw [if_neg hij]; exact e j hj
theorem pair_R (x : Lr w cf v g h s R S) (hn : SlN v cf) (i j m : Nat) (b : Bn cf s m) (hm : m ≤ 100000000) (hi : i < v.n) (hj : j < v.n) (hij : i ≠ j) (B : FuncId) (caps : Array Value) (A' B' : List Int) (hent : ∀ args W, (callFunc B args).run Tryz.prog W = .ok (.enter B args) W)
    (hA : A'.length = v.size ∧ Bytes A' ∧ B'.length = v.size ∧ Bytes B') (HF : ∀ W, Kept S w W → FPair W B caps v.size (R i) (R j) A' B') :
    Calls Tryz.prog 25 #[.pointer (some ⟨g, 0, none⟩), .int .i64 (i : Int), .int .i64 (j : Int), .func (.func B) #[] caps] w fun e w' => e = .returned (.int .i64 0) ∧ ∃ S', Lr w' cf v g h (s.pair cf v i j) (upn (upn R i A') j B') S' ∧ Kept S w w' ∧ ∀ b, S' b → S b ∨ w.heap.size ≤ b := by
  obtain ⟨lg, txt, F, a, y, c, d, e⟩ := x
  have tl : ∀ s, (txt s).length = cf.text ∧ Bytes (txt s) := by
    obtain ⟨gh, gp, v', fh, fp, szp, Mh, s, Mt, z, hf, ha⟩ := a
    exact z.tl
  have hk : ∀ k, k % v.each * v.size + v.size ≤ (txt (v.first + k / v.each)).length := fun k => by rw [(tl _).1]; exact hn.place k
  refine (pair_S g { v with log := lg } s.l h cf s.nm txt F i j B caps A' B' w a y c ⟨hn.each, hn.size, hn.fit, hn.n, hn.pages⟩ hi hj hij (by have := b.l; omega) b.ord (by have := b.log; omega) (by have := b.wr; omega) hent hA (fun W hW => by
    have h1 : recL txt { v with log := lg } i = R i := e i hi
    have h2 : recL txt { v with log := lg } j = R j := e j hj
    rw [h1, h2]
    exact HF W (hW.mono (fun b hb => (d b).2 hb)))).mono ?_
  rintro _ w' ⟨rfl, F', lg', x', y', c', k', f'⟩
  refine ⟨rfl, fun b => F' b ∨ slF g { v with log := lg' } b, ⟨lg', _, F', x', y', c', fun b => Iff.rfl, fun k hk' => ?_⟩, k'.mono (fun b hb => (d b).2 hb), fun b hb => (f' b hb).elim (fun e => .inl ((d b).2 (.inl e))) (fun e => e.elim (fun e => .inl ((d b).2 (.inr e))) .inr)⟩
  have hk2 : ∀ k, k % v.each * v.size + v.size ≤ (setT txt v i A' (v.first + k / v.each)).length := fun k => by
    unfold setT upn
    split
    · rw [putL_length (by rw [hA.1]; exact hk i), (tl _).1]; exact hn.place k
    · exact hk k
  show recL (setT (setT txt v i A') v j B') v k = _
  by_cases e1 : k = j
  · subst e1
    refine (rec_same _ v k B' hA.2.2.1 (hk2 k)).trans ?_
    unfold upn; rw [if_pos rfl]
  · refine (rec_other _ v j k B' hn.each hA.2.2.1 (hk2 j) (fun e => e1 e.symm)).trans ?_
    by_cases e2 : k = i
    · subst e2
      refine (rec_same txt v k A' hA.1 (hk k)).trans ?_
      unfold upn; rw [if_neg e1, if_pos rfl]
    · refine (rec_other txt v i k A' hn.each hA.1 (hk i) (fun e => e2 e.symm)).trans ?_
      unfold upn; rw [if_neg e1, if_neg e2]; exact e k hk'
end
end Go.Proofs.YtfhieacclifihaaGreat
namespace Go.Proofs.YtfhieacclifihaaGreat
open Go.RowKit
set_option linter.unusedVariables false
set_option linter.unusedSimpArgs false

/-- The first k bytes laid over by others. -/
def itY (B b : List Int) : Nat → List Int
  | 0 => B
  | k + 1 => (itY B b k).set k (bits .xor .u8 ((itY B b k).getD k 0) (b.getD k 0))
theorem itY_length (B b : List Int) : ∀ k, (itY B b k).length = B.length
  | 0 => rfl
  | k + 1 => by rw [itY, List.length_set, itY_length B b k]
theorem itY_bytes {B b : List Int} (h : Bytes B) (hb : Bytes b) : ∀ k, Bytes (itY B b k)
  | 0 => h
  | k + 1 => bytes_setL (itY_bytes h hb k) k (xor8 _ _ (bytes_getL (itY_bytes h hb k) k) (bytes_getL hb k))
theorem own_len1 {w : World} {base : Nat} {v : Value} {n : Nat} {zs : List Int} (h1 : 1 ≤ n) (hl : zs.length = n) (h : w.ownsRow base 5 1 v n (zs.map (Value.int .u8))) : ∃ g cap, v = .slice (some ⟨g, 0, none⟩) n cap ∧ RowAt w g zs ∧ base ≤ g ∧ n ≤ cap ∧ cap ≤ maxLen := by
  rcases own_len hl h with ⟨_, h0⟩ | h
  · omega
  · exact h
set_option maxRecDepth 20000 in
set_option maxHeartbeats 1000000 in
theorem turned_any (ao bo po : Option Addr) (s c d m e : Nat) (A B b : List Int) (w : World) (hs : 1 ≤ s) (ha : Seen w ao s A) (hb : Seen w bo s B) (hp : Seen w po m b) :
    Calls Tryz.prog 27 #[.slice ao s c, .slice bo s d, .slice po m e] w fun r w' => ∃ gx cx gy cy, r = .returned (.tuple #[.slice (some ⟨gx, 0, none⟩) s cx, .slice (some ⟨gy, 0, none⟩) s cy]) ∧ w.heap.size ≤ gx ∧ RowAt w' gx (itY B b (min m s)) ∧ RowAt w' gy A ∧ w.heap.size ≤ gy ∧ Below w.heap.size w w' := by
  have HH : Hid (Seen w ao s A ∧ Seen w bo s B ∧ Seen w po m b ∧ 1 ≤ s) := ⟨ha, hb, hp, hs⟩
  have hst : s ≤ 140737488355328 := ha.top
  clear ha hb hp hs
  go_enter Tryz.func27, Tryz.ntmps27
  have M1 : Hid True := trivial
  have M2 : Hid True := trivial
  go_wp2_with (first
    | (clear M1; go_at_call 62; refine (copyB_any bo s d B w HH.out.2.1).mono ?_; rintro r w1 ⟨v1, rfl, o1, l1⟩; obtain ⟨gx, cx, rfl, r1, g1, _⟩ := own_len1 HH.out.2.2.2 HH.out.2.1.len o1; have S1 : Hid (RowAt w1 gx B ∧ w.heap.size ≤ gx ∧ Below w.heap.size w w1) := ⟨r1, g1, l1⟩; clear r1 g1 l1 o1)
    | (clear M2; go_at_call 62; refine (copyB_any ao s c A w1 (HH.out.1.later S1.out.2.2 (Nat.le_refl _))).mono ?_; rintro r w2 ⟨v2, rfl, o2, l2⟩; obtain ⟨gy, cy, rfl, y2, g2, _⟩ := own_len1 HH.out.2.2.2 HH.out.1.len o2; have S2 : Hid (RowAt w2 gx B ∧ RowAt w2 gy A ∧ w1.heap.size ≤ gy ∧ Below w.heap.size w w2 ∧ gx < w1.heap.size ∧ w1.heap.size ≤ w2.heap.size) := ⟨S1.out.1.later l2 (Nat.le_refl _), y2, g2, below_chain S1.out.2.2 l2 S1.out.2.2.size, S1.out.1.lt, l2.size⟩; clear y2 g2 l2 o2))
  go_loopw [10] (fun i wr => ∃ k : Nat, k ≤ min m s ∧ i = .int .i64 k ∧ RowAt wr gx (itY B b k) ∧ Kept (fun b => b = gx) w2 wr) (fun i _ => m - (intOf i).toNat)
  case atStart => exact ⟨0, Nat.zero_le _, rfl, S2.out.1, Kept.refl _ _⟩
  case round =>
    obtain ⟨k, hk, rfl, hbk, hkk⟩ := hrel
    have Y1 : Hid (RowAt wr gx (itY B b k) ∧ Kept (fun b => b = gx) w2 wr) := ⟨hbk, hkk⟩
    have hbw : Below w.heap.size w wr := below_chain S2.out.2.2.2.1 (hkk.below (B := w.heap.size) S2.out.2.2.2.1.size (fun b e => by have := S1.out.2.1; omega)) (Nat.le_refl _)
    have HF : Hid (Below w.heap.size w wr) := hbw
    have fin : Hid (min m s = k → RowAt wr gy A) := fun _ => S2.out.2.1.kept hkk (fun hb => by have := S2.out.2.2.1; have := S2.out.2.2.2.2.1; omega)
    by_cases hlm : k < m
    · by_cases hlt : k < s
      · obtain ⟨cb, co, he, hcl, hcA⟩ := (HH.out.2.2.1.later hbw (Nat.le_refl _)).cells (by omega)
        have hcc := hcA k hlm
        subst he
        have fR := hbk.frozen k
        have cR := hbk.cell k (by rw [itY_length, HH.out.2.1.len]; exact hlt)
        obtain ⟨y, hy⟩ : ∃ y, b.getD k 0 = y := ⟨_, rfl⟩
        obtain ⟨x, hx⟩ : ∃ x, (itY B b k).getD k 0 = x := ⟨_, rfl⟩
        have HY : Hid (b.getD k 0 = y ∧ (itY B b k).getD k 0 = x ∧ k < (itY B b k).length) := ⟨hy, hx, by rw [itY_length, HH.out.2.1.len]; exact hlt⟩
        rw [hy] at hcc
        rw [hx] at cR
        have j1 : (0 : Int) ≤ (k : Int) := by omega
        have j2 : (k : Int) < (s : Int) := by omega
        have j3 : (k : Int) < (m : Int) := by omega
        have HK : Hid (k + 1 ≤ min m s ∧ m - (k + 1) < m - k) := ⟨by omega, by omega⟩
        clear hbk hkk hbw hy hx hcA hcl
        go_wp2
        go_region_with (fail)
        all_goals
          go_wp2
          go_roundw
          case rel => exact ⟨k + 1, HK.out.1, by go_num, by have := Y1.out.1.set k HY.out.2.2 (bits .xor .u8 x y); rw [itY, HY.out.1, HY.out.2.1]; exact this.drew, (Y1.out.2.setCell (p := ⟨gx, k, none⟩) rfl _).drew⟩
          case measure => have := HK.out.2; simp only [intOf]; omega
      · obtain rfl : k = s := by omega
        have j3 : (k : Int) < (m : Int) := by omega
        have hmm : min m k = k := by omega
        clear hbk hkk hbw
        go_wp2
        go_ret2
        rw [hmm]
        exact ⟨gx, cx, gy, cy, rfl, S1.out.2.1, Y1.out.1, fin.out hmm, Nat.le_trans S1.out.2.2.size S2.out.2.2.1, HF.out⟩
    · obtain rfl : k = m := by omega
      have hmm : min k s = k := by omega
      clear hbk hkk hbw
      go_wp2
      go_ret2
      rw [hmm]
      exact ⟨gx, cx, gy, cy, rfl, S1.out.2.1, Y1.out.1, fin.out hmm, Nat.le_trans S1.out.2.2.size S2.out.2.2.1, HF.out⟩
theorem itB_all (A B : List Int) (h : A.length = B.length) : ∀ k, k ≤ A.length → ∀ j, (itB A B k).getD j 0 = if j < k then B.getD j 0 else A.getD j 0
  | 0, _, j => by simp [itB]
  | k + 1, hk, j => by
    have ih := itB_all A B h k (by omega) j
    rw [itB, List.getD_eq_getElem?_getD, List.getElem?_set]
    by_cases e : k = j
    · subst e
      rw [if_pos rfl, if_pos (by rw [itB_length]; omega), if_pos (by omega)]
      rfl
    · rw [if_neg e, ← List.getD_eq_getElem?_getD, ih]
      by_cases e2 : j < k
      · rw [if_pos e2, if_pos (by omega)]
      · rw [if_neg e2, if_neg (by omega)]
theorem itB_full (A B : List Int) (h : A.length = B.length) : itB A B A.length = B := by
  apply List.ext_getElem
  · rw [itB_length]; exact h
  · intro i h1 h2
    have := itB_all A B h A.length (Nat.le_refl _) i
    rw [itB_length] at h1
    rw [if_pos h1] at this
    simpa [List.getD, h1, h2, itB_length] using this
set_option maxRecDepth 20000 in
set_option maxHeartbeats 1000000 in
theorem list1_any (w : World) (s bx m c : Nat) (bo : Option Addr) (A B b : List Int) (hA : A.length = s ∧ Bytes A) (hB : B.length = s ∧ Bytes B) (hs : 1 ≤ s ∧ s ≤ 4096) (hbx : bx < w.heap.size) (hc : w.cell? ⟨bx, 4, none⟩ = some (.slice bo m c)) (hsn : Seen w bo m b) : FPair w 26 #[.pointer (some ⟨bx, 0, none⟩)] s A B (itY B b (min m s)) A := by
  intro W ga gb hb h1 h2 hne ba bb
  have cW : W.cell? ⟨bx, 4, none⟩ = some (.slice bo m c) := (hb.cell (p := ⟨bx, 4, none⟩) hbx).trans hc
  have SA : Seen W (some ⟨ga, 0, none⟩) s A := by have := seen_blk ba hA.2 (by rw [hA.1]; omega); rwa [hA.1] at this
  have SB : Seen W (some ⟨gb, 0, none⟩) s B := by have := seen_blk bb hB.2 (by rw [hB.1]; omega); rwa [hB.1] at this
  obtain ⟨X, hX⟩ : ∃ X, itY B b (min m s) = X := ⟨_, rfl⟩
  have hXl : X.length = s := by rw [← hX, itY_length]; exact hB.1
  have H : Hid ((A.length = s ∧ B.length = s ∧ X.length = s) ∧ Blk W ga 5 (u8s A) ∧ Blk W gb 5 (u8s B) ∧ ga ≠ gb ∧ (1 ≤ s ∧ s ≤ 4096)) := ⟨⟨hA.1, hB.1, hXl⟩, ba, bb, hne, hs⟩
  have CT : Hid (Calls Tryz.prog 27 #[.slice (some ⟨ga, 0, none⟩) s s, .slice (some ⟨gb, 0, none⟩) s s, .slice bo m c] W fun r w' => ∃ gx cx gy cy, r = .returned (.tuple #[.slice (some ⟨gx, 0, none⟩) s cx, .slice (some ⟨gy, 0, none⟩) s cy]) ∧ W.heap.size ≤ gx ∧ RowAt w' gx X ∧ RowAt w' gy A ∧ W.heap.size ≤ gy ∧ Below W.heap.size W w') := by
    have := turned_any (some ⟨ga, 0, none⟩) (some ⟨gb, 0, none⟩) bo s s s m c A B b W hs.1 SA SB (hsn.later hb (Nat.le_refl _))
    rwa [hX] at this
  rw [hX]
  show Calls Tryz.prog 26 #[.slice (some ⟨ga, 0, none⟩) s s, .slice (some ⟨gb, 0, none⟩) s s, .pointer (some ⟨bx, 0, none⟩)] W _
  have hst : s ≤ 4096 := hs.2
  clear ba bb hne hA hB hb h1 h2 hbx hc hsn SA SB hX hXl hs
  go_enter Tryz.func26, Tryz.ntmps26
  go_wp2_with (go_at_call 27; refine CT.out.mono ?_; rintro r w1 ⟨gx, cx, gy, cy, rfl, g1, r1, y1, y2, l1⟩; have S1 : Hid (RowAt w1 gx X ∧ RowAt w1 gy A ∧ W.heap.size ≤ gy ∧ W.heap.size ≤ gx ∧ Below W.heap.size W w1 ∧ Blk w1 ga 5 (u8s A) ∧ Blk w1 gb 5 (u8s B) ∧ ga < W.heap.size ∧ gb < W.heap.size) := ⟨r1, y1, y2, g1, l1, H.out.2.1.later l1 H.out.2.1.lt, H.out.2.2.1.later l1 H.out.2.2.1.lt, H.out.2.1.lt, H.out.2.2.1.lt⟩; clear g1 r1 y1 y2 l1)
  go_loopw [7] (fun i wr => ∃ k : Nat, k ≤ s ∧ i = .int .i64 k ∧ Blk wr ga 5 (u8s (itB A X k)) ∧ Kept (fun b => b = ga) w1 wr) (fun i _ => s - (intOf i).toNat)
  case atStart => exact ⟨0, Nat.zero_le _, rfl, S1.out.2.2.2.2.2.1, Kept.refl _ _⟩
  case round =>
    obtain ⟨k, hk, rfl, hbk, hkk⟩ := hrel
    have Y1 : Hid (Blk wr ga 5 (u8s (itB A X k)) ∧ Kept (fun b => b = ga) w1 wr) := ⟨hbk, hkk⟩
    by_cases hlt : k < s
    · have rX := S1.out.1.kept hkk (fun e => by have := S1.out.2.2.2.1; have := S1.out.2.2.2.2.2.2.2.1; omega)
      have cX := rX.cell k (by rw [H.out.1.2.2]; exact hlt)
      have fR := hbk.frozen k
      have cR := u8s_cell hbk k (by rw [itB_length, H.out.1.1]; exact hlt)
      obtain ⟨y, hy⟩ : ∃ y, X.getD k 0 = y := ⟨_, rfl⟩
      have HY : Hid (X.getD k 0 = y) := hy
      rw [hy] at cX
      have j1 : (0 : Int) ≤ (k : Int) := by omega
      have j2 : (k : Int) < (s : Int) := by omega
      clear hbk hkk hy rX
      go_wp2
      refine ⟨⟨k + 1, by omega, by go_num, by have := Y1.out.1.set k (.int .u8 y); rw [u8s_set] at this; rw [itB, HY.out]; exact this, Y1.out.2.setCell rfl _⟩, by simp [intOf]; omega⟩
    · obtain rfl : k = s := by omega
      have E1 : Hid (Blk wr ga 5 (u8s X) ∧ Kept (fun b => b = ga) w1 wr) := ⟨by have := Y1.out.1; rw [← H.out.1.1, itB_full A X (by rw [H.out.1.1, H.out.1.2.2])] at this; exact this, hkk⟩
      have E2 : Hid (Blk wr gb 5 (u8s B) ∧ RowAt wr gy A ∧ Kept (fun b => b = ga ∨ b = gb) W wr ∧ Blk wr ga 5 (u8s X)) := ⟨S1.out.2.2.2.2.2.2.1.kept hkk (fun e => H.out.2.2.2.1 e.symm), S1.out.2.1.kept hkk (fun hb => by have := S1.out.2.2.1; have := S1.out.2.2.2.2.2.2.2.1; omega), (Kept.new _ S1.out.2.2.2.2.1).trans (hkk.mono (fun b e => .inl e)), E1.out.1⟩
      obtain ⟨w4, hw4⟩ : ∃ w4, w4 = wr := ⟨_, rfl⟩
      rw [← hw4] at E2 ⊢
      clear hbk hkk Y1 E1 hw4 wr
      go_wp2
      go_loopw [8] (fun i wr => ∃ n : Nat, n ≤ k ∧ i = .int .i64 n ∧ Blk wr gb 5 (u8s (itB B A n)) ∧ Kept (fun b => b = gb) w4 wr) (fun i _ => k - (intOf i).toNat)
      case atStart => exact ⟨0, Nat.zero_le _, rfl, E2.out.1, Kept.refl _ _⟩
      case round =>
        obtain ⟨n, hn, rfl, hbk, hkk⟩ := hrel
        have Y1 : Hid (Blk wr gb 5 (u8s (itB B A n)) ∧ Kept (fun b => b = gb) w4 wr) := ⟨hbk, hkk⟩
        by_cases hlt : n < k
        · have sy := E2.out.2.1.kept hkk (fun hb => by have := S1.out.2.2.1; have := S1.out.2.2.2.2.2.2.2.2; omega)
          have hcc := sy.cell n (by rw [H.out.1.1]; exact hlt)
          have fR := hbk.frozen n
          have cR := u8s_cell hbk n (by rw [itB_length, H.out.1.2.1]; exact hlt)
          obtain ⟨y, hy⟩ : ∃ y, A.getD n 0 = y := ⟨_, rfl⟩
          have HY : Hid (A.getD n 0 = y) := hy
          rw [hy] at hcc
          have j1 : (0 : Int) ≤ (n : Int) := by omega
          have j2 : (n : Int) < (k : Int) := by omega
          clear hbk hkk hy sy
          go_wp2
          refine ⟨⟨n + 1, by omega, by go_num, by have := Y1.out.1.set n (.int .u8 y); rw [u8s_set] at this; rw [itB, HY.out]; exact this, Y1.out.2.setCell rfl _⟩, by simp [intOf]; omega⟩
        · obtain rfl : n = k := by omega
          have E3 : Hid (Blk wr gb 5 (u8s A) ∧ Kept (fun b => b = gb) w4 wr) := ⟨by have := Y1.out.1; rw [← H.out.1.2.1, itB_full B A (by rw [H.out.1.1, H.out.1.2.1])] at this; exact this, hkk⟩
          clear hbk hkk Y1
          go_wp2
          go_end0
          exact ⟨⟨_, rfl⟩, E2.out.2.2.2.kept E3.out.2 H.out.2.2.2.1, E3.out.1, E2.out.2.2.1.trans (E3.out.2.mono (fun b e => .inr e))⟩
theorem enter_list1 : ∀ args w, (callFunc 26 args).run Tryz.prog w = .ok (.enter 26 args) w := fun args w => by kernel_rfl
end Go.Proofs.YtfhieacclifihaaGreat
namespace Go.Proofs.YtfhieacclifihaaGreat
open Go.RowKit
set_option linter.unusedVariables false
set_option linter.unusedSimpArgs false

theorem quiet_R (pages text window : Int) (key : List Int) (round : Int) (fv : Value) (f0 f1 n0 n1 s0 s1 : Int) (sv : Value) (k : List Int) (w : World) (hkey : key.length = 32) (hk : k.length = 32) (hkb : Bytes k) (hr : Word round) :
    Calls Tryz.prog 22 #[.agg (wldC pages text window key round fv f0 f1 n0 n1 s0 s1 sv).toArray, .agg (u8s k).toArray] w fun e w' => ∃ g h p S, e = .returned (.tuple #[.pointer (some ⟨g, 0, none⟩), .pointer (some ⟨h, 0, none⟩), .int .i64 ((qnOf pages text window n0 s0).sz : Int), .bool true]) ∧ Lr w' ((qnOf pages text window n0 s0).cf k round) ((qnOf pages text window n0 s0).sl p (.slice none 0 0)) g h ⟨[], nm0⟩ (fun _ => List.replicate (qnOf pages text window n0 s0).sz 0) S ∧ (∀ b, S b → w.heap.size ≤ b) ∧ Below w.heap.size w w' := by
  refine (quiet_any pages text window key round fv f0 f1 n0 n1 s0 s1 sv k w hkey hk hkb hr).mono ?_
  rintro e w' ⟨g, h, p, F, rfl, x, y, hg, hF, hb⟩
  have hfit := qn_fit pages text window n0 s0
  obtain ⟨q, hq⟩ : ∃ q, qnOf pages text window n0 s0 = q := ⟨_, rfl⟩
  rw [hq] at x y hfit ⊢
  have hs : ∀ b, slF g (q.sl p (.slice none 0 0)) b → b = g := fun b hb => by rcases hb with e | e; exact e; cases e
  refine ⟨g, h, p, fun b => F b ∨ slF g (q.sl p (.slice none 0 0)) b, rfl, ⟨.slice none 0 0, _, F, x, y, fun b hb hf => (hF b hf).2 (hs b hb), fun b => Iff.rfl, fun i hi => ?_⟩, fun b hb => ?_, hb⟩
  · have hp := (qn_sl q hfit k round p (.slice none 0 0)).place i
    have hp' : i % q.per * q.sz + q.sz ≤ q.tx := hp
    show ((List.replicate q.tx (0 : Int)).drop (i % q.per * q.sz)).take q.sz = List.replicate q.sz 0
    rw [List.drop_replicate, List.take_replicate]
    congr 1
    omega
  · rcases hb with e | e
    · exact (hF b e).1
    · rw [hs b e]; exact hg
/-- A list of rows of one size, in a block of its own, outside S. -/
structure Ls (w : World) (S : Nat → Prop) (gl n sz : Nat) (L : Nat → List Int) : Prop where
  ex : ∃ vals rest : List Value, vals.length = n ∧ Blk w gl 66 (vals ++ rest) ∧ ∀ i, i < n → ∃ b c, vals[i]? = some (.slice (some ⟨b, 0, none⟩) sz c) ∧ Seen w (some ⟨b, 0, none⟩) sz (L i) ∧ b < w.heap.size ∧ ¬ S b ∧ b ≠ gl
  nl : ¬ S gl
section
variable {w w' : World} {S S' T : Nat → Prop} {gl n sz : Nat} {L : Nat → List Int}
theorem Ls.lt (x : Ls w S gl n sz L) : gl < w.heap.size := by obtain ⟨_, _, _, h, _⟩ := x.ex; exact h.lt
/-- What is written lies in S; S grows by new blocks alone. -/
theorem Ls.step (x : Ls w S gl n sz L) (k : Kept S w w') (hS : ∀ b, S' b → S b ∨ w.heap.size ≤ b) : Ls w' S' gl n sz L := by
  have hl := x.lt
  refine ⟨?_, fun h => (hS gl h).elim x.nl (fun e => by omega)⟩
  obtain ⟨vals, rest, h1, h2, h3⟩ := x.ex
  refine ⟨vals, rest, h1, h2.kept k x.nl, fun i hi => ?_⟩
  obtain ⟨b, c, k1, k2, k3, k4, k5⟩ := h3 i hi
  exact ⟨b, c, k1, k2.off k (fun b' o e hb => by cases e; exact k4 hb), Nat.lt_of_lt_of_le k3 k.size, fun h => (hS b h).elim k4 (fun e => by omega), k5⟩
theorem Ls.later (x : Ls w S gl n sz L) (hb : Below w.heap.size w w') : Ls w' S gl n sz L := x.step (Kept.new S hb) (fun b h => .inl h)
theorem Ls.cell (x : Ls w S gl n sz L) (i : Nat) (hi : i < n) : ∃ b c, w.cell? ⟨gl, i, none⟩ = some (.slice (some ⟨b, 0, none⟩) sz c) ∧ Seen w (some ⟨b, 0, none⟩) sz (L i) ∧ b < w.heap.size ∧ ¬ S b ∧ b ≠ gl := by
  obtain ⟨vals, rest, h1, h2, h3⟩ := x.ex
  obtain ⟨b, c, k1, k2⟩ := h3 i hi
  exact ⟨b, c, by rw [h2.cell, List.getElem?_append_left (by omega)]; exact k1, k2⟩
theorem Ls.frozen (x : Ls w S gl n sz L) (i : Nat) : w.frozen? ⟨gl, i, none⟩ = false := by
  obtain ⟨vals, rest, h1, h2, h3⟩ := x.ex
  exact h2.frozen i
theorem Ls.set (x : Ls w S gl n sz L) (i : Nat) (hi : i < n) (nb c : Nat) (bs : List Int) (hs : Seen w (some ⟨nb, 0, none⟩) sz bs) (hb : nb < w.heap.size ∧ ¬ S nb ∧ nb ≠ gl) : Ls (w.setCell ⟨gl, i, none⟩ (.slice (some ⟨nb, 0, none⟩) sz c)) S gl n sz (upn L i bs) := by
  refine ⟨?_, x.nl⟩
  obtain ⟨vals, rest, h1, h2, h3⟩ := x.ex
  have K := (Kept.refl (fun b => b = gl) w).setCell (p := ⟨gl, i, none⟩) rfl (.slice (some ⟨nb, 0, none⟩) sz c)
  have hz : (w.setCell ⟨gl, i, none⟩ (.slice (some ⟨nb, 0, none⟩) sz c)).heap.size = w.heap.size := by simp [World.setCell]
  refine ⟨vals.set i (.slice (some ⟨nb, 0, none⟩) sz c), rest, by simpa using h1, ?_, fun j hj => ?_⟩
  · have := h2.set i (.slice (some ⟨nb, 0, none⟩) sz c)
    rwa [List.set_append_left _ _ (by omega)] at this
  · by_cases e : j = i
    · subst e
      refine ⟨nb, c, by rw [List.getElem?_set]; simp; omega, ?_, by rw [hz]; exact hb.1, hb.2⟩
      have : upn L j bs j = bs := by unfold upn; rw [if_pos rfl]
      rw [this]
      exact hs.off K (fun b o e he => by cases e; exact hb.2.2 he)
    · obtain ⟨b, c', k1, k2, k3, k4, k5⟩ := h3 j hj
      refine ⟨b, c', by rw [List.getElem?_set, if_neg (fun h => e h.symm)]; exact k1, ?_, by rw [hz]; exact k3, k4, k5⟩
      have : upn L i bs j = L j := by unfold upn; rw [if_neg e]
      rw [this]
      exact k2.off K (fun b o e he => by cases e; exact k5 he)
end
end Go.Proofs.YtfhieacclifihaaGreat
namespace Go.Proofs.YtfhieacclifihaaGreat
open Go.RowKit
set_option linter.unusedVariables false
set_option linter.unusedSimpArgs false

theorem row_seen {w : World} {g n : Nat} {zs : List Int} (h : RowAt w g zs) (hl : zs.length = n) (hb : Bytes zs) (ht : n ≤ 140737488355328) : Seen w (some ⟨g, 0, none⟩) n zs :=
  ⟨hl, ht, hb, fun _ => ⟨g, 0, rfl, h.lt, fun i hi => by rw [Nat.zero_add]; exact h.cell i (by omega)⟩⟩
/-- A list that grows: m rows of zeros, in memory that is new from B on. -/
structure Lg (w : World) (B m sz : Nat) (v : Value) (vals : List Value) : Prop where
  len : vals.length = m
  own : w.ownsRow B 66 1 v m vals
  at_ : ∀ i, i < m → ∃ b, vals[i]? = some (.slice (some ⟨b, 0, none⟩) sz sz) ∧ Blk w b 5 (u8s (List.replicate sz 0)) ∧ B ≤ b ∧ v.ownBlock ≠ some b
theorem own_ltB {w : World} {base n : Nat} {v : Value} {xs : List Value} (h : w.ownsRow base 66 1 v n xs) {g : Nat} (e : v.ownBlock = some g) : g < w.heap.size ∧ base ≤ g := by
  rcases h.2 with ⟨rfl, _⟩ | ⟨b, cap, cur, rfl, hg, hh, r⟩
  · cases e
  · simp [Value.ownBlock] at e; subst e; exact ⟨lt_of_block hh, hg⟩
theorem Lg.ls {w : World} {B m sz : Nat} {v : Value} {vals : List Value} {S : Nat → Prop} (x : Lg w B m sz v vals) (hm : 0 < m) (hsz : sz ≤ 140737488355328) (hS : ∀ b, S b → b < B) : ∃ gl c, v = .slice (some ⟨gl, 0, none⟩) m c ∧ Ls w S gl m sz (fun _ => List.replicate sz 0) ∧ B ≤ gl := by
  obtain ⟨h1, h2, h3⟩ := x
  rcases h2.2 with ⟨_, h0⟩ | ⟨g, cap, cur, hv, hg, hh, q1, q2, q3, q4⟩
  · omega
  · subst hv
    refine ⟨g, cap, rfl, ⟨⟨vals, cur.toList.drop (m * 1), h1, ?_, fun i hi => ?_⟩, fun h => by have := hS g h; omega⟩, hg⟩
    · unfold Blk
      rw [hh, ← q4, List.take_append_drop]
    · obtain ⟨b, k1, k2, k3, k4⟩ := h3 i hi
      have hs := seen_blk k2 (fun z hz => by rw [List.eq_of_mem_replicate hz]; decide) (by rw [List.length_replicate]; exact hsz)
      rw [List.length_replicate] at hs
      exact ⟨b, sz, k1, hs, k2.lt, fun h => by have := hS b h; omega, fun e => k4 (by subst e; rfl)⟩
theorem Lg.push {w w1 w3 : World} {B m sz : Nat} {v v' : Value} {vals : List Value} (x : Lg w B m sz v vals) (hB : B ≤ w.heap.size) (hw : Below w.heap.size w w1) (hb : Blk w1 w.heap.size 5 (u8s (List.replicate sz 0)))
    (o : Obj) (h1 : w3.ownsRow B 66 1 v' (m + 1) (vals ++ [.slice (some ⟨w.heap.size, 0, none⟩) sz sz])) (hg : (w1.alloc o).grownBy w3 v.ownBlock) (hat : v'.ownBlock = v.ownBlock ∨ v'.ownBlock = some (w1.alloc o).heap.size) :
    Lg w3 B (m + 1) sz v' (vals ++ [.slice (some ⟨w.heap.size, 0, none⟩) sz sz]) := by
  have hlt := hb.lt
  have keep : ∀ b, b < w1.heap.size → v.ownBlock ≠ some b → w3.heap[b]? = w1.heap[b]? := fun b h n => (hg.block b (by simp; omega) (fun e => n e.symm)).trans (Below.heap_alloc w1 o b h)
  have no : ∀ b, b < w1.heap.size → v.ownBlock ≠ some b → v'.ownBlock ≠ some b := fun b h n e => by
    rcases hat with e2 | e2
    · exact n (e2 ▸ e)
    · rw [e2] at e; simp at e; omega
  have nw : v.ownBlock ≠ some w.heap.size := fun e => by have := (own_ltB x.own e).1; omega
  refine ⟨by simp [x.len], h1, fun i hi => ?_⟩
  by_cases e : i < m
  · obtain ⟨b, k1, k2, k3, k4⟩ := x.at_ i e
    have hl := k2.lt
    have hl1 : b < w1.heap.size := Nat.lt_of_lt_of_le hl hw.size
    exact ⟨b, by rw [List.getElem?_append_left (by rw [x.len]; exact e)]; exact k1, (k2.later hw hl).block (keep b hl1 k4), k3, no b hl1 k4⟩
  · obtain rfl : i = m := by omega
    exact ⟨w.heap.size, by rw [List.getElem?_append_right (by rw [x.len]; exact Nat.le_refl _), x.len, Nat.sub_self]; rfl, hb.block (keep _ hlt nw), hB, no _ hlt nw⟩
theorem Lg.nil (w : World) (B sz : Nat) : Lg w B 0 sz (.slice none 0 0) [] := ⟨rfl, World.ownsRow_nil _ _ _ _, fun i hi => by omega⟩
set_option maxRecDepth 20000 in
set_option maxHeartbeats 6000000 in
theorem listLaw (pages text window : Int) (key : List Int) (round : Int) (fv : Value) (f0 f1 n0 n1 s0 s1 : Int) (so : Option Addr) (ns sc : Nat) (ops : List Opr) (w : World) (hkey : key.length = 32) (hkb : Bytes key) (hr : Word round) (hso : SeenO w so ops) (hns : ops.length = ns) (hnb : ns ≤ 1048575) :
    Calls Tryz.prog 4 #[.agg (wldC pages text window key round fv f0 f1 n0 n1 s0 s1 (.slice so ns sc)).toArray] w fun e w' => e = .returned (.bool true) ∧ Below w.heap.size w w' := by
  have HW : Hid (SeenO w so ops ∧ ops.length = ns) := ⟨hso, hns⟩
  have HC := wld_at pages text window key round fv f0 f1 n0 n1 s0 s1 (.slice so ns sc) hkey
  have HC43 : Hid ((wldC pages text window key round fv f0 f1 n0 n1 s0 s1 (.slice so ns sc))[43]? = some (.slice so ns sc)) := HC.2.2.2.2.2.2
  obtain ⟨q, hq⟩ : ∃ q, qnOf pages text window n0 s0 = q := ⟨_, rfl⟩
  have QF : Hid (q.Fit) := by rw [← hq]; exact qn_fit _ _ _ _ _
  have CQ : Hid (∀ W, Calls Tryz.prog 22 #[.agg (wldC pages text window key round fv f0 f1 n0 n1 s0 s1 (.slice so ns sc)).toArray, .agg (u8s key).toArray] W fun e w' => ∃ g h p S, e = .returned (.tuple #[.pointer (some ⟨g, 0, none⟩), .pointer (some ⟨h, 0, none⟩), .int .i64 (q.sz : Int), .bool true]) ∧ Lr w' (q.cf key round) (q.sl p (.slice none 0 0)) g h ⟨[], nm0⟩ (fun _ => List.replicate q.sz 0) S ∧ (∀ b, S b → W.heap.size ≤ b) ∧ Below W.heap.size W w') := fun W => by rw [← hq]; exact quiet_R pages text window key round fv f0 f1 n0 n1 s0 s1 (.slice so ns sc) key W hkey hkey hkb hr
  have HS : Hid ((Tryz.prog.info? 62).map (·.size) = some (wldC pages text window key round fv f0 f1 n0 n1 s0 s1 (.slice so ns sc)).length) := sizeWld pages text window key round fv f0 f1 n0 n1 s0 s1 (.slice so ns sc) hkey
  have HKK : Hid ((Tryz.prog.info? 41).map (·.size) = some (u8s key).length) := by show _ = _; rw [u8s_length, hkey]; kernel_rfl
  have RK : Hid (∀ {W : World} {g t : Nat}, Blk W g t (wldC pages text window key round fv f0 f1 n0 n1 s0 s1 (.slice so ns sc)) → W.rangeAt g 3 (u8s key)) := fun {W g t} h => wld_key h
  obtain ⟨cs, hcs⟩ : ∃ cs, wldC pages text window key round fv f0 f1 n0 n1 s0 s1 (.slice so ns sc) = cs := ⟨_, rfl⟩
  rw [hcs] at HC43 CQ HS RK ⊢
  have hsz : q.sz ≤ 400 := by have := QF.out.sz.2; have := QF.out.tx.2; omega
  have hqn : q.n ≤ 9600 := Nat.le_trans QF.out.n (Nat.mul_le_mul QF.out.pg.2 QF.out.per.2.2.1)
  have HB : Hid (q.sz ≤ 400 ∧ q.n ≤ 9600 ∧ 1 ≤ q.sz) := ⟨hsz, hqn, QF.out.sz.1⟩
  clear hcs HC hq hkey hkb hr hso hns hqn hsz
  have N1 : Hid True := trivial
  have L1 : Hid True := trivial
  have L2 : Hid True := trivial
  have M1 : Hid True := trivial
  have M3 : Hid True := trivial
  have M4 : Hid True := trivial
  go_enter Tryz.func4, Tryz.ntmps4
  go_wp2_with (first
    | (clear N1; refine wpList_box_new rfl 62 _ rfl cs rfl ?_; intro w2 d1 s1 l1; have Z2 : Hid (w2.heap.size = w.heap.size + 1) := s1; have D2 : Hid (Blk w2 w.heap.size 62 cs ∧ Below w.heap.size w w2 ∧ w.heap.size < w2.heap.size) := ⟨d1, l1, by omega⟩; clear d1 s1 l1)
    | (clear L1; refine wpList_load_blk rfl 62 _ rfl _ rfl cs _ D2.out.1 Tryz.underlying62 rfl HS.out ?_)
    | (clear L2; refine wpList_load_mid rfl 41 _ rfl w.heap.size 3 rfl (u8s key) _ (RK.out D2.out.1) Tryz.underlying41 rfl HKK.out ?_)
    | (clear M1; go_at_call 22; refine (CQ.out w2).mono ?_; rintro e w3 ⟨g, h, p, S0, rfl, xA, sA, lA⟩)
    | (clear M3; go_at_call 21; refine (swks_any w3).mono ?_; rintro e w5 ⟨rfl, l5⟩; have E5 : Hid (Lr w5 (q.cf key round) (q.sl p (.slice none 0 0)) g h ⟨[], nm0⟩ (fun _ => List.replicate q.sz 0) S0 ∧ (∀ b, S0 b → w2.heap.size ≤ b) ∧ Below w2.heap.size w2 w5) := ⟨xA.later l5, sA, below_chain lA l5 lA.size⟩; clear xA sA lA l5)
    | (clear M4; go_at_call 18; refine (show Calls Tryz.prog 18 _ w5 (fun e w' => e = .returned (.int .i64 (q.n : Int)) ∧ w5 = w') from len_R E5.out.1).mono ?_; rintro e _ ⟨rfl, rfl⟩))
  obtain ⟨i0, hi, hz0, hz1, hz2⟩ := info_parts info_rowB
  go_loopw [8, 9] (fun v i wr => ∃ (m : Nat) (vals : List Value) (vo : Option Addr) (vn vc : Nat), v = .slice vo vn vc ∧ m ≤ q.n ∧ i = .int .i64 (m : Int) ∧ Lg wr w5.heap.size m q.sz (.slice vo vn vc) vals ∧ Below w5.heap.size w5 wr) (fun _ i _ => q.n - (intOf i).toNat)
  case atStart => exact ⟨0, [], none, 0, 0, rfl, Nat.zero_le _, rfl, Lg.nil _ _ _, Below.refl _ _⟩
  case round =>
    obtain ⟨m, vals, vo, vn, vc, rfl, hm, rfl, hLg, hbw⟩ := hrel
    have hqn : q.n ≤ 9600 := HB.out.2.1
    have Y : Hid (Lg wr w5.heap.size m q.sz (.slice vo vn vc) vals ∧ Below w5.heap.size w5 wr) := ⟨hLg, hbw⟩
    by_cases hlt : m < q.n
    · have MB := mk_bytes q.sz (by have := HB.out.1; omega) wr
      obtain ⟨w1, hw1⟩ : ∃ w1, wr.alloc (.cells (madeCells #[.int .u8 0] q.sz) 5) = w1 := ⟨_, rfl⟩
      have b1 : Blk w1 wr.heap.size 5 (u8s (List.replicate q.sz 0)) := by rw [← hw1]; have := made_blk wr (.int .u8 0) q.sz 5; simpa [u8s] using this
      have l1 : Below wr.heap.size wr w1 := by rw [← hw1]; exact (Below.refl _ _).alloc (Nat.le_refl _) _
      rw [hw1] at MB
      have hbs := bs_one (some ⟨wr.heap.size, 0, none⟩) q.sz q.sz w1
      have V1 : Hid (Blk w1 wr.heap.size 5 (u8s (List.replicate q.sz 0)) ∧ Below wr.heap.size wr w1 ∧ (w1.alloc (.cells #[.slice (some ⟨wr.heap.size, 0, none⟩) q.sz q.sz] 66)).ownsRow w5.heap.size 66 1 (.slice vo vn vc) m vals ∧ w5.heap.size ≤ w1.heap.size) := ⟨b1, l1, ownsRow_below (ownsRow_below hLg.own l1) ((Below.refl _ _).alloc (Nat.le_refl _) _), Nat.le_trans hbw.size l1.size⟩
      have j1 : (m : Int) < (q.n : Int) := by omega
      clear hw1 b1 l1 hLg hbw
      go_wp2_with (first
        | (refine wpList_mk rfl 66 _ _ rfl _ _ rfl rfl _ _ MB ?_)
        | (at_builtin; refine wpList_append_own_at _ rfl _ _ 65 rfl w5.heap.size 66 i0 (.slice none 0 0) 1 24 Tryz.underlying65 hi hz0 hz1 hz2 rfl (by decide) _ m vals rfl V1.out.2.2.1 ⟨w1.heap.size, 0, none⟩ 1 1 [.slice (some ⟨wr.heap.size, 0, none⟩) q.sz q.sz] rfl rfl (one_newB _ _) (by intro u hu; simp at hu; subst hu; rfl) (by unfold maxLen; omega) (by omega) (by have := V1.out.2.2.2; simp; omega) ?_))
      intro v' w4 h1 hg _ hat
      have P4 : Hid (Lg w4 w5.heap.size (m + 1) q.sz v' (vals ++ [.slice (some ⟨wr.heap.size, 0, none⟩) q.sz q.sz]) ∧ Below w5.heap.size w5 w4) := by
        refine ⟨Y.out.1.push Y.out.2.size V1.out.2.1 V1.out.1 _ h1 hg (by rw [World.size_alloc]; exact hat), ?_⟩
        have l2 : Below w5.heap.size w5 (w1.alloc (.cells #[.slice (some ⟨wr.heap.size, 0, none⟩) q.sz q.sz] 66)) := (below_chain Y.out.2 V1.out.2.1 Y.out.2.size).alloc V1.out.2.2.2 _
        exact l2.grown hg l2.size (fun j hj => (own_ltB Y.out.1.own hj).2)
      obtain ⟨ua, un, uc, rfl⟩ : ∃ a n c, v' = .slice a n c := by rcases h1.2 with ⟨h, _⟩ | ⟨g, cap, cur, h, _⟩ <;> exact ⟨_, _, _, h⟩
      clear h1 hg hat hbs MB
      go_wp2
      exact ⟨⟨m + 1, _, ua, un, uc, rfl, by omega, by go_num, P4.out⟩, by simp [intOf]; omega⟩
    · obtain rfl : m = q.n := by omega
      have A1 : Hid (Lg wr w5.heap.size q.n q.sz (.slice vo vn vc) vals ∧ Below w2.heap.size w2 wr ∧ Lr wr (q.cf key round) (q.sl p (.slice none 0 0)) g h ⟨[], nm0⟩ (fun _ => List.replicate q.sz 0) S0 ∧ w5.heap.size ≤ wr.heap.size) := ⟨hLg, below_chain E5.out.2.2 hbw E5.out.2.2.size, E5.out.1.later hbw, hbw.size⟩
      have c43 : wr.cell? ⟨w.heap.size, 43, none⟩ = some (.slice so ns sc) := (A1.out.2.1.cell (p := ⟨w.heap.size, 43, none⟩) D2.out.2.2).trans ((D2.out.1.cell 43).trans HC43.out)
      clear hLg hbw Y
      by_cases hn0 : q.n = 0
      · have hq0 : (q.n : Int) = 0 := by omega
        have j1 : (0 : Int) < (ns : Int) ∨ ¬ (0 : Int) < (ns : Int) := by omega
        rcases j1 with j1 | j1
        all_goals
          go_wp2
          refine wp_loop_rounds 1 ?_
          rw [rounds_succ]
          go_wp2
          refine wp_loop_rounds 1 ?_
          rw [rounds_succ]
          go_wp2
          go_ret
          exact ⟨rfl, below_chain D2.out.2.1 A1.out.2.1 D2.out.2.1.size⟩
      · have hn1 : 0 < q.n := by omega
        obtain ⟨gl, gc, he, hls, hgl⟩ := A1.out.1.ls (S := S0) hn1 (by have := HB.out.1; omega) (fun b hb => E5.out.1.lt b hb)
        cases he
        obtain ⟨wA, hwA⟩ : ∃ wA, wA = wr := ⟨_, rfl⟩
        rw [← hwA] at A1 hls c43 ⊢
        have A2 : Hid (Ls wA S0 gl q.n q.sz (fun _ => List.replicate q.sz 0) ∧ w2.heap.size ≤ gl ∧ 0 < q.n) := ⟨hls, Nat.le_trans E5.out.2.2.size hgl, hn1⟩
        have hwin : 2 ≤ q.win := QF.out.win.1
        have HN : Hid (SlN (q.sl p (.slice none 0 0)) (q.cf key round)) := qn_sl q QF.out key round p _
        clear hwA hls hgl hn0 hm
        go_wp2
        go_loopw [10] (fun i wr => ∃ (m : Nat) (s : Sn) (R : Nat → List Int) (S' : Nat → Prop), m ≤ ns ∧ i = .int .i64 (m : Int) ∧ Bn (q.cf key round) s m ∧ Lr wr (q.cf key round) (q.sl p (.slice none 0 0)) g h s R S' ∧ Ls wr S' gl q.n q.sz R ∧ (∀ b, S' b → w2.heap.size ≤ b) ∧ Below w2.heap.size w2 wr) (fun i _ => ns - (intOf i).toNat)
        case atStart => exact ⟨0, _, _, _, Nat.zero_le _, rfl, ⟨Nat.le_refl _, Nat.zero_le _, Nat.le_refl _, Nat.le_refl _⟩, A1.out.2.2.1, A2.out.1, E5.out.2.1, A1.out.2.1⟩
        case round =>
          obtain ⟨m, s, R, S', hm, rfl, hbn, hlr, hls, hge, hbw⟩ := hrel
          have Y : Hid (Bn (q.cf key round) s m ∧ Lr wr (q.cf key round) (q.sl p (.slice none 0 0)) g h s R S' ∧ Ls wr S' gl q.n q.sz R ∧ (∀ b, S' b → w2.heap.size ≤ b) ∧ Below w2.heap.size w2 wr) := ⟨hbn, hlr, hls, hge, hbw⟩
          have c43 : wr.cell? ⟨w.heap.size, 43, none⟩ = some (.slice so ns sc) := (hbw.cell (p := ⟨w.heap.size, 43, none⟩) D2.out.2.2).trans ((D2.out.1.cell 43).trans HC43.out)
          have i1 : (0 : Int) < (q.n : Int) := by have := A2.out.2.2; omega
          clear hbn hlr hls hge hbw
          by_cases hlt : m < ns
          · have j2 : (m : Int) < (ns : Int) := by omega
            have j3 : (0 : Int) ≤ (m : Int) := by omega
            obtain ⟨x, hx⟩ : ∃ x, ops.getD m default = x := ⟨_, rfl⟩
            have LW : Hid (Below w.heap.size w wr) := below_chain D2.out.2.1 Y.out.2.2.2.2 D2.out.2.1.size
            obtain ⟨og, of, bo, c, he, hog, hrg0, hsb⟩ := HW.out.1.cells m (by rw [HW.out.2]; exact hlt)
            have hrg := range_later hrg0 hog LW.out
            clear hrg0
            subst he
            rw [hx] at hrg hsb
            obtain ⟨ki, wi, ii, ji, bs⟩ := x
            obtain ⟨bl, hbl⟩ : ∃ n, bs.length = n := ⟨_, rfl⟩
            have R0 : Hid (wr.rangeAt og (of + m * 5) (oprC ⟨ki, wi, ii, ji, bs⟩ (.slice bo bl c)) ∧ Seen w bo bl bs) := ⟨by rw [← hbl]; exact hrg, by rw [← hbl]; exact hsb⟩
            clear hx hrg hsb hog hbl
            obtain ⟨y, hy⟩ : ∃ y, wiN ii q.n = y := ⟨_, rfl⟩
            obtain ⟨z, hz⟩ : ∃ z, wiN ji q.n = z := ⟨_, rfl⟩
            have hqn9 := HB.out.2.1
            have WY : Hid (∀ W, Calls Tryz.prog 10 #[.int .i64 ii, .int .i64 (q.n : Int)] W fun e w' => e = .returned (.int .i64 (y : Int)) ∧ W = w') := fun W => by rw [← hy]; exact within_is ii q.n (by omega) (by omega) W
            have WZ : Hid (∀ W, Calls Tryz.prog 10 #[.int .i64 ji, .int .i64 (q.n : Int)] W fun e w' => e = .returned (.int .i64 (z : Int)) ∧ W = w') := fun W => by rw [← hz]; exact within_is ji q.n (by omega) (by omega) W
            have YZ : Hid (y < q.n ∧ z < q.n ∧ q.sz ≤ 4096 ∧ 1 ≤ q.sz) := ⟨by rw [← hy]; exact wiN_lt ii q.n (by omega), by rw [← hz]; exact wiN_lt ji q.n (by omega), by have := HB.out.1; omega, HB.out.2.2⟩
            have hyn : (y : Int) < (q.n : Int) := by have := YZ.out.1; omega
            have hzn : (z : Int) < (q.n : Int) := by have := YZ.out.2.1; omega
            clear hy hz hqn9
            have O1 : Hid True := trivial
            have O2 : Hid True := trivial
            have O3 : Hid True := trivial
            have O5 : Hid True := trivial
            have O6 : Hid True := trivial
            have P1 : Hid True := trivial
            have P2 : Hid True := trivial
            have P3 : Hid True := trivial
            have G1 : Hid True := trivial
            have G2 : Hid True := trivial
            have NA : Hid (∀ b, wr.heap.size ≤ b → ¬ S' b) := fun b hb e => by have := Y.out.2.1.lt b e; omega
            have FACTS : Hid (∀ w6 w7 : World, Below wr.heap.size wr w6 → w6.heap.size = wr.heap.size + 1 → w7.heap.size = w6.heap.size → Blk w7 wr.heap.size 68 (oprC ⟨ki, wi, ii, ji, bs⟩ (.slice bo bl c)) → Kept (fun k => k = wr.heap.size) w6 w7 → (w7.cell? ⟨wr.heap.size, 0, none⟩ = some (.int .i64 ki) ∧ w7.cell? ⟨wr.heap.size, 2, none⟩ = some (.int .i64 ii) ∧ w7.cell? ⟨wr.heap.size, 3, none⟩ = some (.int .i64 ji) ∧ w7.cell? ⟨wr.heap.size, 4, none⟩ = some (.slice bo bl c)) ∧ Below wr.heap.size wr w7 ∧ wr.heap.size < w7.heap.size) := by
              intro w6 w7 l6 s6 s7 b7 k7
              exact ⟨⟨b7.cell 0, b7.cell 2, b7.cell 3, b7.cell 4⟩, below_chain l6 (k7.below (B := wr.heap.size) l6.size (fun b e => by omega)) (Nat.le_refl _), b7.lt⟩
            go_wp2_with (first
              | (clear O1; refine wpList_load_mid rfl 68 _ rfl og (of + m * 5) rfl (oprC ⟨ki, wi, ii, ji, bs⟩ (.slice bo bl c)) _ R0.out.1 Tryz.underlying68 rfl (sizeOp15 _ _) ?_)
              | (clear O2; refine wpList_alloc_new rfl 68 rfl 5 _ zeroOp15 ?_; intro w6 b6 s6 l6)
              | (clear O3; refine wpList_store_blk rfl 68 68 _ _ rfl _ rfl _ (oprC ⟨ki, wi, ii, ji, bs⟩ (.slice bo bl c)) rfl b6 rfl (sizeOp15 _ _) (opr_one _ _ _ _) ?_; intro w7 b7 s7 k7; obtain ⟨⟨C0, C2, C3, C4⟩, l7, z7⟩ := FACTS.out w6 w7 l6 s6 s7 b7 k7; have X7 : Hid (Lr w7 (q.cf key round) (q.sl p (.slice none 0 0)) g h s R S' ∧ Ls w7 S' gl q.n q.sz R ∧ Below w2.heap.size w2 w7 ∧ Below wr.heap.size wr w7 ∧ wr.heap.size < w7.heap.size ∧ w7.cell? ⟨wr.heap.size, 4, none⟩ = some (.slice bo bl c)) := ⟨Y.out.2.1.later l7, Y.out.2.2.1.later l7, below_chain Y.out.2.2.2.2 l7 Y.out.2.2.2.2.size, l7, z7, C4⟩; obtain ⟨n7, hn7⟩ : ∃ n, w7.heap.size = n := ⟨_, rfl⟩; have HN7 : Hid (w7.heap.size = n7) := hn7; clear hn7 l6 b6 b7 k7 l7 z7 s6 s7)
              | (clear O5; go_at_call 10; refine (WY.out _).mono ?_; rintro e _ ⟨rfl, rfl⟩)
              | (clear O6; go_at_call 10; refine (WZ.out _).mono ?_; rintro e _ ⟨rfl, rfl⟩))
            · have hws : Below w.heap.size w w7 := below_chain D2.out.2.1 X7.out.2.2.1 D2.out.2.1.size
              refine (sized_any bo bl c q.sz bs w7 (R0.out.2.later hws (Nat.le_refl _)) YZ.out.2.2.1).mono ?_
              rintro e w9 ⟨he9, b9, l9⟩
              rw [HN7.out] at he9 b9
              subst he9
              have X9 : Hid (Lr w9 (q.cf key round) (q.sl p (.slice none 0 0)) g h s R S' ∧ Ls w9 S' gl q.n q.sz R ∧ Below w2.heap.size w2 w9 ∧ w9.cell? ⟨wr.heap.size, 4, none⟩ = some (.slice bo bl c) ∧ Blk w9 n7 5 (u8s (szL bs q.sz bl)) ∧ ¬ S' n7 ∧ n7 ≠ gl ∧ wr.heap.size ≠ gl) := ⟨X7.out.1.later l9, X7.out.2.1.later l9, below_chain X7.out.2.2.1 l9 X7.out.2.2.1.size, (l9.cell (p := ⟨wr.heap.size, 4, none⟩) X7.out.2.2.2.2.1).trans X7.out.2.2.2.2.2, b9, fun e => by have := X7.out.1.lt n7 e; have := HN7.out; omega, fun e => by have := X7.out.2.1.lt; have := HN7.out; omega, fun e => by have := Y.out.2.2.1.lt; omega⟩
              obtain ⟨eb, ec, cS, _⟩ := X9.out.2.1.cell y YZ.out.1
              have fS := X9.out.2.1.frozen y
              have bz : Seen w9 (some ⟨n7, 0, none⟩) q.sz (szL bs q.sz bl) := by have := seen_blk b9 (szL_bytes R0.out.2.bytes _ _) (by rw [szL_length]; have := YZ.out.2.2.1; omega); rwa [szL_length] at this
              have k10 := (Kept.refl (fun b => b = gl) w9).setCell (p := ⟨gl, y, none⟩) rfl (.slice (some ⟨n7, 0, none⟩) q.sz q.sz)
              have cX : (w9.setCell ⟨gl, y, none⟩ (.slice (some ⟨n7, 0, none⟩) q.sz q.sz)).cell? ⟨wr.heap.size, 4, none⟩ = some (.slice bo bl c) := kept_cell k10 _ _ (Nat.lt_of_lt_of_le X7.out.2.2.2.2.1 l9.size) (fun e => X9.out.2.2.2.2.2.2.2 e) X9.out.2.2.2.1
              have X10 : Hid (Lr (w9.setCell ⟨gl, y, none⟩ (.slice (some ⟨n7, 0, none⟩) q.sz q.sz)) (q.cf key round) (q.sl p (.slice none 0 0)) g h s R S' ∧ Ls (w9.setCell ⟨gl, y, none⟩ (.slice (some ⟨n7, 0, none⟩) q.sz q.sz)) S' gl q.n q.sz (upn R y (szL bs q.sz bl)) ∧ Below w2.heap.size w2 (w9.setCell ⟨gl, y, none⟩ (.slice (some ⟨n7, 0, none⟩) q.sz q.sz))) := ⟨X9.out.1.off k10 (fun b e hb => X9.out.2.1.nl (e ▸ hb)), X9.out.2.1.set y YZ.out.1 n7 q.sz _ bz ⟨b9.lt, X9.out.2.2.2.2.2.1, X9.out.2.2.2.2.2.2.1⟩, below_chain X9.out.2.2.1 (k10.below (B := w2.heap.size) X9.out.2.2.1.size (fun b e => by have := A2.out.2.1; omega)) (Nat.le_refl _)⟩
              clear b9 l9 bz k10 hws
              go_wp2_with (fail)
              obtain ⟨w10, hw10⟩ : ∃ w10, w9.setCell ⟨gl, y, none⟩ (.slice (some ⟨n7, 0, none⟩) q.sz q.sz) = w10 := ⟨_, rfl⟩
              rw [hw10] at X10 ⊢
              clear hw10 cS fS cX
              refine (sized_any bo bl c q.sz bs w10 (R0.out.2.later (below_chain D2.out.2.1 X10.out.2.2 D2.out.2.1.size) (Nat.le_refl _)) YZ.out.2.2.1).mono ?_
              rintro e w11 ⟨he11, b11, l11⟩
              obtain ⟨n10, hn10⟩ : ∃ n, w10.heap.size = n := ⟨_, rfl⟩
              rw [hn10] at he11 b11
              subst he11
              have X11 : Hid (Lr w11 (q.cf key round) (q.sl p (.slice none 0 0)) g h s R S' ∧ Ls w11 S' gl q.n q.sz (upn R y (szL bs q.sz bl)) ∧ Below w2.heap.size w2 w11 ∧ Seen w11 (some ⟨n10, 0, none⟩) q.sz (szL bs q.sz bl) ∧ n10 < w11.heap.size ∧ ¬ S' n10) := ⟨X10.out.1.later l11, X10.out.2.1.later l11, below_chain X10.out.2.2 l11 X10.out.2.2.size, by have := seen_blk b11 (szL_bytes R0.out.2.bytes _ _) (by rw [szL_length]; have := YZ.out.2.2.1; omega); rwa [szL_length] at this, b11.lt, fun e => by have := X10.out.1.lt n10 e; omega⟩
              clear b11 l11 hn10
              go_wp2_with (go_at_call 24; refine (set_R X11.out.1 HN.out y m Y.out.1 (by omega) YZ.out.1 (some ⟨n10, 0, none⟩) q.sz (szL bs q.sz bl) X11.out.2.2.2.1 (fun b o e => by cases e; exact ⟨X11.out.2.2.2.2.1, X11.out.2.2.2.2.2⟩)).mono ?_; rintro e w12 ⟨rfl, S2, xl, k12, f12⟩; have X12 : Hid (Lr w12 (q.cf key round) (q.sl p (.slice none 0 0)) g h (s.set (q.cf key round) (q.sl p (.slice none 0 0)) y) (upn R y (szL bs q.sz bl)) S2 ∧ Ls w12 S2 gl q.n q.sz (upn R y (szL bs q.sz bl)) ∧ (∀ b, S2 b → w2.heap.size ≤ b) ∧ Below w2.heap.size w2 w12) := ⟨xl, X11.out.2.1.step k12 f12, fun b hb => (f12 b hb).elim (Y.out.2.2.2.1 b) (fun e => Nat.le_trans X11.out.2.2.1.size e), below_chain X11.out.2.2.1 (k12.below (B := w2.heap.size) X11.out.2.2.1.size Y.out.2.2.2.1) (Nat.le_refl _)⟩; clear xl k12 f12)
              exact ⟨⟨m + 1, _, _, S2, by omega, by go_num, Y.out.1.set QF.out.win.1 _ y, X12.out⟩, by simp [intOf]; omega⟩
            · have hyz : y ≠ z := fun e => by
                have h := ‹((y : Int) != (z : Int)) = true›
                rw [e] at h; simp at h
              have hws : Below w.heap.size w w7 := below_chain D2.out.2.1 X7.out.2.2.1 D2.out.2.1.size
              have ra := Y.out.2.1.row HN.out y YZ.out.1
              have rb := Y.out.2.1.row HN.out z YZ.out.2.1
              refine (pair_R X7.out.1 HN.out y z m Y.out.1 (by omega) YZ.out.1 YZ.out.2.1 hyz 26 #[.pointer (some ⟨wr.heap.size, 0, none⟩)] (itY (R z) bs (min bl q.sz)) (R y) enter_list1 ⟨by rw [itY_length]; exact rb.1, itY_bytes rb.2 R0.out.2.bytes _, ra.1, ra.2⟩ (fun W' hW' => list1_any W' q.sz wr.heap.size bl c bo (R y) (R z) bs ra rb ⟨YZ.out.2.2.2, YZ.out.2.2.1⟩ (Nat.lt_of_lt_of_le X7.out.2.2.2.2.1 hW'.size) (kept_cell hW' _ _ X7.out.2.2.2.2.1 (NA.out _ (Nat.le_refl _)) X7.out.2.2.2.2.2) (R0.out.2.later (below_chain hws (hW'.below (B := w.heap.size) hws.size (fun b hb => Nat.le_trans D2.out.2.1.size (Y.out.2.2.2.1 b hb))) (Nat.le_refl _)) (Nat.le_refl _)))).mono ?_
              rintro e w8 ⟨rfl, S2, xl, k8, f8⟩
              have X8 : Hid (Lr w8 (q.cf key round) (q.sl p (.slice none 0 0)) g h (s.pair (q.cf key round) (q.sl p (.slice none 0 0)) y z) (upn (upn R y (itY (R z) bs (min bl q.sz))) z (R y)) S2 ∧ Ls w8 S2 gl q.n q.sz R ∧ (∀ b, S2 b → w2.heap.size ≤ b) ∧ Below w2.heap.size w2 w8) := ⟨xl, X7.out.2.1.step k8 f8, fun b hb => (f8 b hb).elim (Y.out.2.2.2.1 b) (fun e => Nat.le_trans X7.out.2.2.1.size e), below_chain X7.out.2.2.1 (k8.below (B := w2.heap.size) X7.out.2.2.1.size Y.out.2.2.2.1) (Nat.le_refl _)⟩
              have C4b : w8.cell? ⟨wr.heap.size, 4, none⟩ = some (.slice bo bl c) := kept_cell k8 _ _ X7.out.2.2.2.2.1 (NA.out _ (Nat.le_refl _)) X7.out.2.2.2.2.2
              obtain ⟨eb, ec, cS, sS, _⟩ := X8.out.2.1.cell y YZ.out.1
              obtain ⟨fb, fc, cT, sT, _⟩ := X8.out.2.1.cell z YZ.out.2.1
              have HT : Hid (Seen w8 (some ⟨eb, 0, none⟩) q.sz (R y) ∧ Seen w8 (some ⟨fb, 0, none⟩) q.sz (R z) ∧ Seen w8 bo bl bs ∧ y ≠ z) := ⟨sS, sT, R0.out.2.later (below_chain D2.out.2.1 X8.out.2.2.2 D2.out.2.1.size) (Nat.le_refl _), hyz⟩
              clear xl k8 f8 sS sT hws ra rb hyz
              go_wp2
              go_region_with (go_at_call 27; refine (turned_any (some ⟨eb, 0, none⟩) (some ⟨fb, 0, none⟩) bo q.sz ec fc bl c (R y) (R z) bs w8.drew YZ.out.2.2.2 (HT.out.1.later (Below.refl _ w8).drew (Nat.le_refl _)) (HT.out.2.1.later (Below.refl _ w8).drew (Nat.le_refl _)) (HT.out.2.2.1.later (Below.refl _ w8).drew (Nat.le_refl _))).mono ?_; rintro e w9 ⟨gx, cx, gy, cy, rfl, hgx, rx, ry, hgy, l9⟩)
              all_goals
                have l9' : Below w8.heap.size w8 w9 := below_chain (Below.refl _ w8).drew l9 (Nat.le_refl _)
                have ya := X8.out.1.row HN.out y YZ.out.1
                have za := Y.out.2.1.row HN.out z YZ.out.2.1
                have yb := Y.out.2.1.row HN.out y YZ.out.1
                have hgl8 := X8.out.2.1.lt
                have nx : gx < w9.heap.size ∧ ¬ S2 gx ∧ gx ≠ gl := ⟨rx.lt, fun e => by have := X8.out.1.lt gx e; have h2 : w8.heap.size ≤ gx := hgx; omega, fun e => by have h2 : w8.heap.size ≤ gx := hgx; omega⟩
                have ny : gy < w9.heap.size ∧ ¬ S2 gy ∧ gy ≠ gl := ⟨ry.lt, fun e => by have := X8.out.1.lt gy e; have h2 : w8.heap.size ≤ gy := hgy; omega, fun e => by have h2 : w8.heap.size ≤ gy := hgy; omega⟩
                have sx := row_seen rx (n := q.sz) (by rw [itY_length]; exact za.1) (itY_bytes za.2 R0.out.2.bytes _) (by have := YZ.out.2.2.1; omega)
                have sy := row_seen ry (n := q.sz) yb.1 yb.2 (by have := YZ.out.2.2.1; omega)
                have hl9 := X8.out.2.1.later l9'
                have hr9 := X8.out.1.later l9'
                have k1 := (Kept.refl (fun b => b = gl) w9).setCell (p := ⟨gl, y, none⟩) rfl (.slice (some ⟨gx, 0, none⟩) q.sz cx)
                have hs1 := hl9.set y YZ.out.1 gx cx _ sx nx
                have hz1 : (w9.setCell ⟨gl, y, none⟩ (.slice (some ⟨gx, 0, none⟩) q.sz cx)).heap.size = w9.heap.size := by simp [World.setCell]
                have k2 := (Kept.refl (fun b => b = gl) (w9.setCell ⟨gl, y, none⟩ (.slice (some ⟨gx, 0, none⟩) q.sz cx))).setCell (p := ⟨gl, z, none⟩) rfl (.slice (some ⟨gy, 0, none⟩) q.sz cy)
                have hs2 := hs1.set z YZ.out.2.1 gy cy _ (sy.off k1 (fun b o e he => by cases e; exact ny.2.2 he)) ⟨by rw [hz1]; exact ny.1, ny.2⟩
                have XF : Hid (Lr ((w9.setCell ⟨gl, y, none⟩ (.slice (some ⟨gx, 0, none⟩) q.sz cx)).setCell ⟨gl, z, none⟩ (.slice (some ⟨gy, 0, none⟩) q.sz cy)) (q.cf key round) (q.sl p (.slice none 0 0)) g h (s.pair (q.cf key round) (q.sl p (.slice none 0 0)) y z) (upn (upn R y (itY (R z) bs (min bl q.sz))) z (R y)) S2 ∧ Ls ((w9.setCell ⟨gl, y, none⟩ (.slice (some ⟨gx, 0, none⟩) q.sz cx)).setCell ⟨gl, z, none⟩ (.slice (some ⟨gy, 0, none⟩) q.sz cy)) S2 gl q.n q.sz (upn (upn R y (itY (R z) bs (min bl q.sz))) z (R y)) ∧ (∀ b, S2 b → w2.heap.size ≤ b) ∧ Below w2.heap.size w2 ((w9.setCell ⟨gl, y, none⟩ (.slice (some ⟨gx, 0, none⟩) q.sz cx)).setCell ⟨gl, z, none⟩ (.slice (some ⟨gy, 0, none⟩) q.sz cy))) := ⟨hr9.off (k1.trans k2) (fun b e hb => X8.out.2.1.nl (e ▸ hb)), hs2, X8.out.2.2.1, below_chain (below_chain X8.out.2.2.2 l9' X8.out.2.2.2.size) ((k1.trans k2).below (B := w2.heap.size) (Nat.le_trans X8.out.2.2.2.size l9'.size) (fun b e => by have := A2.out.2.1; omega)) (Nat.le_refl _)⟩
                obtain ⟨e1, d1, cU, _⟩ := hl9.cell y YZ.out.1
                have fU := hl9.frozen y
                obtain ⟨e2, d2, cV, _⟩ := hs1.cell z YZ.out.2.1
                have fV := hs1.frozen z
                clear l9 l9' ya za yb hgl8 nx ny sx sy hl9 hr9 k1 hs1 hz1 k2 hs2 rx ry hgx hgy
                go_wp2
                exact ⟨⟨m + 1, _, _, S2, by omega, by go_num, Y.out.1.pair QF.out.win.1 _ y z, XF.out⟩, by simp [intOf]; omega⟩
            all_goals
              refine (get_R X7.out.1 HN.out y m Y.out.1 (by omega) YZ.out.1).mono ?_
              rintro e w8 ⟨rb, rfl, b8, h8, S2, xl, nS, k8, f8⟩
              have rw_ := Y.out.2.1.row HN.out y YZ.out.1
              have X8 : Hid (Lr w8 (q.cf key round) (q.sl p (.slice none 0 0)) g h (s.get (q.cf key round) (q.sl p (.slice none 0 0)) y) R S2 ∧ Ls w8 S2 gl q.n q.sz R ∧ (∀ b, S2 b → w2.heap.size ≤ b) ∧ Below w2.heap.size w2 w8) := ⟨xl, X7.out.2.1.step k8 f8, fun b hb => (f8 b hb).elim (Y.out.2.2.2.1 b) (fun e => Nat.le_trans X7.out.2.2.1.size e), below_chain X7.out.2.2.1 (k8.below (B := w2.heap.size) X7.out.2.2.1.size Y.out.2.2.2.1) (Nat.le_refl _)⟩
              obtain ⟨eb, ec, cS, sS, _⟩ := X8.out.2.1.cell y YZ.out.1
              have HT : Hid (Seen w8 (some ⟨eb, 0, none⟩) q.sz (R y) ∧ Seen w8 (some ⟨rb, 0, none⟩) q.sz (R y)) := ⟨sS, by have := seen_blk b8 rw_.2 (by rw [rw_.1]; show q.sz ≤ _; have := YZ.out.2.2.1; omega); rw [rw_.1] at this; exact this⟩
              clear xl k8 f8 sS b8 nS rw_
              go_wp2_with (go_at_call 29; refine (reqb_any (some ⟨rb, 0, none⟩) (some ⟨eb, 0, none⟩) q.sz q.sz q.sz ec (R y) (R y) w8 HT.out.2 HT.out.1).mono ?_; rw [decide_eq_true rfl]; rintro e _ ⟨rfl, qd, rfl⟩)
              exact ⟨⟨m + 1, _, _, S2, by omega, by go_num, Y.out.1.get QF.out.win.1 _ y, X8.out.1.later (below_dn (Below.refl _ _) _), X8.out.2.1.later (below_dn (Below.refl _ _) _), X8.out.2.2.1, below_dn X8.out.2.2.2 _⟩, by simp [intOf]; omega⟩
          · obtain rfl : m = ns := by omega
            have j2 : ¬ (m : Int) < (m : Int) := by omega
            obtain ⟨wB, hwB⟩ : ∃ wB, wB = wr := ⟨_, rfl⟩
            rw [← hwB] at Y c43 ⊢
            clear hwB wr
            go_wp2
            go_loopw [19] (fun i wr => ∃ (k : Nat) (s : Sn) (S' : Nat → Prop), k ≤ q.n ∧ i = .int .i64 (k : Int) ∧ Bn (q.cf key round) s (m + k) ∧ Lr wr (q.cf key round) (q.sl p (.slice none 0 0)) g h s R S' ∧ Ls wr S' gl q.n q.sz R ∧ (∀ b, S' b → w2.heap.size ≤ b) ∧ Below w2.heap.size w2 wr) (fun i _ => q.n - (intOf i).toNat)
            case atStart => exact ⟨0, _, _, Nat.zero_le _, rfl, Y.out⟩
            case round =>
              obtain ⟨k, s, S', hk, rfl, hbn, hlr, hls, hge, hbw⟩ := hrel
              have Y : Hid (Bn (q.cf key round) s (m + k) ∧ Lr wr (q.cf key round) (q.sl p (.slice none 0 0)) g h s R S' ∧ Ls wr S' gl q.n q.sz R ∧ (∀ b, S' b → w2.heap.size ≤ b) ∧ Below w2.heap.size w2 wr) := ⟨hbn, hlr, hls, hge, hbw⟩
              have hqn9 := HB.out.2.1
              by_cases hlt : k < q.n
              · have i1 : (k : Int) < (q.n : Int) := by omega
                have i0 : (0 : Int) ≤ (k : Int) := by omega
                have rw_ := hlr.row HN.out k hlt
                have HR : Hid ((R k).length = q.sz ∧ Bytes (R k)) := rw_
                clear rw_ hbn hlr hls hge hbw
                go_wp2_with (fail)
                refine (get_R Y.out.2.1 HN.out k (m + k) Y.out.1 (by omega) hlt).mono ?_
                rintro e w8 ⟨rb, rfl, b8, h8, S2, xl, nS, k8, f8⟩
                have X8 : Hid (Lr w8 (q.cf key round) (q.sl p (.slice none 0 0)) g h (s.get (q.cf key round) (q.sl p (.slice none 0 0)) k) R S2 ∧ Ls w8 S2 gl q.n q.sz R ∧ (∀ b, S2 b → w2.heap.size ≤ b) ∧ Below w2.heap.size w2 w8) := ⟨xl, Y.out.2.2.1.step k8 f8, fun b hb => (f8 b hb).elim (Y.out.2.2.2.1 b) (fun e => Nat.le_trans Y.out.2.2.2.2.size e), below_chain Y.out.2.2.2.2 (k8.below (B := w2.heap.size) Y.out.2.2.2.2.size Y.out.2.2.2.1) (Nat.le_refl _)⟩
                obtain ⟨eb, ec, cS, sS, _⟩ := X8.out.2.1.cell k hlt
                have HT : Hid (Seen w8 (some ⟨eb, 0, none⟩) q.sz (R k) ∧ Seen w8 (some ⟨rb, 0, none⟩) q.sz (R k)) := ⟨sS, by have := seen_blk b8 HR.out.2 (by rw [HR.out.1]; have := HB.out.1; omega); rw [HR.out.1] at this; exact this⟩
                clear xl k8 f8 sS b8 nS
                go_wp2_with (go_at_call 29; refine (reqb_any (some ⟨rb, 0, none⟩) (some ⟨eb, 0, none⟩) q.sz q.sz q.sz ec (R k) (R k) w8 HT.out.2 HT.out.1).mono ?_; rw [decide_eq_true rfl]; rintro e _ ⟨rfl, qd, rfl⟩)
                exact ⟨⟨k + 1, _, S2, by omega, by go_num, by have := Y.out.1.get QF.out.win.1 (q.sl p (.slice none 0 0)) k; rwa [Nat.add_assoc] at this, X8.out.1.later (below_dn (Below.refl _ _) _), X8.out.2.1.later (below_dn (Below.refl _ _) _), X8.out.2.2.1, below_dn X8.out.2.2.2 _⟩, by simp [intOf]; omega⟩
              · obtain rfl : k = q.n := by omega
                clear hbn hlr hls hge hbw
                go_wp2
                go_ret
                exact ⟨rfl, below_chain D2.out.2.1 Y.out.2.2.2.2 D2.out.2.1.size⟩
end Go.Proofs.YtfhieacclifihaaGreat
namespace Go.Proofs.YtfhieacclifihaaGreat
open Go.ChangeShapes Go.WideShapes Go.ChangeAt Go.RowKit Go.Deep
set_option linter.unusedVariables false
set_option linter.unusedSimpArgs false

theorem wCellsB : Tryz.prog.cellsOf 5 = 1 := by kernel_rfl
theorem wCellsL : Tryz.prog.cellsOf 66 = 1 := by kernel_rfl
theorem wCellsO : Tryz.prog.cellsOf 68 = 5 := by kernel_rfl
theorem wCellsOs : Tryz.prog.cellsOf 60 = 1 := by kernel_rfl
theorem wCellsW : Tryz.prog.cellsOf 62 = 44 := by kernel_rfl
theorem wCellsK : Tryz.prog.cellsOf 41 = 32 := by kernel_rfl
theorem wCellsA : Tryz.prog.cellsOf 59 = 2 := by kernel_rfl
theorem wCellsI : Tryz.prog.cellsOf 3 = 1 := by kernel_rfl
theorem wCellsU : Tryz.prog.cellsOf 42 = 1 := by kernel_rfl
theorem wbulk_one {H : Type} (d : DataW H) : 1 ≤ Rows.uptoBulk d := by
  cases d with
  | lit l => cases l <;> simp [Rows.uptoBulk]
  | _ => simp [Rows.uptoBulk]
theorem wbulk_length {H : Type} (l : List (DataW H)) : l.length ≤ Rows.uptoBulkAll l := by
  induction l with
  | nil => simp [Rows.uptoBulkAll]
  | cons x r ih => have := wbulk_one x; simp only [Rows.uptoBulkAll, List.length_cons]; omega
theorem wbulk_mem {H : Type} {l : List (DataW H)} {d : DataW H} (h : d ∈ l) : Rows.uptoBulk d ≤ Rows.uptoBulkAll l := by
  induction l with
  | nil => cases h
  | cons x r ih =>
    simp only [Rows.uptoBulkAll]
    rcases List.mem_cons.1 h with rfl | h
    · omega
    · have := ih h; omega
def wUnByte : Value → Int
  | .int _ z => z
  | _ => 0
theorem wbyte_wf {x : Int} (h : (Lit.int .u8 x).wf = true) : 0 ≤ x ∧ x < 256 := by
  simp [Lit.wf, IntKind.min, IntKind.max, IntKind.signed, IntKind.bits] at h
  omega
theorem wBytes_arr {H : Type} {enc : TypeId × Value → H} {W : World} {base : Nat} {sp : Nat → Bool} {held : Bool} {fuel n : Nat} {t : TypeId} {cs : List Value} {x : DataW H × List MemPlace} (ht : Tryz.prog.underlying t = some (.array n 5)) (hn : Tryz.prog.cellsOf t = n)
    (h : DataW.trod enc Tryz.prog W base sp held fuel t cs = some x) : ∃ zs : List Int, cs = u8s zs ∧ zs.length = n ∧ Bytes zs := by
  obtain ⟨xs, m, _, _, hlen, hxl, hf⟩ := DataW.trod_array ht h
  have hc : cs.length = n := hlen.trans hn
  have key : ∀ i, (hi : i < cs.length) → ∃ z, cs[i] = .int .u8 z ∧ 0 ≤ z ∧ z < 256 := by
    intro i hi
    have h1 := hf i (by omega)
    rw [wCellsB, Nat.mul_one, List.getElem?_eq_getElem (by omega)] at h1
    obtain ⟨z, hz, _, hw⟩ := DataW.trod_int Tryz.underlying5 h1
    refine ⟨z, ?_, wbyte_wf hw⟩
    rw [List.drop_eq_getElem_cons hi, List.take_succ_cons, List.take_zero] at hz
    exact (List.cons.inj hz).1
  refine ⟨cs.map wUnByte, ?_, by simpa using hc, ?_⟩
  · apply List.ext_getElem
    · simp [u8s]
    · intro i h1 h2
      obtain ⟨z, hz, _⟩ := key i h1
      simp [u8s, hz, wUnByte]
  · intro z hz
    obtain ⟨v, hv, rfl⟩ := List.mem_map.1 hz
    obtain ⟨i, hi, rfl⟩ := List.mem_iff_getElem.1 hv
    obtain ⟨z, hz, hb⟩ := key i hi
    rw [hz]; exact hb
set_option maxRecDepth 20000 in
theorem wTwo_arr {H : Type} {enc : TypeId × Value → H} {W : World} {base : Nat} {sp : Nat → Bool} {held : Bool} {fuel : Nat} {cs : List Value} {x : DataW H × List MemPlace} (h : DataW.trod enc Tryz.prog W base sp held fuel 59 cs = some x) : ∃ a b : Int, cs = [.int .i64 a, .int .i64 b] := by
  obtain ⟨xs, m, _, _, hlen, hxl, hf⟩ := DataW.trod_array Tryz.underlying59 h
  rw [wCellsA] at hlen
  obtain ⟨v0, v1, rfl⟩ : ∃ v0 v1, cs = [v0, v1] := by
    match cs, hlen with
    | [v0, v1], _ => exact ⟨v0, v1, rfl⟩
  obtain ⟨y0, y1, rfl⟩ : ∃ y0 y1, xs = [y0, y1] := by
    match xs, hxl with
    | [y0, y1], _ => exact ⟨y0, y1, rfl⟩
  · skip
    have h0 := hf 0 (by decide)
    have h1 := hf 1 (by decide)
    rw [wCellsI] at h0 h1
    simp only [Nat.zero_mul, Nat.one_mul, List.drop_zero, List.drop_succ_cons, List.take_succ_cons, List.take_zero, List.getElem?_cons_zero, List.getElem?_cons_succ] at h0 h1
    obtain ⟨a, ea, _⟩ := DataW.trod_int Tryz.underlying3 h0
    obtain ⟨b, eb, _⟩ := DataW.trod_int Tryz.underlying3 h1
    simp at ea eb
    exact ⟨a, b, by rw [ea, eb]⟩
/-- Bytes in a cell. -/
theorem wbytes_in {H : Type} {enc : TypeId × Value → H} {W : World} {fuel : Nat} {v : Value} {y : DataW H × List MemPlace} (h : DataW.trod enc Tryz.prog W 0 (fun _ => true) true fuel 66 [v] = some y)
    (hs : Rows.uptoBulk y.1 ≤ 1048576) : ∃ (so : Option Addr) (n c : Nat) (zs : List Int), v = .slice so n c ∧ Seen W so n zs ∧ n ≤ c := by
  rcases open_ints Tryz.underlying66 Tryz.underlying5 (by kernel_rfl) h with ⟨hcs, _⟩ | ⟨x, l, c, zs, hcs, _, hl, hm, hz, hx, hcell, hwz⟩
  · simp at hcs
    subst hcs
    exact ⟨none, 0, 0, [], rfl, Seen.empty _ _, by decide⟩
  · simp at hcs
    subst hcs
    have hz' : zs.length = c := by simpa using hz
    rw [hx] at hs
    have h1 := wbulk_length (lits (H := H) .u8 (zs.take l))
    simp only [Rows.uptoBulk] at hs
    simp only [lits, List.length_map, List.length_take] at h1
    simp only [lits] at hs
    exact ⟨some x, l, c, _, rfl, Seen.of_ints (by omega) hl hz' hcell hwz, hl⟩
/-- One step of a script in five cells. -/
theorem wop_in {H : Type} {enc : TypeId × Value → H} {W : World} {fuel : Nat} {cs : List Value} {y : DataW H × List MemPlace} (hl : cs.length = 5) (h : DataW.trod enc Tryz.prog W 0 (fun _ => true) true fuel 68 cs = some y) (hs : Rows.uptoBulk y.1 ≤ 1048576) :
    ∃ (o : Opr) (so : Option Addr) (c : Nat), cs = oprC o (.slice so o.b.length c) ∧ Seen W so o.b.length o.b := by
  match cs, hl with
  | [v0, v1, v2, v3, v4], _ =>
    obtain ⟨xs, n, _, rfl, _, hlen, hf⟩ := DataW.trod_struct Tryz.underlying68 h
    match xs, hlen with
    | [y0, y1, y2, y3, y4], _ =>
      have t0 : DataW.trod enc Tryz.prog W 0 (fun _ => true) true n 3 [v0] = some y0 := by simpa [wCellsI, wCellsL] using hf 0 _ rfl
      have t1 : DataW.trod enc Tryz.prog W 0 (fun _ => true) true n 3 [v1] = some y1 := by simpa [wCellsI, wCellsL] using hf 1 _ rfl
      have t2 : DataW.trod enc Tryz.prog W 0 (fun _ => true) true n 3 [v2] = some y2 := by simpa [wCellsI, wCellsL] using hf 2 _ rfl
      have t3 : DataW.trod enc Tryz.prog W 0 (fun _ => true) true n 3 [v3] = some y3 := by simpa [wCellsI, wCellsL] using hf 3 _ rfl
      have t4 : DataW.trod enc Tryz.prog W 0 (fun _ => true) true n 66 [v4] = some y4 := by simpa [wCellsI, wCellsL] using hf 4 _ rfl
      obtain ⟨a0, e0, _⟩ := DataW.trod_int Tryz.underlying3 t0
      obtain ⟨a1, e1, _⟩ := DataW.trod_int Tryz.underlying3 t1
      obtain ⟨a2, e2, _⟩ := DataW.trod_int Tryz.underlying3 t2
      obtain ⟨a3, e3, _⟩ := DataW.trod_int Tryz.underlying3 t3
      simp at e0 e1 e2 e3
      subst e0 e1 e2 e3
      obtain ⟨so, m, c, zs, rfl, s4, _⟩ := wbytes_in t4 (by simp only [Rows.uptoBulk, List.map_cons, List.map_nil, Rows.uptoBulkAll] at hs; omega)
      have hl := s4.len
      subst hl
      exact ⟨⟨a0, a1, a2, a3, zs⟩, so, c, rfl, s4⟩
theorem wops_in {H : Type} {enc : TypeId × Value → H} {W : World} {fuel : Nat} {v : Value} {y : DataW H × List MemPlace} (h : DataW.trod enc Tryz.prog W 0 (fun _ => true) true fuel 60 [v] = some y) (hs : Rows.uptoBulk y.1 ≤ 1048576) :
    ∃ so n c ops, v = .slice so n c ∧ SeenO W so ops ∧ ops.length = n ∧ n ≤ 1048575 := by
  rcases open_slice Tryz.underlying60 h with ⟨hcs, hx⟩ | h
  · simp at hcs
    subst hcs
    exact ⟨none, 0, 0, [], rfl, ⟨fun i hi => (by cases hi)⟩, rfl, by decide⟩
  · obtain ⟨a, len, cap, m, nn, D, Pl, hcs, _, hl, hm, hmm, hx, hcell⟩ := h
    simp at hcs
    subst hcs
    have hmm' : m = cap := by simpa using hmm
    rw [wCellsO] at hcell
    rw [hx] at hs
    simp only [Rows.uptoBulk] at hs
    have hlen : len ≤ 1048575 := by
      have h1 := wbulk_length ((List.range len).map D)
      simp only [List.length_map, List.length_range] at h1
      omega
    have hw : ∀ i, i < len → Rows.uptoBulk (D i) ≤ 1048576 := fun i hi => by
      have := wbulk_mem (l := (List.range len).map D) (List.mem_map.2 ⟨i, List.mem_range.2 hi, rfl⟩)
      omega
    obtain ⟨f, hf⟩ := choose_lt (n := len) (p := fun i (r : Opr) => ∃ so c, W.cells? 0 (a.add (i * 5)) 5 = some (oprC r (.slice so r.b.length c)) ∧ Seen W so r.b.length r.b) (fun i hi => by
      obtain ⟨cs', h1, h2⟩ := hcell i (by omega)
      have hl5 := (World.cells?_some h1).2.1
      obtain ⟨r, so, c, rfl, rest⟩ := wop_in hl5 h2 (hw i hi)
      exact ⟨r, so, c, h1, rest⟩)
    have hgz : ∀ i, i < len → ((List.range len).map f).getD i default = f i := fun i hi => by simp [List.getD, hi]
    have hL : ((List.range len).map f).length = len := by simp
    refine ⟨some a, len, cap, (List.range len).map f, rfl, ⟨fun i hi => ?_⟩, hL, hlen⟩
    rw [hL] at hi
    obtain ⟨b, off, spot⟩ := a
    obtain ⟨so, c, h1, hsn⟩ := hf i hi
    obtain ⟨so0, c0, g1, _⟩ := hf 0 (by omega)
    have hc0 := (World.cells?_some g1).2.2 0 (by decide)
    have hspot : spot = none := by
      have : W.cell? ⟨b, off, spot⟩ = some (.int .i64 (f 0).k) := by simpa [Addr.add, oprC] using hc0
      exact World.cell?_spot this
    subst hspot
    have hcs := (World.cells?_some h1).2.2
    rw [hgz i hi]
    have k0 := hcs 0 (by decide)
    have k1 := hcs 1 (by decide)
    have k2 := hcs 2 (by decide)
    have k3 := hcs 3 (by decide)
    have k4 := hcs 4 (by decide)
    rw [add_at, add_at] at k0 k1 k2 k3 k4
    refine ⟨b, off, so, c, rfl, World.block_lt_of_cell? _ _ k0, fun j u hj => ?_, hsn⟩
    have hj5 : j < 5 := (List.getElem?_eq_some_iff.1 hj).1
    match j, hj5 with
    | 0, _ => simp only [oprC, List.getElem?_cons_zero, Option.some.injEq] at hj; rw [← hj]; exact k0
    | 1, _ => simp only [oprC, List.getElem?_cons_zero, List.getElem?_cons_succ, Option.some.injEq] at hj; rw [← hj]; exact k1
    | 2, _ => simp only [oprC, List.getElem?_cons_zero, List.getElem?_cons_succ, Option.some.injEq] at hj; rw [← hj]; exact k2
    | 3, _ => simp only [oprC, List.getElem?_cons_zero, List.getElem?_cons_succ, Option.some.injEq] at hj; rw [← hj]; exact k3
    | 4, _ => simp only [oprC, List.getElem?_cons_zero, List.getElem?_cons_succ, Option.some.injEq] at hj; rw [← hj]; exact k4
theorem wcut {α : Type} (l : List α) (a n : Nat) : l.drop a = (l.drop a).take n ++ l.drop (a + n) := by
  rw [← List.drop_drop]; exact (List.take_append_drop n (l.drop a)).symm
set_option maxRecDepth 20000 in
theorem wld_in {H : Type} {enc : TypeId × Value → H} {W : World} {fuel : Nat} {cs : List Value} {y : DataW H × List MemPlace} (hl : cs.length = 44) (h : DataW.trod enc Tryz.prog W 0 (fun _ => true) true fuel 62 cs = some y) (hs : Rows.uptoBulk y.1 ≤ 1048576) :
    ∃ pages text window key round fv f0 f1 n0 n1 s0 s1 so ns sc ops, cs = wldC pages text window key round fv f0 f1 n0 n1 s0 s1 (.slice so ns sc) ∧ key.length = 32 ∧ Bytes key ∧ Word round ∧ SeenO W so ops ∧ ops.length = ns ∧ ns ≤ 1048575 := by
  obtain ⟨xs, n, _, rfl, _, hlen, hf⟩ := DataW.trod_struct Tryz.underlying62 h
  match xs, hlen with
  | [y0, y1, y2, y3, y4, y5, y6, y7, y8, y9], _ =>
    have t0 : DataW.trod enc Tryz.prog W 0 (fun _ => true) true n 3 ((cs.drop 0).take 1) = some y0 := by have q : DataW.trod enc Tryz.prog W 0 (fun _ => true) true n 3 ((cs.drop 0).take (Tryz.prog.cellsOf 3)) = some y0 := hf 0 _ rfl; rw [wCellsI] at q; exact q
    have t1 : DataW.trod enc Tryz.prog W 0 (fun _ => true) true n 3 ((cs.drop 1).take 1) = some y1 := by have q : DataW.trod enc Tryz.prog W 0 (fun _ => true) true n 3 ((cs.drop 1).take (Tryz.prog.cellsOf 3)) = some y1 := hf 1 _ rfl; rw [wCellsI] at q; exact q
    have t2 : DataW.trod enc Tryz.prog W 0 (fun _ => true) true n 3 ((cs.drop 2).take 1) = some y2 := by have q : DataW.trod enc Tryz.prog W 0 (fun _ => true) true n 3 ((cs.drop 2).take (Tryz.prog.cellsOf 3)) = some y2 := hf 2 _ rfl; rw [wCellsI] at q; exact q
    have t3 : DataW.trod enc Tryz.prog W 0 (fun _ => true) true n 41 ((cs.drop 3).take 32) = some y3 := by have q : DataW.trod enc Tryz.prog W 0 (fun _ => true) true n 41 ((cs.drop 3).take (Tryz.prog.cellsOf 41)) = some y3 := hf 3 _ rfl; rw [wCellsK] at q; exact q
    have t4 : DataW.trod enc Tryz.prog W 0 (fun _ => true) true n 42 ((cs.drop 35).take 1) = some y4 := by have q : DataW.trod enc Tryz.prog W 0 (fun _ => true) true n 42 ((cs.drop 35).take (Tryz.prog.cellsOf 42)) = some y4 := hf 4 _ rfl; rw [wCellsU] at q; exact q
    have t6 : DataW.trod enc Tryz.prog W 0 (fun _ => true) true n 59 ((cs.drop 37).take 2) = some y6 := by have q : DataW.trod enc Tryz.prog W 0 (fun _ => true) true n 59 ((cs.drop 37).take (Tryz.prog.cellsOf 59)) = some y6 := hf 6 _ rfl; rw [wCellsA] at q; exact q
    have t7 : DataW.trod enc Tryz.prog W 0 (fun _ => true) true n 59 ((cs.drop 39).take 2) = some y7 := by have q : DataW.trod enc Tryz.prog W 0 (fun _ => true) true n 59 ((cs.drop 39).take (Tryz.prog.cellsOf 59)) = some y7 := hf 7 _ rfl; rw [wCellsA] at q; exact q
    have t8 : DataW.trod enc Tryz.prog W 0 (fun _ => true) true n 59 ((cs.drop 41).take 2) = some y8 := by have q : DataW.trod enc Tryz.prog W 0 (fun _ => true) true n 59 ((cs.drop 41).take (Tryz.prog.cellsOf 59)) = some y8 := hf 8 _ rfl; rw [wCellsA] at q; exact q
    have t9 : DataW.trod enc Tryz.prog W 0 (fun _ => true) true n 60 ((cs.drop 43).take 1) = some y9 := by have q : DataW.trod enc Tryz.prog W 0 (fun _ => true) true n 60 ((cs.drop 43).take (Tryz.prog.cellsOf 60)) = some y9 := hf 9 _ rfl; rw [wCellsOs] at q; exact q
    obtain ⟨a0, e0, _⟩ := DataW.trod_int Tryz.underlying3 t0
    obtain ⟨a1, e1, _⟩ := DataW.trod_int Tryz.underlying3 t1
    obtain ⟨a2, e2, _⟩ := DataW.trod_int Tryz.underlying3 t2
    obtain ⟨key, e3, hk, hkb⟩ := wBytes_arr Tryz.underlying41 wCellsK t3
    obtain ⟨r, e4, _, w4⟩ := DataW.trod_int Tryz.underlying42 t4
    obtain ⟨f0, f1, e6⟩ := wTwo_arr t6
    obtain ⟨n0, n1, e7⟩ := wTwo_arr t7
    obtain ⟨s0, s1, e8⟩ := wTwo_arr t8
    obtain ⟨fv, e5⟩ : ∃ fv, (cs.drop 36).take 1 = [fv] := by
      have hd : ((cs.drop 36).take 1).length = 1 := by rw [List.length_take, List.length_drop, hl]; decide
      match (cs.drop 36).take 1, hd with
      | [v], _ => exact ⟨v, rfl⟩
    obtain ⟨sv, e9⟩ : ∃ sv, (cs.drop 43).take 1 = [sv] := by
      have hd : ((cs.drop 43).take 1).length = 1 := by rw [List.length_take, List.length_drop, hl]; decide
      match (cs.drop 43).take 1, hd with
      | [v], _ => exact ⟨v, rfl⟩
    rw [e9] at t9
    obtain ⟨so, ns, sc, ops, rfl, h1, h2, h3⟩ := wops_in t9 (by simp only [Rows.uptoBulk, List.map_cons, List.map_nil, Rows.uptoBulkAll] at hs; omega)
    refine ⟨a0, a1, a2, key, r, fv, f0, f1, n0, n1, s0, s1, so, ns, sc, ops, ?_, hk, hkb, word_of_wf w4, h1, h2, h3⟩
    have e : cs = cs.drop 0 := rfl
    rw [e, wcut cs 0 1, e0, wcut cs 1 1, e1, wcut cs 2 1, e2, wcut cs 3 32, e3, wcut cs 35 1, e4, wcut cs 36 1, e5, wcut cs 37 2, e6, wcut cs 39 2, e7, wcut cs 41 2, e8, wcut cs 43 1, e9, List.drop_eq_nil_of_le (by omega : cs.length ≤ 43 + 1)]
    simp [wldC]
end Go.Proofs.YtfhieacclifihaaGreat
namespace Go.Proofs.YtfhieacclifihaaGreat.slotsList
open Go.ChangeShapes Go.WideShapes Go.ChangeAt Go.RowKit Go.Deep
set_option linter.unusedVariables false
set_option linter.unusedSimpArgs false

theorem own : ownKnob Tryz.prog.godebug = none := by kernel_rfl
theorem laidOut : laidOutB Tryz.prog = true := by kernel_rfl
def zK : List Int := List.replicate 32 0
def zW : Value := .agg (wldC 0 0 0 zK 0 (.slice none 0 0) 0 0 0 0 0 0 (.slice none 0 0)).toArray
def zD {H : Type} : DataW H := .agg [.lit (.int .i64 0), .lit (.int .i64 0), .lit (.int .i64 0), .agg (lits .u8 zK), .lit (.int .u64 0), .nil, .agg [.lit (.int .i64 0), .lit (.int .i64 0)], .agg [.lit (.int .i64 0), .lit (.int .i64 0)], .agg [.lit (.int .i64 0), .lit (.int .i64 0)], .nil]
set_option maxRecDepth 100000 in
theorem contract (H : Type) (enc : TypeId × Value → H) (W : World) (base : Nat) (args : Array Value) (ds gs : List (DataW H)) (before : List MemPlace)
    (hval0 : ∀ (j : Nat) t v, Tryz.f4.params[j]? = some t → args[j]? = some v → Value.okWide Tryz.prog W .any base t v)
    (hW : DataW.Whole enc Tryz.prog Tryz.f4.params.toList Rows.slotsListSpec.vars false W args.toList ds gs before) (hk : Rows.uptoSmall H (ds ++ gs) = true) :
    Calls Tryz.prog 4 args W fun e W' => ∃ v, e = .returned v ∧ Rows.slotsListSpec.post enc Tryz.prog Tryz.f4 false true false false W args v W' := by
  have hval := hval0
  have hW' := hW
  obtain ⟨p, q, hA0, hV, rfl, hfz, hnd⟩ := hW
  have hA : DataW.TrodAll enc Tryz.prog W 0 (fun _ => true) true Tryz.f4.params.toList args.toList ds p := hA0
  rw [Tryz.params4] at hA hval
  obtain ⟨v0, vs0, d0, ds0, p0, q0, hargs, rfl, rfl, h0, r0⟩ := trodAll_cons hA
  obtain ⟨rfl, rfl, rfl⟩ := trodAll_nil r0
  obtain rfl : args = #[v0] := by cases args; simp_all
  obtain ⟨rfl, rfl⟩ := trodVars_none hV
  have hb := of_decide_eq_true hk
  simp only [List.cons_append, List.nil_append, Rows.uptoBulkAll] at hb
  have k0 := h0
  have lt0 : ∀ x ∈ p0, x.block < W.heap.size := by obtain ⟨m, hm⟩ := k0; exact DataW.trod_lt m _ _ _ hm
  obtain ⟨cs0, rfl, hcs0⟩ := okWide_struct Tryz.underlying62 (hval 0 62 v0 rfl rfl)
  obtain ⟨pages, text, window, key, round, fv, f0, f1, n0, n1, s0, s1, so, ns, sc, ops, ec0, g1, g2, g3, g4, g5, g6⟩ : ∃ pages text window key round fv f0 f1 n0 n1 s0 s1 so ns sc ops, cs0.toList = wldC pages text window key round fv f0 f1 n0 n1 s0 s1 (.slice so ns sc) ∧ key.length = 32 ∧ Bytes key ∧ Word round ∧ SeenO W so ops ∧ ops.length = ns ∧ ns ≤ 1048575 := by
    obtain ⟨fuel, hf⟩ := h0
    exact wld_in (y := (d0, p0)) (by simpa using hcs0.trans wCellsW) (by simpa [Value.cells] using hf) (by show Rows.uptoBulk d0 ≤ 1048576; omega)
  obtain rfl : cs0 = (wldC pages text window key round fv f0 f1 n0 n1 s0 s1 (.slice so ns sc)).toArray := by rw [← ec0]
  clear hA0 hval0 hb hk
  refine (listLaw pages text window key round fv f0 f1 n0 n1 s0 s1 so ns sc ops W g1 g2 g3 g4 g5 g6).mono fun e W' ⟨he, bel⟩ => ?_
  subst he
  exact ⟨_, rfl, _, _, _, [], _, [], hW', trodAll_mk1 (shut_bool Tryz.underlying4 _), (trodAll_cons_mk (Below.trod laidOut (by kernel_rfl) (of_decide_eq_true (by kernel_rfl)) k0 bel lt0) trodAll_mk0), rfl, bel.frame _, fun h => by cases h⟩
set_option maxRecDepth 100000 in
theorem lifted (os : Os) (started : os.Started) (H : Type) (enc : TypeId × Value → H) (F : Stop.Interp) :
    ReturnsInHanded {} Tryz.checked os 4 .any ((Rows.OpenSpec.upto Rows.slotsListSpec).pre6 enc Tryz.prog Tryz.f4 Rows.slotsListUptoRow.domain false) (((Rows.OpenSpec.upto Rows.slotsListSpec).at F).post enc Tryz.prog Tryz.f4 false true false false) := by
  refine returnsInHanded_of_cond (C := Tryz.checked) (s := Rows.OpenSpec.upto Rows.slotsListSpec) (k := Rows.uptoSmall) rfl own started (by kernel_rfl) Tryz.func4
    (OpenSpec.witness (enc := enc) (C := Tryz.checked) (s := Rows.OpenSpec.upto Rows.slotsListSpec) (k := Rows.uptoSmall) rfl false ⟨#[], #[zW], []⟩ 8 (by kernel_rfl) (by kernel_rfl) (by kernel_rfl)
      (x := ([zD], [], [])) (by kernel_rfl) rfl (by kernel_rfl)) ?_
  intro W base args ds gs before hval hW _ hk _
  exact contract H enc W base args ds gs before hval hW hk
theorem proved : Rows.SlotsListUptoSaid :=
  OpenClaim.holds_of_cond 4 Tryz.f4 rfl rfl rfl rfl rfl rfl rfl ⟨rfl, rfl, rfl, rfl, rfl⟩ rfl rfl rfl rfl rfl (by kernel_rfl) Tryz.func4 (by kernel_rfl)
    (of_decide_eq_true (by kernel_rfl)) (by unfold Func.isWrapper; first | (rw [if_pos (by decide +kernel)]; kernel_rfl) | (rw [if_neg (by decide +kernel)]; exact ⟨rfl, rfl⟩))
    (fun os started H enc _ F => lifted os started H enc F)
end Go.Proofs.YtfhieacclifihaaGreat.slotsList
namespace Go.Proofs.YtfhieacclifihaaGreat
theorem slotsListUpto_holds : Rows.SlotsListUptoSaid := slotsList.proved
#print axioms slotsListUpto_holds
end Go.Proofs.YtfhieacclifihaaGreat
