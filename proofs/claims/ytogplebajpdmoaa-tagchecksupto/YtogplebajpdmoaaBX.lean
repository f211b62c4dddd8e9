/- Joined texts: DHeld DRows DSpareR TWorks TIn TStep. -/
import Derived.Test.YtogplebajpdmoaaBO
import Derived.Test.YtogplebajpdmoaaBU
import Derived.Test.YtogplebajpdmoaaBT
import Derived.ProofKit
import Derived.OpenShut
import Derived.ShutString
import Derived.ChangeOld
import Derived.SizedLaws
import Derived.Deep.Slices
import Derived.JoinedCond
/- Steps of a region that draws, with a condition that is held through it; many cells read in it. -/
namespace Go.Proofs.Ytogplebajpdmoaa
open Go.RowKit
set_option linter.unusedVariables false
set_option linter.unusedSimpArgs false
/-- An operation that yields its value in every world that meets the condition is taken first. -/
theorem hTake {md : Region.Mode} {ops : Array Oper} {Q : Exit → Act → World → Prop} {S : World → Prop} {oi : Oper} {fuel : Nat} {listed : Array Bool} {a : Act} {w : World} (i : Nat) (d : Option Tmp) (v : Value) (hi : ops[i]? = some oi) (hd : oi.dst = d)
    (hs : Region.noSelect ops = true) (hf : Region.free md ops listed i = true) (hr : (Region.ready md ops listed).contains i = true) (hQ : ∀ c a w, Q (.panic c) (a.put d v) w → Q (.panic c) a w)
    (hw : Region.wanted oi (yielded ops a.tmps) = true) (hy : ∀ w, S w → (execOp a.eval oi).run Try.prog w = .ok (.value v) w) (hS : S w)
    (h : wpAnyH Try.prog md ops Q S fuel (listed.setIfInBounds i true) (a.put d v) w) : wpAnyH Try.prog md ops Q S (fuel + 1) listed a w := by
  subst hd
  exact wpAnyH_take hi hs hf hr hQ (Or.inl ⟨hw, hy⟩) hS h
/-- Many cells that the condition names are read first. -/
theorem hLoad {md : Region.Mode} {ops : Array Oper} {Q : Exit → Act → World → Prop} {S : World → Prop} {oi : Oper} {fuel : Nat} {listed : Array Bool} {a : Act} {w : World} (i : Nat) (d : Option Tmp) (cs : List Value) (hi : ops[i]? = some oi) (hd : oi.dst = d)
    (hs : Region.noSelect ops = true) (hf : Region.free md ops listed i = true) (hr : (Region.ready md ops listed).contains i = true) (hQ : ∀ c a w, Q (.panic c) (a.put d (.agg cs.toArray)) w → Q (.panic c) a w)
    (hw : Region.wanted oi (yielded ops a.tmps) = true) (ty : TypeId) (x : Operand) (ho : oi.op = .load ty x) (b off : Nat) (hx : a.eval x = .pointer (some ⟨b, off, none⟩)) (ds : TypeDesc) (hc : ∀ w, S w → w.rangeAt b off cs)
    (hu : Try.prog.underlying ty = some ds) (hdr : ds.isRow = true) (hz : (Try.prog.info? ty).map (·.size) = some cs.length) (hS : S w)
    (h : wpAnyH Try.prog md ops Q S fuel (listed.setIfInBounds i true) (a.put d (.agg cs.toArray)) w) : wpAnyH Try.prog md ops Q S (fuel + 1) listed a w := by
  subst hd
  exact wpAnyH_take hi hs hf hr hQ (yieldsIf_load_mid hw ty x ho b off hx cs ds hc hu hdr hz) hS h
end Go.Proofs.Ytogplebajpdmoaa

/- The statements' helper CopyRows. -/
namespace Go.Proofs.Ytogplebajpdmoaa
open Go.RowKit
set_option linter.unusedVariables false
set_option linter.unusedSimpArgs false

theorem info_bytes : (Try.prog.info? 31).map (fun i => (i.zero, i.size, i.bytes)) = some (some (.slice none 0 0), 1, 24) := by kernel_rfl
/-- Lists of the call's own: a row of headers, and each list in a row of its own. -/
structure OwnH (base : Nat) (w : World) (v : Value) (k : Nat) (pss : List (List Int)) (hd : List Value) : Prop where
  outer : w.ownsRow base 31 1 v k hd
  inner : ∀ j, j < k → ∃ so c, hd[j]? = some (.slice so (pss.getD j []).length c) ∧ (pss.getD j []).length ≤ c ∧ (0 < (pss.getD j []).length → ∃ g, so = some ⟨g, 0, none⟩ ∧ base ≤ g ∧ RowAt w g (pss.getD j []))
theorem row_ne {w : World} {g base : Nat} {zs : List Int} {v : Value} {k : Nat} {hd : List Value} (h : RowAt w g zs) (ho : w.ownsRow base 31 1 v k hd) : some g ≠ v.ownBlock := by
  obtain ⟨rest, h⟩ := h
  rcases ho.2 with ⟨rfl, _⟩ | ⟨g', cap, cur, rfl, _, hh, _⟩
  · intro e; cases e
  · intro e
    simp [Value.ownBlock] at e
    subst e
    rw [hh] at h
    simp at h
theorem rows_step {w wr w1 w2 : World} {v v' : Value} {pss : List (List Int)} {hd : List Value} {k : Nat} {so : Option Addr} {c : Nat}
    (hb : Below w.heap.size w wr) (ho : OwnH w.heap.size wr v k pss hd) (hb1 : Below wr.heap.size wr w1) (hc : (pss.getD k []).length ≤ c) (hs : 0 < (pss.getD k []).length → ∃ g, so = some ⟨g, 0, none⟩ ∧ wr.heap.size ≤ g ∧ RowAt w1 g (pss.getD k []))
    (hown' : w2.ownsRow w.heap.size 31 1 v' (k + 1) (hd ++ [.slice so (pss.getD k []).length c])) (hg : (w1.alloc (.cells #[.slice so (pss.getD k []).length c] 31)).grownBy w2 v.ownBlock) :
    OwnH w.heap.size w2 v' (k + 1) pss (hd ++ [.slice so (pss.getD k []).length c]) ∧ Below w.heap.size w w2 := by
  have hl : hd.length = k := by have := ho.outer.1; omega
  have hB : Below w.heap.size w w1 := hb.trans (hb1.mono hb.size)
  have ho1 : w1.ownsRow w.heap.size 31 1 v k hd := ownsRow_below ho.outer hb1
  have keep : ∀ g zs, RowAt w1 g zs → RowAt w2 g zs := fun g zs h => (h.alloc _).block (hg.block g (by have := h.lt; simp; omega) (row_ne h ho1))
  refine ⟨⟨hown', ?_⟩, ?_⟩
  · intro j hj
    by_cases h : j < k
    · obtain ⟨so', c', e', hc', hr⟩ := ho.inner j h
      refine ⟨so', c', by rw [List.getElem?_append_left (by omega)]; exact e', hc', fun hn => ?_⟩
      obtain ⟨g, rfl, hge, hr'⟩ := hr hn
      exact ⟨g, rfl, hge, keep g _ (hr'.later hb1 (Nat.le_refl _))⟩
    · obtain rfl : j = k := by omega
      refine ⟨so, c, by rw [List.getElem?_append_right (by omega)]; simp [hl], hc, fun hn => ?_⟩
      obtain ⟨g, rfl, hge, hr⟩ := hs hn
      exact ⟨g, rfl, Nat.le_trans hb.size hge, keep g _ hr⟩
  · exact (hB.alloc hB.size _).grown hg (by have := hB.size; simp; omega) (fun j hj => (ho.outer.lt j hj).1)
/-- Lists of the call's own, read as data. -/
theorem OwnH.data {base : Nat} {w : World} {v : Value} {n : Nat} {pss : List (List Int)} {hd : List Value} (h : OwnH base w v n pss hd) (hn : pss.length = n) (hb : ∀ j, j < n → Bytes (pss.getD j []) ∧ (pss.getD j []).length ≤ 140737488355328) :
    ∃ vo cap, v = .slice vo n cap ∧ SeenP w vo n pss ∧ n ≤ cap := by
  rcases h.outer.2 with ⟨rfl, h0⟩ | ⟨g, cap, cur, rfl, hg, hh, hc, hm, hs, ht⟩
  · subst h0
    exact ⟨none, 0, rfl, ⟨hn, fun i hi => by omega⟩, Nat.le_refl _⟩
  · refine ⟨_, cap, rfl, ⟨hn, fun i hi => ?_⟩, hc⟩
    obtain ⟨so, c, e, hlc, hr⟩ := h.inner i hi
    refine ⟨g, 0, so, c, rfl, lt_of_block hh, ?_, ?_, hlc⟩
    · rw [cell_of_row _ _ _ _ _ _ hh, Nat.zero_add, ← e, ← ht, Nat.mul_one, List.getElem?_take, if_pos hi]; simp
    · rcases Nat.eq_zero_or_pos (pss.getD i []).length with h0 | h0
      · rw [List.length_eq_zero_iff.1 h0]; exact Seen.empty _ _
      · obtain ⟨g', rfl, _, hr'⟩ := hr h0
        have := Seen.of_row (n := (pss.getD i []).length) hr' (Nat.le_refl _) (hb i hi).2 (hb i hi).1
        rwa [List.take_length] at this
set_option maxHeartbeats 1000000 in
set_option maxRecDepth 20000 in
theorem copyR_any (ao : Option Addr) (n c : Nat) (pss : List (List Int)) (w : World) (hx : SeenP w ao n pss) (hn : n ≤ 1048576) :
    Calls Try.prog 32 #[.slice ao n c] w fun e w' => ∃ vo cap, e = .returned (.slice vo n cap) ∧ SeenP w' vo n pss ∧ n ≤ cap ∧ Below w.heap.size w w' := by
  have HX : Hid (SeenP w ao n pss) := hx
  have HY : Hid (pss.length = n ∧ ∀ j, j < n → Bytes (pss.getD j []) ∧ (pss.getD j []).length ≤ 140737488355328) := ⟨hx.len, fun j hj => by
    obtain ⟨_, _, _, _, _, _, _, hs, _⟩ := hx.cells j hj
    exact ⟨hs.bytes, hs.top⟩⟩
  obtain ⟨i0, hi, hz0, hz1, hz2⟩ := info_parts info_bytes
  clear hx
  go_enter Try.func32, Try.ntmps32
  go_wp2
  go_loopw [3, 4] (fun v i wr => ∃ (k : Nat) (hd : List Value), k ≤ n ∧ i = .int .i64 k ∧ OwnH w.heap.size wr v k pss hd ∧ Below w.heap.size w wr) (fun _ i _ => n - (intOf i).toNat)
  case atStart => exact ⟨0, [], Nat.zero_le _, rfl, ⟨World.ownsRow_nil _ _ _ _, fun j h => by omega⟩, Below.refl _ _⟩
  case round =>
    obtain ⟨k, hd, hk, rfl, hown, hbel⟩ := hrel
    by_cases hlt : k < n
    · obtain ⟨b, o, so, cs, rfl, hb, hc, hs, hl⟩ := HX.out.cells k hlt
      have c1 := (hbel.cell (p := ⟨b, o + k, none⟩) hb).trans hc
      have hsz := hbel.size
      have i1 : (0 : Int) ≤ (k : Int) := by omega
      have i2 : (k : Int) < (n : Int) := by omega
      have s1 := hs.later hbel (Nat.le_refl _)
      have HO : Hid (OwnH w.heap.size wr u3 k pss hd) := hown
      have HB : Hid (Below w.heap.size w wr) := hbel
      have ho := hown.outer
      obtain ⟨L, hL⟩ : ∃ L, (pss.getD k []).length = L := ⟨_, rfl⟩
      rw [hL] at c1 s1
      have HL : Hid ((pss.getD k []).length = L) := hL
      clear hc hs hL hown hbel hl
      go_wp2_with fail
      refine (copyB_any so L cs (pss.getD k []) wr s1).mono ?_
      rintro e w1 ⟨u, rfl, ou, bu⟩
      obtain ⟨so', c', rfl, hc', hs'⟩ : ∃ so' c', u = .slice so' L c' ∧ L ≤ c' ∧ (0 < L → ∃ g, so' = some ⟨g, 0, none⟩ ∧ wr.heap.size ≤ g ∧ RowAt w1 g (pss.getD k [])) := by
        rcases own_len HL.out ou with ⟨rfl, h0⟩ | ⟨g, cap, rfl, hr, hg, hcap, _⟩
        · exact ⟨none, 0, by rw [h0], by omega, fun h => by omega⟩
        · exact ⟨_, cap, rfl, hcap, fun _ => ⟨g, rfl, hg, hr⟩⟩
      have ho1 := ownsRow_below ho bu
      have zb := bu.size
      have HC : Hid (L ≤ c') := hc'
      clear ou s1 c1 hc'
      go_wp2_with (at_builtin; refine wpList_append_own _ rfl _ _ 40 rfl w.heap.size 31 i0 (.slice none 0 0) 1 24 Try.underlying40 hi hz0 hz1 hz2 rfl (by decide) _ _ _ rfl (ho1.alloc _) ⟨w1.heap.size, 0, none⟩ 1 1 [.slice so' L c'] rfl rfl ?c1 ?c2 ?c3 ?c4 ?c5 ?_)
      case c1 => exact one_new _ _ _
      case c2 => intro u hu; simp at hu; subst hu; rfl
      case c3 => unfold maxLen; omega
      case c4 => omega
      case c5 => simp; omega
      · intro v' w2 hown' hgrow _
        have R := rows_step HB.out HO.out bu (so := so') (c := c') (by rw [HL.out]; exact HC.out) (by rw [HL.out]; exact hs') (by rw [HL.out]; exact hown') (by rw [HL.out]; exact hgrow)
        clear hown' hgrow ho1 bu ho hs'
        go_wp2
        go_roundw
        case rel => exact ⟨k + 1, _, by omega, by go_num, R.1, R.2⟩
        case measure => simp [intOf]; omega
    · obtain rfl : k = n := by omega
      obtain ⟨vo, cap, rfl, hs, hcap⟩ := hown.data HY.out.1 HY.out.2
      have HO : Hid (SeenP wr vo k pss ∧ k ≤ cap ∧ Below w.heap.size w wr) := ⟨hs, hcap, hbel⟩
      clear hown hbel hs hcap
      go_wp2
      go_ret
      exact ⟨_, _, rfl, HO.out⟩
end Go.Proofs.Ytogplebajpdmoaa

/- The statements' helpers: SpareRows, KeptRows. -/
namespace Go.Proofs.Ytogplebajpdmoaa
open Go.RowKit
set_option linter.unusedVariables false
set_option linter.unusedSimpArgs false

/-- The header at a place of a row that SpareRows made: block O holds the headers, the lists lie behind it, one by one. -/
def hdrAt (O n : Nat) (pss : List (List Int)) (i : Nat) : Value := if i < n then .slice (some ⟨O + 1 + i, 0, none⟩) (pss.getD i []).length ((pss.getD i []).length + 80) else .slice (some ⟨O + 1 + i, 0, none⟩) 2 2
def hdrs (O n : Nat) (pss : List (List Int)) (k : Nat) : List Value := (List.range k).map (hdrAt O n pss)
theorem hdrs_length (O n : Nat) (pss : List (List Int)) (k : Nat) : (hdrs O n pss k).length = k := by simp [hdrs]
theorem hdrs_succ (O n : Nat) (pss : List (List Int)) (k : Nat) : hdrs O n pss (k + 1) = hdrs O n pss k ++ [hdrAt O n pss k] := by simp [hdrs, List.range_succ]
theorem hdrs_at (O n : Nat) (pss : List (List Int)) (k i : Nat) (hi : i < k) : (hdrs O n pss k)[i]? = some (hdrAt O n pss i) := by simp [hdrs, hi]
def rowAt (n : Nat) (pss : List (List Int)) (i : Nat) : List Int := if i < n then spared (pss.getD i []) else [(i : Int) % 256, 119]
theorem made_nil (n : Nat) : (madeCells #[Value.slice none 0 0] n) = (List.replicate n (Value.slice none 0 0)).toArray := by
  apply Array.ext'
  rw [toList_madeCells_one]
theorem set_nextV (xs : List Value) (n : Nat) (z y : Value) : (xs ++ List.replicate (n + 1) y).set xs.length z = (xs ++ [z]) ++ List.replicate n y := by
  rw [List.set_append_right _ _ (Nat.le_refl _), Nat.sub_self, List.replicate_succ, List.set_cons_zero]; simp
/-- Lists with marked room, in a row of headers with marked room. -/
structure SpareL (w : World) (O n : Nat) (pss : List (List Int)) : Prop where
  len : pss.length = n
  hd : Blk w O 31 (hdrs O n pss (n + 3))
  row : ∀ i, i < n + 3 → Blk w (O + 1 + i) 5 (u8s (rowAt n pss i))
  ok : ∀ i, i < n → Bytes (pss.getD i []) ∧ (pss.getD i []).length ≤ 35184372088832
theorem SpareL.later {w w' : World} {O n : Nat} {pss : List (List Int)} (h : SpareL w O n pss) {B : Nat} (hb : Below B w w') (hB : w.heap.size ≤ B) : SpareL w' O n pss :=
  ⟨h.len, h.hd.later hb (Nat.lt_of_lt_of_le h.hd.lt hB), fun i hi => (h.row i hi).later hb (Nat.lt_of_lt_of_le (h.row i hi).lt hB), h.ok⟩
theorem SpareL.drewN {w : World} {O n : Nat} {pss : List (List Int)} (h : SpareL w O n pss) (q : Nat) : SpareL (w.drewN q) O n pss := ⟨h.len, h.hd, h.row, h.ok⟩
theorem SpareL.cell {w : World} {O n : Nat} {pss : List (List Int)} (h : SpareL w O n pss) (i : Nat) (hi : i < n + 3) : w.cell? ⟨O, i, none⟩ = some (hdrAt O n pss i) := by rw [h.hd.cell, hdrs_at _ _ _ _ _ hi]
theorem SpareL.data {w : World} {O n : Nat} {pss : List (List Int)} (h : SpareL w O n pss) : SeenP w (some ⟨O, 0, none⟩) n pss :=
  ⟨h.len, fun i hi => ⟨O, 0, some ⟨O + 1 + i, 0, none⟩, (pss.getD i []).length + 80, rfl, h.hd.lt, by rw [Nat.zero_add, h.cell i (by omega), hdrAt, if_pos hi], by
    have := h.row i (by omega)
    rw [rowAt, if_pos hi] at this
    exact spared_seen this (h.ok i hi).1 (h.ok i hi).2, by omega⟩⟩
set_option maxHeartbeats 1000000 in
set_option maxRecDepth 20000 in
theorem spareR_any (ao : Option Addr) (n c : Nat) (pss : List (List Int)) (w : World) (hx : SeenP w ao n pss) (hn : n ≤ 1048576) (hm : ∀ i, i < n → (pss.getD i []).length ≤ 35184372088832) :
    Calls Try.prog 27 #[.slice ao n c] w fun e w' => e = .returned (.slice (some ⟨w.heap.size, 0, none⟩) n (n + 3)) ∧ SpareL w' w.heap.size n pss ∧ w'.heap.size = w.heap.size + 1 + (n + 3) ∧ Below w.heap.size w w' := by
  have HX : Hid (SeenP w ao n pss ∧ ∀ i, i < n → (pss.getD i []).length ≤ 35184372088832) := ⟨hx, hm⟩
  obtain ⟨i0, hi, hz0, hz1, hz2⟩ := info_parts info_bytes
  have hmk := run_make (P := Try.prog) w 40 31 i0 (.slice none 0 0) Try.underlying40 hi hz0 .i64 .i64 ((n : Int) + 3) ((n : Int) + 3) (by omega) (Int.le_refl _) (by rw [hz2]; omega) (by omega)
  rw [hz1, show (((n : Int) + 3).toNat) = n + 3 by omega, Nat.mul_one, show (Value.slice none 0 0).cells = #[.slice none 0 0] from rfl, made_nil] at hmk
  obtain ⟨w1, hw1, HB⟩ : ∃ w1, w.alloc (.cells (List.replicate (n + 3) (Value.slice none 0 0)).toArray 31) = w1 ∧ Hid (Blk w1 w.heap.size 31 (List.replicate (n + 3) (Value.slice none 0 0)) ∧ Below w.heap.size w w1 ∧ w1.heap.size = w.heap.size + 1) := ⟨_, rfl, ⟨heap_alloc_new w _, (Below.refl _ _).alloc (Nat.le_refl _) _, by simp⟩⟩
  rw [hw1] at hmk
  clear hw1 hx hi hz0 hz1 hz2 hm
  go_enter Try.func27, Try.ntmps27
  go_wp2
  go_loopw [4] (fun i wr => ∃ k : Nat, k ≤ n + 3 ∧ i = .int .i64 k ∧ Blk wr w.heap.size 31 (hdrs w.heap.size n pss k ++ List.replicate (n + 3 - k) (Value.slice none 0 0)) ∧ (∀ j, j < k → Blk wr (w.heap.size + 1 + j) 5 (u8s (rowAt n pss j))) ∧ Below w.heap.size w wr ∧ wr.heap.size = w.heap.size + 1 + k) (fun i _ => n + 3 - (intOf i).toNat)
  case atStart => exact ⟨0, Nat.zero_le _, rfl, HB.out.1, fun j hj => by omega, HB.out.2.1, HB.out.2.2⟩
  case round =>
    obtain ⟨k, hk, rfl, hb, hrow, hbel, hws⟩ := hrel
    by_cases hlt : k < n + 3
    · have HT := set_nextV (hdrs w.heap.size n pss k) (n + 3 - (k + 1)) (hdrAt w.heap.size n pss k) (Value.slice none 0 0)
      rw [show n + 3 - (k + 1) + 1 = n + 3 - k by omega, hdrs_length, ← hdrs_succ] at HT
      have HE : Hid _ := HT
      have X0 : Hid (Blk wr w.heap.size 31 (hdrs w.heap.size n pss k ++ List.replicate (n + 3 - k) (Value.slice none 0 0)) ∧ (∀ j, j < k → Blk wr (w.heap.size + 1 + j) 5 (u8s (rowAt n pss j))) ∧ Below w.heap.size w wr ∧ wr.heap.size = w.heap.size + 1 + k) := ⟨hb, hrow, hbel, hws⟩
      have i1 : (0 : Int) ≤ (k : Int) := by omega
      have i2 : (k : Int) < (n : Int) + 3 := by omega
      by_cases hin : k < n
      · obtain ⟨b, o, so, cs, rfl, hbl, hc, hs, hl⟩ := HX.out.1.cells k hin
        have c1 := (hbel.cell (p := ⟨b, o + k, none⟩) hbl).trans hc
        have S1 : Hid (Seen wr so (pss.getD k []).length (pss.getD k []) ∧ (pss.getD k []).length ≤ 35184372088832) := ⟨hs.later hbel (Nat.le_refl _), HX.out.2 k hin⟩
        have HV : Hid (hdrAt w.heap.size n pss k = .slice (some ⟨w.heap.size + 1 + k, 0, none⟩) (pss.getD k []).length ((pss.getD k []).length + 80) ∧ rowAt n pss k = spared (pss.getD k [])) := ⟨by rw [hdrAt, if_pos hin], by rw [rowAt, if_pos hin]⟩
        obtain ⟨p, hp⟩ : ∃ p, pss.getD k [] = p := ⟨_, rfl⟩
        rw [hp] at c1 S1 HV
        have i3 : (k : Int) < (n : Int) := by omega
        clear hb hrow hbel hws hp hc hs hl HT
        go_wp2_with fail
        refine (spare_any so p.length cs p wr S1.out.1 S1.out.2).mono ?_
        rintro e w2 ⟨rfl, b2, s2, l2⟩
        rw [X0.out.2.2.2] at b2 ⊢
        have h2 := X0.out.1.later l2 (by have := X0.out.2.2.2; omega)
        have cs2 : w2.cell? ⟨w.heap.size, k, none⟩ = some (.slice none 0 0) := by
          rw [h2.cell, List.getElem?_append_right (by rw [hdrs_length]; exact Nat.le_refl _), hdrs_length, Nat.sub_self]
          rw [List.getElem?_replicate, if_pos (by omega)]
        have fs2 := h2.frozen k
        have X2 : Hid (Blk w2 w.heap.size 31 (hdrs w.heap.size n pss k ++ List.replicate (n + 3 - k) (Value.slice none 0 0)) ∧ (∀ j, j < k + 1 → Blk w2 (w.heap.size + 1 + j) 5 (u8s (rowAt n pss j))) ∧ Below w.heap.size w w2 ∧ w2.heap.size = w.heap.size + 1 + (k + 1)) := by
          refine ⟨h2, fun j hj => ?_, below_chain X0.out.2.2.1 l2 X0.out.2.2.1.size, by have := X0.out.2.2.2; omega⟩
          by_cases hjk : j < k
          · exact (X0.out.2.1 j hjk).later l2 (X0.out.2.1 j hjk).lt
          · obtain rfl : j = k := by omega
            rw [HV.out.2]; exact b2
        clear b2 s2 l2 h2
        go_wp2
        have R1 := X2.out.1.set k (hdrAt w.heap.size n pss k)
        rw [HE.out, HV.out.1] at R1
        exact ⟨⟨k + 1, by omega, by go_num, R1, fun j hj => (X2.out.2.1 j hj).other (by show _ ≠ w.heap.size; omega) _, below_kept X2.out.2.2.1 ((Kept.refl _ _).setCell (S := fun b => b = w.heap.size) rfl _) X2.out.2.2.1.size (fun j hj => by omega), by have := X2.out.2.2.2; simpa [World.setCell] using this⟩, by simp [intOf]; omega⟩
      · have HV : Hid (hdrAt w.heap.size n pss k = .slice (some ⟨w.heap.size + 1 + k, 0, none⟩) 2 2 ∧ rowAt n pss k = [(k : Int) % 256, 119]) := ⟨by rw [hdrAt, if_neg hin], by rw [rowAt, if_neg hin]⟩
        have i3 : ¬ (k : Int) < (n : Int) := by omega
        obtain ⟨w2, hw2, X2⟩ : ∃ w2, wr.alloc (.cells #[.int .u8 ((k : Int) % 256), .int .u8 119] 5) = w2 ∧ Hid (Blk w2 w.heap.size 31 (hdrs w.heap.size n pss k ++ List.replicate (n + 3 - k) (Value.slice none 0 0)) ∧ (∀ j, j < k + 1 → Blk w2 (w.heap.size + 1 + j) 5 (u8s (rowAt n pss j))) ∧ Below w.heap.size w w2 ∧ w2.heap.size = w.heap.size + 1 + (k + 1)) := by
          have l2 : Below wr.heap.size wr (wr.alloc (.cells #[.int .u8 ((k : Int) % 256), .int .u8 119] 5)) := (Below.refl _ _).alloc (Nat.le_refl _) _
          refine ⟨_, rfl, hb.later l2 (by omega), fun j hj => ?_, below_chain hbel l2 hbel.size, by simp; omega⟩
          by_cases hjk : j < k
          · exact (hrow j hjk).later l2 (hrow j hjk).lt
          · obtain rfl : j = k := by omega
            rw [HV.out.2, ← hws]
            exact heap_alloc_new wr _
        have cs2 : w2.cell? ⟨w.heap.size, k, none⟩ = some (.slice none 0 0) := by
          rw [X2.out.1.cell, List.getElem?_append_right (by rw [hdrs_length]; exact Nat.le_refl _), hdrs_length, Nat.sub_self]
          rw [List.getElem?_replicate, if_pos (by omega)]
        have fs2 := X2.out.1.frozen k
        have hbs : ∀ W v, (Instr.buildSlice 31 2 #[(0, v), (1, .int .u8 119)]).run Try.prog W = .ok (.slice (some ⟨W.heap.size, 0, none⟩) 2 2) (W.alloc (.cells #[v, .int .u8 119] 5)) → True := fun _ _ _ => trivial
        clear hbs hb hrow hbel HT
        go_wp2_with fail
        have R1 := X2.out.1.set k (hdrAt w.heap.size n pss k)
        rw [HE.out, HV.out.1] at R1
        exact ⟨⟨k + 1, by omega, by go_num, R1, fun j hj => (X2.out.2.1 j hj).other (by show _ ≠ w.heap.size; omega) _, below_kept X2.out.2.2.1 ((Kept.refl _ _).setCell (S := fun b => b = w.heap.size) rfl _) X2.out.2.2.1.size (fun j hj => by omega), by have := X2.out.2.2.2; simpa [World.setCell] using this⟩, by simp [intOf]; omega⟩
    · obtain rfl : k = n + 3 := by omega
      rw [Nat.sub_self, List.replicate_zero, List.append_nil] at hb
      have X3 : Hid (SpareL wr w.heap.size n pss ∧ wr.heap.size = w.heap.size + 1 + (n + 3) ∧ Below w.heap.size w wr) := ⟨⟨HX.out.1.len, hb, hrow, fun i hi => by
        obtain ⟨_, _, _, _, _, _, _, hs, _⟩ := HX.out.1.cells i hi
        exact ⟨hs.bytes, HX.out.2 i hi⟩⟩, hws, hbel⟩
      clear hb hrow hbel hws
      go_wp2
      go_ret
      exact ⟨rfl, X3.out.1, X3.out.2.1, X3.out.2.2⟩
set_option maxHeartbeats 1000000 in
set_option maxRecDepth 20000 in
theorem keptR_yes (O : Nat) (bo : Option Addr) (n d : Nat) (pss : List (List Int)) (w : World) (hx : SpareL w O n pss) (hy : SeenP w bo n pss) (hn : n ≤ 1048576) :
    Calls Try.prog 31 #[.slice (some ⟨O, 0, none⟩) n (n + 3), .slice bo n d] w fun e w' => e = .returned (.bool true) ∧ ∃ q, w' = w.drewN q := by
  have HX : Hid (SpareL w O n pss ∧ SeenP w bo n pss) := ⟨hx, hy⟩
  clear hx hy
  go_enter Try.func31, Try.ntmps31
  go_wp2
  go_loopw [5] (fun i wr => ∃ k : Nat, k ≤ n ∧ i = .int .i64 k ∧ ∃ q, wr = w.drewN q) (fun i _ => n - (intOf i).toNat)
  case atStart => exact ⟨0, Nat.zero_le _, rfl, 0, rfl⟩
  case round =>
    obtain ⟨k, hk, rfl, q, rfl⟩ := hrel
    by_cases hlt : k < n
    · obtain ⟨b, o, so, cs, rfl, hb, hc, hs, hl⟩ := HX.out.2.cells k hlt
      have c2 : (w.drewN q).cell? ⟨b, o + k, none⟩ = some (.slice so (pss.getD k []).length cs) := hc
      have c1 : (w.drewN q).cell? ⟨O, k, none⟩ = some (.slice (some ⟨O + 1 + k, 0, none⟩) (pss.getD k []).length ((pss.getD k []).length + 80)) := by
        have := HX.out.1.cell k (by omega)
        rw [hdrAt, if_pos hlt] at this
        exact this
      have hK : ∀ Q, Calls Try.prog 21 #[.slice (some ⟨O + 1 + k, 0, none⟩) (pss.getD k []).length ((pss.getD k []).length + 80), .slice so (pss.getD k []).length cs] (w.drewN Q) fun e w' => e = .returned (.bool true) ∧ ∃ q, w' = (w.drewN Q).drewN q := fun Q => by
        have hr := HX.out.1.row k (by omega)
        rw [rowAt, if_pos hlt] at hr
        exact kept_yes _ so _ cs _ (w.drewN Q) (hr.drewN Q) (hs.drewN Q) (HX.out.1.ok k hlt).2
      obtain ⟨p, hp⟩ : ∃ p, pss.getD k [] = p := ⟨_, rfl⟩
      rw [hp] at c1 c2 hK
      obtain ⟨wr, hwr⟩ : ∃ wr, w.drewN q = wr := ⟨_, rfl⟩
      have hK2 : ∀ Q, Calls Try.prog 21 #[.slice (some ⟨O + 1 + k, 0, none⟩) p.length (p.length + 80), .slice so p.length cs] (wr.drewN Q) fun e w' => e = .returned (.bool true) ∧ ∃ q, w' = (wr.drewN Q).drewN q := fun Q => by
        rw [← hwr, World.drewN_drewN]; exact hK _
      rw [hwr] at c1 c2 ⊢
      have HW : Hid (w.drewN q = wr) := hwr
      have i1 : (0 : Int) ≤ (k : Int) := by omega
      have i2 : (k : Int) < (n : Int) := by omega
      have HK2 : Hid (∀ Q, Calls Try.prog 21 #[.slice (some ⟨O + 1 + k, 0, none⟩) p.length (p.length + 80), .slice so p.length cs] (wr.drewN Q) fun e w' => e = .returned (.bool true) ∧ ∃ q, w' = (wr.drewN Q).drewN q) := hK2
      clear hc hs hl hp hwr hK hK2
      go_wp2
      go_quiet (first | (go_at_call 21; exact Calls.quiet_of (HK2.out _)))
      go_wp2
      refine ⟨⟨k + 1, by omega, by go_num, q + nq, ?_⟩, by simp [intOf]; omega⟩
      rw [← HW.out, World.drewN_drewN]
    · obtain rfl : k = n := by omega
      go_wp2
      go_loopw [7] (fun i wr => ∃ j : Nat, k ≤ j ∧ j ≤ k + 3 ∧ i = .int .i64 j ∧ ∃ q, wr = w.drewN q) (fun i _ => k + 3 - (intOf i).toNat)
      case atStart => exact ⟨k, Nat.le_refl _, by omega, rfl, q, rfl⟩
      case round =>
        obtain ⟨j, hj0, hj, rfl, q2, rfl⟩ := hrel
        by_cases hlt2 : j < k + 3
        · have c1 : (w.drewN q2).cell? ⟨O, j, none⟩ = some (.slice (some ⟨O + 1 + j, 0, none⟩) 2 2) := by
            have := HX.out.1.cell j hlt2
            rw [hdrAt, if_neg (by omega)] at this
            exact this
          have hr := HX.out.1.row j hlt2
          rw [rowAt, if_neg (by omega)] at hr
          have d0 : (w.drewN q2).cell? ⟨O + 1 + j, 0, none⟩ = some (.int .u8 ((j : Int) % 256)) := u8s_cell hr 0 (by simp)
          have d1 : (w.drewN q2).cell? ⟨O + 1 + j, 1, none⟩ = some (.int .u8 119) := u8s_cell hr 1 (by simp)
          have i1 : (0 : Int) ≤ (j : Int) := by omega
          have i2 : (j : Int) < (k : Int) + 3 := by omega
          clear hr
          go_wp2
          exact ⟨⟨j + 1, by omega, by omega, by go_num, q2, rfl⟩, by simp [intOf]; omega⟩
        · obtain rfl : j = k + 3 := by omega
          go_wp2
          go_ret
          exact ⟨rfl, q2, rfl⟩
end Go.Proofs.Ytogplebajpdmoaa

/- Layer tag: works. -/
namespace Go.Proofs.Ytogplebajpdmoaa
open Go.RowKit Go.Joins
set_option linter.unusedVariables false
set_option linter.unusedSimpArgs false

def kKey : List Int := 2 :: List.replicate 31 0
def kM : List Int := List.replicate 16 255
def kT (z : Int) : List Int := z :: List.replicate 15 0
theorem kKey_bytes : Bytes kKey := fun z hz => by
  rcases List.mem_cons.1 hz with rfl | h
  · decide
  · obtain ⟨_, rfl⟩ := List.mem_replicate.1 h; decide
theorem kM_bytes : Bytes kM := fun z hz => by obtain ⟨_, rfl⟩ := List.mem_replicate.1 hz; decide
theorem kT_bytes (z : Int) (h : 0 ≤ z ∧ z < 256) : Bytes (kT z) := fun y hy => by
  rcases List.mem_cons.1 hy with rfl | h'
  · exact h
  · obtain ⟨_, rfl⟩ := List.mem_replicate.1 h'; decide
theorem kTag : tagB kKey kM = kT 3 := by decide +kernel
theorem kTag0 : tagB kKey [] = zs0 16 := by decide +kernel
theorem buildKey2 (w : World) : (Instr.build 30 #[(0, .int .u8 2)]).run Try.prog w = .ok (.agg (u8s kKey).toArray) w := by kernel_rfl
theorem tzeroKey : (Try.prog.info? 30).map (fun i => (i.zero, i.size)) = some (some (.agg (u8s (zs0 32)).toArray), 32) := by kernel_rfl
theorem buildT (z : Int) (w : World) : (Instr.build 47 #[(0, .int .u8 z)]).run Try.prog w = .ok (.agg (u8s (kT z)).toArray) w := by kernel_rfl
theorem bsM (w : World) : (Instr.buildSlice 31 16 #[(0, .int .u8 255), (1, .int .u8 255), (2, .int .u8 255), (3, .int .u8 255), (4, .int .u8 255), (5, .int .u8 255), (6, .int .u8 255), (7, .int .u8 255), (8, .int .u8 255), (9, .int .u8 255), (10, .int .u8 255), (11, .int .u8 255), (12, .int .u8 255), (13, .int .u8 255), (14, .int .u8 255), (15, .int .u8 255)]).run Try.prog w = .ok (.slice (some ⟨w.heap.size, 0, none⟩) 16 16) (w.alloc (.cells (u8s kM).toArray 5)) := by kernel_rfl
set_option maxRecDepth 20000 in
set_option maxHeartbeats 4000000 in
theorem tworks_any (w : World) : Calls Try.prog 33 #[] w fun e w' => e = .returned (.bool true) ∧ Below w.heap.size w w' := by
  have hq3 : ∀ W, (Op.equalIn 10000 47 (.agg (u8s (kT 3)).toArray) (.agg (u8s (kT 3)).toArray)).run Try.prog W = .ok true W := equal_self 9998 (kT 3) rfl
  have hq0 : ∀ W, (Op.equalIn 10000 47 (.agg (u8s (zs0 16)).toArray) (.agg (u8s (zs0 16)).toArray)).run Try.prog W = .ok true W := equal_self 9998 (zs0 16) rfl
  go_enter Try.func33, Try.ntmps33
  go_wp2_with (first | (refine wpList_build rfl 30 _ rfl #[(0, .int .u8 2)] rfl _ (buildKey2 _) ?_) | (refine wpList_alloc_new rfl 30 rfl 32 _ tzeroKey ?_; intro w1 b1 s1 l1) | (refine wpList_store_blk rfl 30 30 _ _ rfl _ rfl _ (u8s kKey) rfl b1 rfl tsizeKey (u8s_one _) ?_; intro w2 b2 s2 k2) | (refine wpList_buildSlice rfl 31 16 _ rfl _ rfl _ _ (bsM _) ?_) | (refine wpList_load_blk rfl 30 _ rfl w.heap.size rfl (u8s kKey) _ (b2.later ((Below.refl w2.heap.size w2).alloc (Nat.le_refl _) _) b2.lt) Try.underlying30 rfl tsizeKey ?_) | (go_at_call 61; refine (tnew_any kKey rfl kKey_bytes _).mono ?_; rintro e w4 ⟨g, rfl, hg, h4, l4⟩))
  have HB : Hid (Blk w4 w.heap.size 30 (u8s kKey) ∧ Seen w4 (some ⟨w.heap.size + 1, 0, none⟩) 16 kM ∧ KHolds w4 g kKey [] ∧ Below w.heap.size w w4) := by
    have e1 : w2.heap.size = w.heap.size + 1 := by omega
    have bm : Blk (w2.alloc (.cells (u8s kM).toArray 5)) w2.heap.size 5 (u8s kM) := heap_alloc_new w2 _
    have lm : Below w2.heap.size w2 (w2.alloc (.cells (u8s kM).toArray 5)) := (Below.refl _ _).alloc (Nat.le_refl _) _
    have sm := seen_blk (bm.later l4 bm.lt) kM_bytes (by decide)
    rw [e1] at sm
    exact ⟨(b2.later lm b2.lt).later l4 (by simp; omega), sm, h4, below_chain (below_chain (below_kept l1 k2 (by omega) (fun j hj => by omega)) lm (by omega)) l4 (by simp; omega)⟩
  clear b1 s1 l1 b2 s2 k2 hg h4 l4
  try simp only [Act.put, List.setIfInBounds_toArray, List.set_cons_zero, List.set_cons_succ]
  refine region_invG ((.val (.agg (u8s kKey).toArray)) :: (.val (.slice (some ⟨w.heap.size + 1, 0, none⟩) 16 16)) :: (.any (isP 1 [kM]) (isP_later _ _)) :: (.val (.agg (u8s (kT 3)).toArray)) :: (.val (.agg (u8s (kT 3)).toArray)) :: (.val (.bool true)) :: (.val (.bool true)) :: (.val (.agg (u8s kKey).toArray)) :: (.val (.agg (u8s (kT 3)).toArray)) :: (.val (.slice (some ⟨w.heap.size + 1, 0, none⟩) 16 16)) :: (.val (.slice (some ⟨w.heap.size + 1, 0, none⟩) 9 16)) :: (.val (.slice (some ⟨w.heap.size + 1, 0, none⟩) 16 16)) :: (.val (.slice (some ⟨w.heap.size + 1, 9, none⟩) 7 7)) :: (.any (isP 2 [kM.take 9, (kM.drop 9).take 7]) (isP_later _ _)) :: (.val (.bool true)) :: (.val (.bool true)) :: (.val (.bool true)) :: (.val (.agg (u8s kKey).toArray)) :: (.val (.agg (u8s (kT 2)).toArray)) :: (.val (.slice (some ⟨w.heap.size + 1, 0, none⟩) 16 16)) :: (.any (isP 1 [kM]) (isP_later _ _)) :: (.val (.bool false)) :: (.val (.bool true)) :: (.val (.bool true)) :: (.val (.bool true)) :: (.val (.pointer (some ⟨g, 0, none⟩))) :: (.val (.bool true)) :: (.val (.bool true)) :: (.val (.bool true)) :: (.val (.pointer (some ⟨g, 0, none⟩))) :: (.val (.agg (u8s (zs0 16)).toArray)) :: (.val (.agg (u8s (zs0 16)).toArray)) :: (.val (.bool true)) :: (.val (.bool true)) :: []) (by kernel_rfl) (by kernel_rfl) (by repeat (first | exact trivial | (refine ⟨by first | trivial | rfl, ?_⟩))) (by kernel_rfl) ?_ ?_
  · refine Steps'.cons ?_ (Steps'.cons ?_ (Steps'.cons ?_ (Steps'.cons ?_ (Steps'.cons ?_ (Steps'.cons ?_ (Steps'.cons ?_ (Steps'.cons ?_ (Steps'.cons ?_ (Steps'.cons ?_ (Steps'.cons ?_ (Steps'.cons ?_ (Steps'.cons ?_ (Steps'.cons ?_ (Steps'.cons ?_ (Steps'.cons ?_ (Steps'.cons ?_ (Steps'.cons ?_ (Steps'.cons ?_ (Steps'.cons ?_ (Steps'.cons ?_ (Steps'.cons ?_ (Steps'.cons ?_ (Steps'.cons ?_ (Steps'.cons ?_ (Steps'.cons ?_ (Steps'.cons ?_ (Steps'.cons ?_ (Steps'.cons ?_ (Steps'.cons ?_ (Steps'.cons ?_ (Steps'.cons ?_ (Steps'.cons ?_ (Steps'.cons ?_ (Steps'.one _ _ _ _ _ _ _))))))))))))))))))))))))))))))))))
    · intro ax wx hb hs hd
      have h1 : ax.tmps.getD 1 undef = (.pointer (some ⟨w.heap.size, 0, none⟩)) := hs 1 (by kernel_rfl)
      exact Does.load 30 (.tmp 1) rfl w.heap.size 0 h1 (u8s kKey) _ ((Blk.later HB.out.1 hb (Blk.lt HB.out.1)).whole) Try.underlying30 rfl tsizeKey
    · intro ax wx hb hs hd
      have h2 : ax.tmps.getD 2 undef = (.slice (some ⟨w.heap.size + 1, 0, none⟩) 16 16) := hs 2 (by kernel_rfl)
      refine Does.value (.slice (some ⟨w.heap.size + 1, 0, none⟩) 16 16) ?_ rfl
      go_simp
    · intro ax wx hb hs hd
      have h9 : ax.tmps.getD 9 undef = (.slice (some ⟨w.heap.size + 1, 0, none⟩) 16 16) := hd 1 9 rfl (by kernel_rfl) (by decide)
      exact Does.rows1 _ rfl _ 16 16 kM (by simp only [List.map_toArray, List.map_cons, List.map_nil, Act.eval, h9]) (HB.out.2.1.later hb (Nat.le_refl _)) (Nat.le_refl _)
    · intro ax wx hb hs hd
      have h8 : ax.tmps.getD 8 undef = (.agg (u8s kKey).toArray) := hd 0 8 rfl (by kernel_rfl) (by decide)
      obtain ⟨b, c, h10, s10⟩ : isP 1 [kM] (ax.tmps.getD 10 undef) wx := hd 2 10 rfl (by kernel_rfl) (by decide)
      refine Does.call 28 #[(.agg (u8s kKey).toArray), .slice (some ⟨b, 0, none⟩) 1 c] (by go_simp) ?_
      have q := tsum_any kKey rfl kKey_bytes _ 1 c _ wx s10 (by decide)
      rw [show ([kM] : List (List Int)).flatten = kM from rfl, kTag] at q
      refine q.mono ?_
      rintro e w' ⟨rfl, l⟩
      exact ⟨_, rfl, rfl, l⟩
    · intro ax wx hb hs hd
      exact Does.build 47 _ rfl #[(0, .int .u8 3)] (by simp only [List.map_toArray, List.map_cons, List.map_nil, Act.eval]) _ (buildT _ _)
    · intro ax wx hb hs hd
      have h11 : ax.tmps.getD 11 undef = (.agg (u8s (kT 3)).toArray) := hd 3 11 rfl (by kernel_rfl) (by decide)
      have h12 : ax.tmps.getD 12 undef = (.agg (u8s (kT 3)).toArray) := hd 4 12 rfl (by kernel_rfl) (by decide)
      refine Does.value _ ?_ rfl
      go_simp
    · intro ax wx hb hs hd
      have h13 : ax.tmps.getD 13 undef = (.bool true) := hd 5 13 rfl (by kernel_rfl) (by decide)
      refine Does.value (.bool true) ?_ rfl
      go_simp
    · intro ax wx hb hs hd
      have h1 : ax.tmps.getD 1 undef = (.pointer (some ⟨w.heap.size, 0, none⟩)) := hs 1 (by kernel_rfl)
      exact Does.load 30 (.tmp 1) rfl w.heap.size 0 h1 (u8s kKey) _ ((Blk.later HB.out.1 hb (Blk.lt HB.out.1)).whole) Try.underlying30 rfl tsizeKey
    · intro ax wx hb hs hd
      exact Does.build 47 _ rfl #[(0, .int .u8 3)] (by simp only [List.map_toArray, List.map_cons, List.map_nil, Act.eval]) _ (buildT _ _)
    · intro ax wx hb hs hd
      have h2 : ax.tmps.getD 2 undef = (.slice (some ⟨w.heap.size + 1, 0, none⟩) 16 16) := hs 2 (by kernel_rfl)
      refine Does.value (.slice (some ⟨w.heap.size + 1, 0, none⟩) 16 16) ?_ rfl
      go_simp
    · intro ax wx hb hs hd
      have h17 : ax.tmps.getD 17 undef = (.slice (some ⟨w.heap.size + 1, 0, none⟩) 16 16) := hd 9 17 rfl (by kernel_rfl) (by decide)
      refine Does.value _ ?_ rfl
      go_simp
    · intro ax wx hb hs hd
      have h2 : ax.tmps.getD 2 undef = (.slice (some ⟨w.heap.size + 1, 0, none⟩) 16 16) := hs 2 (by kernel_rfl)
      refine Does.value (.slice (some ⟨w.heap.size + 1, 0, none⟩) 16 16) ?_ rfl
      go_simp
    · intro ax wx hb hs hd
      have h19 : ax.tmps.getD 19 undef = (.slice (some ⟨w.heap.size + 1, 0, none⟩) 16 16) := hd 11 19 rfl (by kernel_rfl) (by decide)
      refine Does.value _ ?_ rfl
      go_simp
    · intro ax wx hb hs hd
      have h18 : ax.tmps.getD 18 undef = (.slice (some ⟨w.heap.size + 1, 0, none⟩) 9 16) := hd 10 18 rfl (by kernel_rfl) (by decide)
      have h20 : ax.tmps.getD 20 undef = (.slice (some ⟨w.heap.size + 1, 9, none⟩) 7 7) := hd 12 20 rfl (by kernel_rfl) (by decide)
      have q1 := (HB.out.2.1.later hb (Nat.le_refl _)).sub 0 9 16 (by decide) (by decide) (by decide)
      have q2 := (HB.out.2.1.later hb (Nat.le_refl _)).sub 9 16 16 (by decide) (by decide) (by decide)
      rw [sub_some _ _ _ _ (.inr rfl)] at q1
      rw [sub_some _ _ _ _ (.inl (by decide))] at q2
      exact Does.rows2 _ rfl _ _ 9 7 16 7 (kM.take 9) ((kM.drop 9).take 7) (by simp only [List.map_toArray, List.map_cons, List.map_nil, Act.eval, h18, h20]) q1 q2 (by decide) (by decide)
    · intro ax wx hb hs hd
      have h15 : ax.tmps.getD 15 undef = (.agg (u8s kKey).toArray) := hd 7 15 rfl (by kernel_rfl) (by decide)
      have h16 : ax.tmps.getD 16 undef = (.agg (u8s (kT 3)).toArray) := hd 8 16 rfl (by kernel_rfl) (by decide)
      obtain ⟨b, c, h21, s21⟩ : isP 2 [kM.take 9, (kM.drop 9).take 7] (ax.tmps.getD 21 undef) wx := hd 13 21 rfl (by kernel_rfl) (by decide)
      refine Does.call 34 #[(.agg (u8s kKey).toArray), (.agg (u8s (kT 3)).toArray), .slice (some ⟨b, 0, none⟩) 2 c] (by go_simp) ?_
      have q := tcheck_any kKey (kT 3) rfl kKey_bytes rfl (kT_bytes 3 (by decide)) _ 2 c _ wx s21 (by decide)
      rw [show ([kM.take 9, (kM.drop 9).take 7] : List (List Int)).flatten = kM from rfl, kTag] at q
      refine q.mono ?_
      rintro e w' ⟨rfl, l⟩
      exact ⟨_, rfl, rfl, l⟩
    · intro ax wx hb hs hd
      have h14 : ax.tmps.getD 14 undef = (.bool true) := hd 6 14 rfl (by kernel_rfl) (by decide)
      have h22 : ax.tmps.getD 22 undef = (.bool true) := hd 14 22 rfl (by kernel_rfl) (by decide)
      refine Does.value _ ?_ rfl
      go_simp
    · intro ax wx hb hs hd
      have h23 : ax.tmps.getD 23 undef = (.bool true) := hd 15 23 rfl (by kernel_rfl) (by decide)
      refine Does.value (.bool true) ?_ rfl
      go_simp
    · intro ax wx hb hs hd
      have h1 : ax.tmps.getD 1 undef = (.pointer (some ⟨w.heap.size, 0, none⟩)) := hs 1 (by kernel_rfl)
      exact Does.load 30 (.tmp 1) rfl w.heap.size 0 h1 (u8s kKey) _ ((Blk.later HB.out.1 hb (Blk.lt HB.out.1)).whole) Try.underlying30 rfl tsizeKey
    · intro ax wx hb hs hd
      exact Does.build 47 _ rfl #[(0, .int .u8 2)] (by simp only [List.map_toArray, List.map_cons, List.map_nil, Act.eval]) _ (buildT _ _)
    · intro ax wx hb hs hd
      have h2 : ax.tmps.getD 2 undef = (.slice (some ⟨w.heap.size + 1, 0, none⟩) 16 16) := hs 2 (by kernel_rfl)
      refine Does.value (.slice (some ⟨w.heap.size + 1, 0, none⟩) 16 16) ?_ rfl
      go_simp
    · intro ax wx hb hs hd
      have h27 : ax.tmps.getD 27 undef = (.slice (some ⟨w.heap.size + 1, 0, none⟩) 16 16) := hd 19 27 rfl (by kernel_rfl) (by decide)
      exact Does.rows1 _ rfl _ 16 16 kM (by simp only [List.map_toArray, List.map_cons, List.map_nil, Act.eval, h27]) (HB.out.2.1.later hb (Nat.le_refl _)) (Nat.le_refl _)
    · intro ax wx hb hs hd
      have h25 : ax.tmps.getD 25 undef = (.agg (u8s kKey).toArray) := hd 17 25 rfl (by kernel_rfl) (by decide)
      have h26 : ax.tmps.getD 26 undef = (.agg (u8s (kT 2)).toArray) := hd 18 26 rfl (by kernel_rfl) (by decide)
      obtain ⟨b, c, h28, s28⟩ : isP 1 [kM] (ax.tmps.getD 28 undef) wx := hd 20 28 rfl (by kernel_rfl) (by decide)
      refine Does.call 34 #[(.agg (u8s kKey).toArray), (.agg (u8s (kT 2)).toArray), .slice (some ⟨b, 0, none⟩) 1 c] (by go_simp) ?_
      have q := tcheck_any kKey (kT 2) rfl kKey_bytes rfl (kT_bytes 2 (by decide)) _ 1 c _ wx s28 (by decide)
      rw [show ([kM] : List (List Int)).flatten = kM from rfl, kTag] at q
      refine q.mono ?_
      rintro e w' ⟨rfl, l⟩
      exact ⟨_, rfl, rfl, l⟩
    · intro ax wx hb hs hd
      have h29 : ax.tmps.getD 29 undef = (.bool false) := hd 21 29 rfl (by kernel_rfl) (by decide)
      refine Does.value _ ?_ rfl
      go_simp
    · intro ax wx hb hs hd
      have h24 : ax.tmps.getD 24 undef = (.bool true) := hd 16 24 rfl (by kernel_rfl) (by decide)
      have h30 : ax.tmps.getD 30 undef = (.bool true) := hd 22 30 rfl (by kernel_rfl) (by decide)
      refine Does.value _ ?_ rfl
      go_simp
    · intro ax wx hb hs hd
      have h31 : ax.tmps.getD 31 undef = (.bool true) := hd 23 31 rfl (by kernel_rfl) (by decide)
      refine Does.value (.bool true) ?_ rfl
      go_simp
    · intro ax wx hb hs hd
      have h3 : ax.tmps.getD 3 undef = (.pointer (some ⟨g, 0, none⟩)) := hs 3 (by kernel_rfl)
      refine Does.value (.pointer (some ⟨g, 0, none⟩)) ?_ rfl
      go_simp
    · intro ax wx hb hs hd
      have h33 : ax.tmps.getD 33 undef = (.pointer (some ⟨g, 0, none⟩)) := hd 25 33 rfl (by kernel_rfl) (by decide)
      refine Does.value _ ?_ rfl
      go_simp
    · intro ax wx hb hs hd
      have h32 : ax.tmps.getD 32 undef = (.bool true) := hd 24 32 rfl (by kernel_rfl) (by decide)
      have h34 : ax.tmps.getD 34 undef = (.bool true) := hd 26 34 rfl (by kernel_rfl) (by decide)
      refine Does.value _ ?_ rfl
      go_simp
    · intro ax wx hb hs hd
      have h35 : ax.tmps.getD 35 undef = (.bool true) := hd 27 35 rfl (by kernel_rfl) (by decide)
      refine Does.value (.bool true) ?_ rfl
      go_simp
    · intro ax wx hb hs hd
      have h3 : ax.tmps.getD 3 undef = (.pointer (some ⟨g, 0, none⟩)) := hs 3 (by kernel_rfl)
      refine Does.value (.pointer (some ⟨g, 0, none⟩)) ?_ rfl
      go_simp
    · intro ax wx hb hs hd
      have h37 : ax.tmps.getD 37 undef = (.pointer (some ⟨g, 0, none⟩)) := hd 29 37 rfl (by kernel_rfl) (by decide)
      refine Does.call 63 #[(.pointer (some ⟨g, 0, none⟩))] (by go_simp) ?_
      have q := psum_key g kKey [] wx (PHolds.later HB.out.2.2.1 hb (PHolds.lt HB.out.2.2.1))
      rw [kTag0] at q
      refine q.mono ?_
      rintro e w' ⟨rfl, l⟩
      exact ⟨_, rfl, rfl, l⟩
    · intro ax wx hb hs hd
      exact Does.build 47 _ rfl #[] (by simp only [List.map_toArray, List.map_nil]) _ (buildTag _)
    · intro ax wx hb hs hd
      have h38 : ax.tmps.getD 38 undef = (.agg (u8s (zs0 16)).toArray) := hd 30 38 rfl (by kernel_rfl) (by decide)
      have h39 : ax.tmps.getD 39 undef = (.agg (u8s (zs0 16)).toArray) := hd 31 39 rfl (by kernel_rfl) (by decide)
      refine Does.value _ ?_ rfl
      go_simp
    · intro ax wx hb hs hd
      have h36 : ax.tmps.getD 36 undef = (.bool true) := hd 28 36 rfl (by kernel_rfl) (by decide)
      have h40 : ax.tmps.getD 40 undef = (.bool true) := hd 32 40 rfl (by kernel_rfl) (by decide)
      refine Does.value _ ?_ rfl
      go_simp
  · intro wx hb
    refine @Ends.val _ _ _ _ _ _ _ _ _ (.agg (u8s kKey).toArray) rfl ?_
    refine @Ends.val _ _ _ _ _ _ _ _ _ (.slice (some ⟨w.heap.size + 1, 0, none⟩) 16 16) rfl ?_
    refine @Ends.any _ _ _ _ _ _ _ _ _ (isP 1 [kM]) (isP_later _ _) rfl ?_
    intro v2 p2
    refine @Ends.val _ _ _ _ _ _ _ _ _ (.agg (u8s (kT 3)).toArray) rfl ?_
    refine @Ends.val _ _ _ _ _ _ _ _ _ (.agg (u8s (kT 3)).toArray) rfl ?_
    refine @Ends.val _ _ _ _ _ _ _ _ _ (.bool true) rfl ?_
    refine @Ends.val _ _ _ _ _ _ _ _ _ (.bool true) rfl ?_
    refine @Ends.val _ _ _ _ _ _ _ _ _ (.agg (u8s kKey).toArray) rfl ?_
    refine @Ends.val _ _ _ _ _ _ _ _ _ (.agg (u8s (kT 3)).toArray) rfl ?_
    refine @Ends.val _ _ _ _ _ _ _ _ _ (.slice (some ⟨w.heap.size + 1, 0, none⟩) 16 16) rfl ?_
    refine @Ends.val _ _ _ _ _ _ _ _ _ (.slice (some ⟨w.heap.size + 1, 0, none⟩) 9 16) rfl ?_
    refine @Ends.val _ _ _ _ _ _ _ _ _ (.slice (some ⟨w.heap.size + 1, 0, none⟩) 16 16) rfl ?_
    refine @Ends.val _ _ _ _ _ _ _ _ _ (.slice (some ⟨w.heap.size + 1, 9, none⟩) 7 7) rfl ?_
    refine @Ends.any _ _ _ _ _ _ _ _ _ (isP 2 [kM.take 9, (kM.drop 9).take 7]) (isP_later _ _) rfl ?_
    intro v13 p13
    refine @Ends.val _ _ _ _ _ _ _ _ _ (.bool true) rfl ?_
    refine @Ends.val _ _ _ _ _ _ _ _ _ (.bool true) rfl ?_
    refine @Ends.val _ _ _ _ _ _ _ _ _ (.bool true) rfl ?_
    refine @Ends.val _ _ _ _ _ _ _ _ _ (.agg (u8s kKey).toArray) rfl ?_
    refine @Ends.val _ _ _ _ _ _ _ _ _ (.agg (u8s (kT 2)).toArray) rfl ?_
    refine @Ends.val _ _ _ _ _ _ _ _ _ (.slice (some ⟨w.heap.size + 1, 0, none⟩) 16 16) rfl ?_
    refine @Ends.any _ _ _ _ _ _ _ _ _ (isP 1 [kM]) (isP_later _ _) rfl ?_
    intro v20 p20
    refine @Ends.val _ _ _ _ _ _ _ _ _ (.bool false) rfl ?_
    refine @Ends.val _ _ _ _ _ _ _ _ _ (.bool true) rfl ?_
    refine @Ends.val _ _ _ _ _ _ _ _ _ (.bool true) rfl ?_
    refine @Ends.val _ _ _ _ _ _ _ _ _ (.bool true) rfl ?_
    refine @Ends.val _ _ _ _ _ _ _ _ _ (.pointer (some ⟨g, 0, none⟩)) rfl ?_
    refine @Ends.val _ _ _ _ _ _ _ _ _ (.bool true) rfl ?_
    refine @Ends.val _ _ _ _ _ _ _ _ _ (.bool true) rfl ?_
    refine @Ends.val _ _ _ _ _ _ _ _ _ (.bool true) rfl ?_
    refine @Ends.val _ _ _ _ _ _ _ _ _ (.pointer (some ⟨g, 0, none⟩)) rfl ?_
    refine @Ends.val _ _ _ _ _ _ _ _ _ (.agg (u8s (zs0 16)).toArray) rfl ?_
    refine @Ends.val _ _ _ _ _ _ _ _ _ (.agg (u8s (zs0 16)).toArray) rfl ?_
    refine @Ends.val _ _ _ _ _ _ _ _ _ (.bool true) rfl ?_
    refine @Ends.val _ _ _ _ _ _ _ _ _ (.bool true) rfl ?_
    refine @Ends.one _ _ _ _ _ _ _ ?_
    simp only [Act.put, List.setIfInBounds_toArray, List.set_cons_zero, List.set_cons_succ]
    refine last_assign (.tmp 41) rfl (some 0) rfl _ rfl ?_
    simp only [Act.put, List.setIfInBounds_toArray, List.set_cons_zero, List.set_cons_succ]
    have XB : Hid (Below w.heap.size w wx) := below_chain HB.out.2.2.2 hb HB.out.2.2.2.size
    clear hb
    go_wp2_with fail
    go_ret
    exact ⟨rfl, XB.out⟩
end Go.Proofs.Ytogplebajpdmoaa

/- What is handed in as a key or a tag: read as bytes. -/
namespace Go.Proofs.Ytogplebajpdmoaa
open Go.ChangeShapes Go.WideShapes Go.ChangeAt Go.RowKit
set_option linter.unusedVariables false
set_option linter.unusedSimpArgs false

theorem cellsByte : Try.prog.cellsOf 5 = 1 := by kernel_rfl
theorem cellsKey : Try.prog.cellsOf 30 = 32 := by kernel_rfl
theorem cellsTag : Try.prog.cellsOf 47 = 16 := by kernel_rfl
set_option maxRecDepth 100000 in
theorem okWide_arr {W : World} {r : Reach} {base n : Nat} {t e : TypeId} {v : Value} (ht : Try.prog.underlying t = some (.array n e)) (h : Value.okWide Try.prog W r base t v) : ∃ cs, v = .agg cs := by
  unfold Value.okWide at h
  rw [ht] at h
  cases v <;> simp_all
def unByte : Value → Int
  | .int _ z => z
  | _ => 0
/-- An array of bytes, opened. -/
theorem bytes_arr {H : Type} {enc : TypeId × Value → H} {W : World} {base : Nat} {sp : Nat → Bool} {held : Bool} {fuel n : Nat} {t : TypeId} {cs : List Value} {x : DataW H × List MemPlace} (ht : Try.prog.underlying t = some (.array n 5)) (hn : Try.prog.cellsOf t = n)
    (h : DataW.trod enc Try.prog W base sp held fuel t cs = some x) : ∃ zs : List Int, cs = u8s zs ∧ zs.length = n ∧ Bytes zs := by
  obtain ⟨xs, m, _, _, hlen, hxl, hf⟩ := DataW.trod_array ht h
  have hc : cs.length = n := hlen.trans hn
  have key : ∀ i, (hi : i < cs.length) → ∃ z, cs[i] = .int .u8 z ∧ 0 ≤ z ∧ z < 256 := by
    intro i hi
    have h1 := hf i (by omega)
    rw [cellsByte, Nat.mul_one, List.getElem?_eq_getElem (by omega)] at h1
    obtain ⟨z, hz, _, hw⟩ := DataW.trod_int Try.underlying5 h1
    refine ⟨z, ?_, byte_of_wf hw⟩
    rw [List.drop_eq_getElem_cons hi, List.take_succ_cons, List.take_zero] at hz
    exact (List.cons.inj hz).1
  refine ⟨cs.map unByte, ?_, by simpa using hc, ?_⟩
  · apply List.ext_getElem
    · simp [u8s]
    · intro i h1 h2
      obtain ⟨z, hz, _⟩ := key i h1
      simp [u8s, hz, unByte]
  · intro z hz
    obtain ⟨v, hv, rfl⟩ := List.mem_map.1 hz
    obtain ⟨i, hi, rfl⟩ := List.mem_iff_getElem.1 hv
    obtain ⟨z, hz, hb⟩ := key i hi
    rw [hz]; exact hb
end Go.Proofs.Ytogplebajpdmoaa

/- Arguments read as data under the bulk's bound. -/
namespace Go.Proofs.Ytogplebajpdmoaa
open Go.ChangeShapes Go.WideShapes Go.ChangeAt Go.RowKit Go.Deep
set_option linter.unusedVariables false
set_option linter.unusedSimpArgs false

theorem own : ownKnob Try.prog.godebug = none := by kernel_rfl
theorem laidOut : laidOutB Try.prog = true := by kernel_rfl
theorem bulk_append {H : Type} (l r : List (DataW H)) : Rows.uptoBulkAll (l ++ r) = Rows.uptoBulkAll l + Rows.uptoBulkAll r := by
  induction l with
  | nil => simp [Rows.uptoBulkAll]
  | cons x l ih => simp only [List.cons_append, Rows.uptoBulkAll, ih]; omega
theorem bulk_one {H : Type} (d : DataW H) : 1 ≤ Rows.uptoBulk d := by
  cases d with
  | lit l => cases l <;> simp [Rows.uptoBulk]
  | _ => simp [Rows.uptoBulk]
theorem bulk_length {H : Type} (l : List (DataW H)) : l.length ≤ Rows.uptoBulkAll l := by
  induction l with
  | nil => simp [Rows.uptoBulkAll]
  | cons x r ih => have := bulk_one x; simp only [Rows.uptoBulkAll, List.length_cons]; omega
theorem bulk_range {H : Type} (D : Nat → DataW H) (f : Nat → List Int) (len k : Nat) (hk : k ≤ len) (h : ∀ i, i < len → (f i).length + 1 ≤ Rows.uptoBulk (D i)) : ((List.range k).map f).flatten.length ≤ Rows.uptoBulkAll ((List.range k).map D) := by
  induction k with
  | zero => simp
  | succ k ih =>
    have h1 := ih (by omega)
    have h2 := h k (by omega)
    rw [List.range_succ, List.map_append, List.map_append, bulk_append, List.flatten_append, List.length_append]
    simp only [List.map_cons, List.map_nil, Rows.uptoBulkAll, List.flatten_cons, List.flatten_nil, List.append_nil]
    omega
theorem bulk_at {H : Type} (D : Nat → DataW H) (len i : Nat) (hi : i < len) : Rows.uptoBulk (D i) ≤ Rows.uptoBulkAll ((List.range len).map D) := by
  have key : ∀ k, k ≤ len → i < k → Rows.uptoBulk (D i) ≤ Rows.uptoBulkAll ((List.range k).map D) := by
    intro k
    induction k with
    | zero => intro _ h; omega
    | succ k ih =>
      intro hk hik
      rw [List.range_succ, List.map_append, bulk_append]
      simp only [List.map_cons, List.map_nil, Rows.uptoBulkAll]
      by_cases e : i = k
      · subst e; omega
      · have := ih (by omega) (by omega); omega
  exact key len (Nat.le_refl _) hi
theorem cellsL : Try.prog.cellsOf 31 = 1 := by kernel_rfl
theorem cellsB : Try.prog.cellsOf 5 = 1 := by kernel_rfl
/-- A list in a cell. -/
theorem list_in {H : Type} {enc : TypeId × Value → H} {W : World} {fuel : Nat} {v : Value} {y : DataW H × List MemPlace} (h : DataW.trod enc Try.prog W 0 (fun _ => true) true fuel 31 [v] = some y) (hs : Rows.uptoBulk y.1 ≤ 1048576) :
    ∃ (zs : List Int) (so : Option Addr) (c : Nat), v = .slice so zs.length c ∧ Seen W so zs.length zs ∧ zs.length + 1 ≤ Rows.uptoBulk y.1 ∧ zs.length ≤ c := by
  rcases open_ints Try.underlying31 Try.underlying5 cellsB h with ⟨hcs, hx⟩ | ⟨x, l, c, zs, hcs, _, hl, hm, hz, hx, hcell, hwz⟩
  · simp at hcs
    subst hcs
    exact ⟨[], none, 0, rfl, Seen.empty _ _, by rw [hx]; simp [Rows.uptoBulk], Nat.le_refl _⟩
  · simp at hcs
    subst hcs
    have hz' : zs.length = c := by simpa using hz
    have hlz : (zs.take l).length = l := by simp; omega
    have hb : l + 1 ≤ Rows.uptoBulk y.1 := by
      rw [hx]
      have h1 := bulk_length (lits (H := H) .u8 (zs.take l))
      simp only [lits, List.length_map] at h1
      simp only [Rows.uptoBulk, lits]
      omega
    refine ⟨zs.take l, some x, c, by rw [hlz], ?_, by rw [hlz]; exact hb, by omega⟩
    rw [hlz]
    exact Seen.of_ints (by omega) hl hz' hcell hwz
/-- Lists in an argument. -/
theorem lists_in {H : Type} {enc : TypeId × Value → H} {W : World} {fuel : Nat} {v : Value} {y : DataW H × List MemPlace} (h : DataW.trod enc Try.prog W 0 (fun _ => true) true fuel 40 [v] = some y) (hs : Rows.uptoBulk y.1 ≤ 1048576) :
    ∃ ao n c pss, v = .slice ao n c ∧ SeenP W ao n pss ∧ n ≤ 1048576 ∧ pss.flatten.length ≤ 1048576 ∧ n ≤ c := by
  rcases open_slice1 Try.underlying40 cellsL h with ⟨hcs, hx⟩ | h
  · simp at hcs
    subst hcs
    exact ⟨none, 0, 0, [], rfl, ⟨rfl, fun i hi => by omega⟩, by decide, by decide, by decide⟩
  · obtain ⟨a, len, cap, m, nn, V, D, Pl, hcs, _, hl, hm, hmm, hx, hcell⟩ := h
    simp at hcs
    subst hcs
    have hmm' : m = cap := by simpa using hmm
    have hbulk : Rows.uptoBulkAll ((List.range len).map D) + 1 ≤ 1048576 := by
      rw [hx] at hs
      simp only [Rows.uptoBulk] at hs
      omega
    have hD : ∀ i, i < len → Rows.uptoBulk (D i) ≤ 1048576 := fun i hi => by have := bulk_at D len i hi; omega
    obtain ⟨f, hf⟩ := choose_lt (n := len) (p := fun i (zs : List Int) => ∃ (so : Option Addr) (c : Nat), V i = .slice so zs.length c ∧ Seen W so zs.length zs ∧ zs.length + 1 ≤ Rows.uptoBulk (D i) ∧ zs.length ≤ c) (fun i hi => by
      obtain ⟨h1, h2⟩ := hcell i (by omega)
      obtain ⟨zs, so, c, e1, e2, e3, e4⟩ := list_in h2 (hD i hi)
      exact ⟨zs, so, c, e1, e2, e3, e4⟩)
    have hlen : len ≤ 1048576 := by
      have := bulk_length ((List.range len).map D)
      simp at this
      omega
    have hgz : ∀ i, i < len → ((List.range len).map f).getD i [] = f i := fun i hi => by simp [List.getD, hi]
    refine ⟨some a, len, cap, (List.range len).map f, rfl, ⟨by simp, fun i hi => ?_⟩, hlen, ?_, hl⟩
    · obtain ⟨b, off, spot⟩ := a
      have hspot : spot = none := by simpa [Addr.add] using World.cell?_spot (hcell 0 (by omega)).1
      subst hspot
      obtain ⟨so, c, e1, e2, e3, e4⟩ := hf i hi
      obtain ⟨h1, _⟩ := hcell i (by omega)
      rw [add_mid] at h1
      rw [hgz i hi]
      exact ⟨b, off, so, c, rfl, World.block_lt_of_cell? _ _ h1, by rw [h1, e1], e2, e4⟩
    · have := bulk_range D f len len (Nat.le_refl _) (fun i hi => by obtain ⟨_, _, _, _, h, _⟩ := hf i hi; exact h)
      omega
end Go.Proofs.Ytogplebajpdmoaa
