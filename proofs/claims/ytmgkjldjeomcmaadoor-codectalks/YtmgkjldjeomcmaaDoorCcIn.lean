/- What is handed in as a Config, a Talk, a Dial: read as its parts. -/
import Derived.Test.YtmgkjldjeomcmaaDoorCcParse
import Derived.Test.YtmgkjldjeomcmaaDoorRows
import Derived.ProofKit
import Derived.OpenShut
import Derived.ShutString
import Derived.ChangeOld
import Derived.SizedLaws
namespace Go.Proofs.YtmgkjldjeomcmaaDoor
open Go.ChangeShapes Go.WideShapes Go.ChangeAt Go.RowKit
set_option linter.unusedVariables false
set_option linter.unusedSimpArgs false

theorem lLaidOut : laidOutB Tryd.prog = true := by kernel_rfl
theorem lBytesOf : Tryd.prog.bytesOf 5 = 1 := by kernel_rfl
theorem lCellsByte : Tryd.prog.cellsOf 5 = 1 := by kernel_rfl
theorem lCellsInt : Tryd.prog.cellsOf 3 = 1 := by kernel_rfl
theorem lCellsBool : Tryd.prog.cellsOf 4 = 1 := by kernel_rfl
theorem lCellsL : Tryd.prog.cellsOf 24 = 1 := by kernel_rfl
theorem lCellsConfig : Tryd.prog.cellsOf 23 = 6 := by kernel_rfl
theorem lCellsDrop : Tryd.prog.cellsOf 35 = 16 := by kernel_rfl
def lUnByte : Value → Int
  | .int _ z => z
  | _ => 0
/-- An array of bytes, opened. -/
theorem lBytes_arr {H : Type} {enc : TypeId × Value → H} {W : World} {base : Nat} {sp : Nat → Bool} {held : Bool} {fuel n : Nat} {t : TypeId} {cs : List Value} {x : DataW H × List MemPlace} (ht : Tryd.prog.underlying t = some (.array n 5)) (hn : Tryd.prog.cellsOf t = n)
    (h : DataW.trod enc Tryd.prog W base sp held fuel t cs = some x) : ∃ zs : List Int, cs = u8s zs ∧ zs.length = n ∧ Bytes zs := by
  obtain ⟨xs, m, _, _, hlen, hxl, hf⟩ := DataW.trod_array ht h
  have hc : cs.length = n := hlen.trans hn
  have key : ∀ i, (hi : i < cs.length) → ∃ z, cs[i] = .int .u8 z ∧ 0 ≤ z ∧ z < 256 := by
    intro i hi
    have h1 := hf i (by omega)
    rw [lCellsByte, Nat.mul_one, List.getElem?_eq_getElem (by omega)] at h1
    obtain ⟨z, hz, _, hw⟩ := DataW.trod_int Tryd.underlying5 h1
    refine ⟨z, ?_, byte_of_wf hw⟩
    rw [List.drop_eq_getElem_cons hi, List.take_succ_cons, List.take_zero] at hz
    exact (List.cons.inj hz).1
  refine ⟨cs.map lUnByte, ?_, by simpa using hc, ?_⟩
  · apply List.ext_getElem
    · simp [u8s]
    · intro i h1 h2
      obtain ⟨z, hz, _⟩ := key i h1
      simp [u8s, hz, lUnByte]
  · intro z hz
    obtain ⟨v, hv, rfl⟩ := List.mem_map.1 hz
    obtain ⟨i, hi, rfl⟩ := List.mem_iff_getElem.1 hv
    obtain ⟨z, hz, hb⟩ := key i hi
    rw [hz]; exact hb
theorem list_in8 {H : Type} {enc : TypeId × Value → H} {W : World} {fuel : Nat} {v : Value} {y : DataW H × List MemPlace} (h : DataW.trod enc Tryd.prog W 0 (fun _ => true) true fuel 24 [v] = some y)
    (hs : ∀ elems spare, y.1 = .slice elems spare → (elems.length + spare.length) * Tryd.prog.bytesOf 5 ≤ reachBytes) : ∃ ao n c zs, v = .slice ao n c ∧ Seen W ao n zs ∧ n ≤ c ∧ (ao = none → c = 0) ∧ n ≤ 140737488351232 := by
  rcases open_ints Tryd.underlying24 Tryd.underlying5 (by kernel_rfl) h with ⟨hcs, _⟩ | ⟨x, l, c, zs, hcs, _, hl, hm, hz, hx, hcell, hwz⟩
  · simp at hcs
    subst hcs
    exact ⟨none, 0, 0, [], rfl, Seen.empty _ _, Nat.le_refl _, fun _ => rfl, by decide⟩
  · simp at hcs
    subst hcs
    have hz' : zs.length = c := by simpa using hz
    have h1 := hs _ _ (by rw [hx])
    rw [lBytesOf] at h1
    simp only [lits, List.length_map, List.length_take, List.length_drop, reachBytes] at h1
    exact ⟨some x, l, c, _, rfl, Seen.of_ints (by omega) hl hz' hcell hwz, hl, (fun h => by cases h), by omega⟩
theorem lOne_cell (cs : List Value) (i : Nat) (hi : i < cs.length) : (cs.drop i).take 1 = [cs[i]] := by
  rw [List.drop_eq_getElem_cons hi, List.take_succ_cons, List.take_zero]
theorem lSized_head {H : Type} {t : TypeId} {ts : List TypeId} {d : DataW H} {ds : List (DataW H)} (h : (DataW.weightsEach Tryd.prog (t :: ts) (d :: ds)).all (· ≤ reachBytes) = true) : (DataW.weightsEach Tryd.prog [t] [d]).all (· ≤ reachBytes) = true := by
  simp only [DataW.weightsEach, List.all_append, Bool.and_eq_true, List.append_nil] at h ⊢
  first | exact h.1 | exact ⟨h.1, rfl⟩ | simp_all
theorem int_in8 {H : Type} {enc : TypeId × Value → H} {W : World} {fuel : Nat} {v : Value} {y : DataW H × List MemPlace} (h : DataW.trod enc Tryd.prog W 0 (fun _ => true) true fuel 3 [v] = some y) : ∃ a : Int, v = .int .i64 a ∧ I64 a := by
  obtain ⟨a, e, _, w⟩ := DataW.trod_int Tryd.underlying3 h
  simp at e
  subst e
  refine ⟨a, rfl, ?_⟩
  simp [Lit.wf, IntKind.min, IntKind.max, IntKind.signed, IntKind.bits] at w
  exact ⟨by omega, by omega⟩
set_option maxRecDepth 20000 in
theorem cfg_in {H : Type} {enc : TypeId × Value → H} {W : World} {fuel : Nat} {cs : List Value} {x : DataW H × List MemPlace} (h : DataW.trod enc Tryd.prog W 0 (fun _ => true) true fuel 23 cs = some x) : ∃ c : Cg, cs = c.cs ∧ c.Fit := by
  obtain ⟨xs, n, _, hx, hlen, hxl, hf⟩ := DataW.trod_struct Tryd.underlying23 h
  rw [lCellsConfig] at hlen
  match cs, hlen with
  | [v0, v1, v2, v3, v4, v5], _ =>
    match xs, hxl with
    | [y0, y1, y2, y3, y4, y5], _ =>
      have f0 : DataW.trod enc Tryd.prog W 0 (fun _ => true) true n 3 [v0] = some y0 := by simpa [lCellsInt] using hf 0 _ rfl
      obtain ⟨a0, e0, w0⟩ := int_in8 f0
      have f1 : DataW.trod enc Tryd.prog W 0 (fun _ => true) true n 3 [v1] = some y1 := by simpa [lCellsInt] using hf 1 _ rfl
      obtain ⟨a1, e1, w1⟩ := int_in8 f1
      have f2 : DataW.trod enc Tryd.prog W 0 (fun _ => true) true n 3 [v2] = some y2 := by simpa [lCellsInt] using hf 2 _ rfl
      obtain ⟨a2, e2, w2⟩ := int_in8 f2
      have f3 : DataW.trod enc Tryd.prog W 0 (fun _ => true) true n 3 [v3] = some y3 := by simpa [lCellsInt] using hf 3 _ rfl
      obtain ⟨a3, e3, w3⟩ := int_in8 f3
      have f4 : DataW.trod enc Tryd.prog W 0 (fun _ => true) true n 3 [v4] = some y4 := by simpa [lCellsInt] using hf 4 _ rfl
      obtain ⟨a4, e4, w4⟩ := int_in8 f4
      have f5 : DataW.trod enc Tryd.prog W 0 (fun _ => true) true n 3 [v5] = some y5 := by simpa [lCellsInt] using hf 5 _ rfl
      obtain ⟨a5, e5, w5⟩ := int_in8 f5
      subst e0 e1 e2 e3 e4 e5
      exact ⟨⟨a0, a1, a2, a3, a4, a5⟩, rfl, w0, w1, w2, w3, w4, w5⟩
/-- A Talk that came in. -/
structure Tk where
  cf : Cg
  d : List Int
  b : Bool
  ao : Option Addr
  n : Nat
  c : Nat
  ms : List Int
  bo : Option Addr
  m : Nat
  e : Nat
  zs : List Int
def Tk.cs (t : Tk) : List Value := t.cf.cs ++ (u8s t.d ++ [.bool t.b, .slice t.ao t.n t.c, .slice t.bo t.m t.e])
structure TkIn (W : World) (t : Tk) : Prop where
  fit : t.cf.Fit
  dl : t.d.length = 16
  db : Bytes t.d
  sm : Seen W t.ao t.n t.ms
  cm : t.ao = none → t.c = 0
  sz : Seen W t.bo t.m t.zs
  cz : t.bo = none → t.e = 0
  lm : t.n ≤ t.c
  lz : t.m ≤ t.e
  tm : t.n ≤ 140737488351232
  tz : t.m ≤ 140737488351232
theorem lCellsTalk : Tryd.prog.cellsOf 37 = 25 := by kernel_rfl
theorem lSized_talk {H : Type} {y0 y1 y2 y3 y4 : DataW H} (h : (DataW.weightsEach Tryd.prog [37] [.agg [y0, y1, y2, y3, y4]]).all (· ≤ reachBytes) = true) :
    (∀ elems spare, y3 = .slice elems spare → (elems.length + spare.length) * Tryd.prog.bytesOf 5 ≤ reachBytes) ∧ (∀ elems spare, y4 = .slice elems spare → (elems.length + spare.length) * Tryd.prog.bytesOf 5 ≤ reachBytes) := by
  constructor
  · rintro elems spare rfl
    simp only [DataW.weightsEach, DataW.weights, Tryd.underlying37, Tryd.underlying24, List.all_append, Bool.and_eq_true, List.map_cons, List.map_nil, List.all_cons, decide_eq_true_eq] at h
    simp_all
  · rintro elems spare rfl
    simp only [DataW.weightsEach, DataW.weights, Tryd.underlying37, Tryd.underlying24, List.all_append, Bool.and_eq_true, List.map_cons, List.map_nil, List.all_cons, decide_eq_true_eq] at h
    simp_all
set_option maxRecDepth 20000 in
theorem talk_in {H : Type} {enc : TypeId × Value → H} {W : World} {fuel : Nat} {cs : List Value} {x : DataW H × List MemPlace} (h : DataW.trod enc Tryd.prog W 0 (fun _ => true) true fuel 37 cs = some x)
    (hsz : (DataW.weightsEach Tryd.prog [37] [x.1]).all (· ≤ reachBytes) = true) : ∃ t : Tk, cs = t.cs ∧ TkIn W t := by
  obtain ⟨xs, n, _, hx, hlen, hxl, hf⟩ := DataW.trod_struct Tryd.underlying37 h
  rw [lCellsTalk] at hlen
  match xs, hxl with
  | [y0, y1, y2, y3, y4], _ =>
    have f0 : DataW.trod enc Tryd.prog W 0 (fun _ => true) true n 23 (cs.take 6) = some y0 := by simpa [lCellsConfig] using hf 0 _ rfl
    have f1 : DataW.trod enc Tryd.prog W 0 (fun _ => true) true n 35 ((cs.drop 6).take 16) = some y1 := by simpa [lCellsConfig, lCellsDrop] using hf 1 _ rfl
    have f2 : DataW.trod enc Tryd.prog W 0 (fun _ => true) true n 4 ((cs.drop 22).take 1) = some y2 := by simpa [lCellsConfig, lCellsDrop, lCellsBool] using hf 2 _ rfl
    have f3 : DataW.trod enc Tryd.prog W 0 (fun _ => true) true n 24 ((cs.drop 23).take 1) = some y3 := by simpa [lCellsConfig, lCellsDrop, lCellsBool, lCellsL] using hf 3 _ rfl
    have f4 : DataW.trod enc Tryd.prog W 0 (fun _ => true) true n 24 ((cs.drop 24).take 1) = some y4 := by simpa [lCellsConfig, lCellsDrop, lCellsBool, lCellsL] using hf 4 _ rfl
    obtain ⟨cf, e0, w0⟩ := cfg_in f0
    obtain ⟨d, e1, l1, b1⟩ := lBytes_arr Tryd.underlying35 lCellsDrop f1
    rw [lOne_cell cs 22 (by omega)] at f2
    rw [lOne_cell cs 23 (by omega)] at f3
    rw [lOne_cell cs 24 (by omega)] at f4
    obtain ⟨bv, e2, _⟩ := DataW.trod_bool Tryd.underlying4 f2
    simp at e2
    have hz : (DataW.weightsEach Tryd.prog [37] [.agg [y0.1, y1.1, y2.1, y3.1, y4.1]]).all (· ≤ reachBytes) = true := by
      have e : x.1 = .agg [y0.1, y1.1, y2.1, y3.1, y4.1] := by rw [hx]; simp
      rw [← e]; exact hsz
    obtain ⟨ao, n', c, ms, em, hm, hc, hcn, ht⟩ := list_in8 f3 (lSized_talk hz).1
    obtain ⟨bo, m, e, zs, ez, hzs, hd, hdn, htz⟩ := list_in8 f4 (lSized_talk hz).2
    refine ⟨⟨cf, d, bv, ao, n', c, ms, bo, m, e, zs⟩, ?_, ⟨w0, l1, b1, hm, hcn, hzs, hdn, hc, hd, ht, htz⟩⟩
    show cs = cf.cs ++ (u8s d ++ [.bool bv, .slice ao n' c, .slice bo m e])
    rw [← e0, ← e1, ← em, ← ez, ← e2]
    have d1 : cs.drop 22 = [cs[22], cs[23], cs[24]] := by
      rw [List.drop_eq_getElem_cons (by omega), List.drop_eq_getElem_cons (by omega), List.drop_eq_getElem_cons (by omega), List.drop_eq_nil_of_le (by omega)]
    have d2 : cs.drop 6 = (cs.drop 6).take 16 ++ cs.drop 22 := by
      have := (List.take_append_drop 16 (cs.drop 6)).symm
      rwa [List.drop_drop] at this
    rw [← d1, ← d2, List.take_append_drop]
end Go.Proofs.YtmgkjldjeomcmaaDoor
