/- Joined texts: SealSlW LCaseIn. -/
import Derived.Test.YtcimiajkbgabiaaYI
import Derived.Test.YtcimiajkbgabiaaYD
import Derived.ProofKit
import Derived.OpenShut
import Derived.ShutString
import Derived.ChangeOld
import Derived.SizedLaws
namespace Go.Proofs.Ytcimiajkbgabiaa
open Go.RowKit
set_option linter.unusedVariables false
set_option linter.unusedSimpArgs false

/-- What Seal answers: a box, or a refusal. -/
def Qs (key nonce : List Int) (n : Nat) (ms : List Int) (m : Nat) (zs : List Int) (K : Nat) (E : Int) (R : List Int) : Prop := (n ≤ 1048576 ∧ m ≤ 1048576 ∧ K = m + 16 ∧ E = 0 ∧ R = boxL key nonce ms zs) ∨ ((1048576 < n ∨ 1048576 < m) ∧ K = 0 ∧ E = 3 ∧ R = [])
theorem qs_ex (key nonce : List Int) (n : Nat) (ms : List Int) (m : Nat) : ∃ K E, K ≤ 1048592 ∧ ∀ zs, ∃ R, Qs key nonce n ms m zs K E R := by
  by_cases h : n ≤ 1048576 ∧ m ≤ 1048576
  · exact ⟨m + 16, 0, by omega, fun zs => ⟨_, .inl ⟨h.1, h.2, rfl, rfl, rfl⟩⟩⟩
  · exact ⟨0, 3, by omega, fun zs => ⟨_, .inr ⟨by omega, rfl, rfl, rfl⟩⟩⟩
theorem sl_out (key nonce : List Int) (n c m d : Nat) (ao bo : Option Addr) (ms zs : List Int) (K : Nat) (E : Int) (R : List Int) (hq : Qs key nonce n ms m zs K E R) (hk : key.length = 32) (hno : nonce.length = 12) (hkb : Bytes key) (hnb : Bytes nonce) (w : World) (hx : Seen w ao n ms) (hy : Seen w bo m zs) (hc : n ≤ c) (hd : m ≤ d) :
    Calls Try.prog 24 #[.agg (u8s key).toArray, .agg (u8s nonce).toArray, .slice ao n c, .slice bo m d] w fun e w' => ∃ vo cap, e = .returned (.tuple #[.slice vo K cap, .int .i64 E]) ∧ Out w' w.heap.size w'.heap.size vo K cap R ∧ Below w.heap.size w w' := by
  rcases hq with ⟨h1, h2, hK, hE, hR⟩ | ⟨hb, hK, hE, hR⟩
  · subst hK hE hR
    refine (seal_any key nonce n c m d ao bo ms zs hk hno hkb hnb h1 h2 w hx hy hc hd).mono ?_
    rintro e w1 ⟨v, rfl, o1, l1⟩
    obtain ⟨vo, cap, rfl, u⟩ := out_of (by rw [boxL_length, hy.len]) (boxL_bytes _ _ _ hy.bytes) (by omega) o1
    exact ⟨vo, cap, rfl, u, l1⟩
  · subst hK hE hR
    refine (seal_bad key nonce n c m d ao bo hx.top hy.top hb w).mono ?_
    rintro e w1 ⟨rfl, l1⟩
    exact ⟨none, 0, rfl, ⟨World.ownsRow_nil _ _ _ _, Seen.empty _ _, fun b o e => (by cases e), fun _ => rfl⟩, l1⟩
/-- What stands: what was spared, and nothing old was touched. -/
structure Sl (w1 W : World) (gM gT : Nat) (ms xs : List Int) : Prop where
  mo : Blk W gM 5 (u8s (spared ms))
  tx : Blk W gT 5 (u8s (spared xs))
  bel : Below w1.heap.size w1 W
theorem Sl.later {w1 W W' : World} {gM gT : Nat} {ms xs : List Int} (h : Sl w1 W gM gT ms xs) (l : Below W.heap.size W W') : Sl w1 W' gM gT ms xs := ⟨h.mo.later l h.mo.lt, h.tx.later l h.tx.lt, below_chain h.bel l h.bel.size⟩
theorem Sl.kept {S : Nat → Prop} {w1 W W' : World} {gM gT : Nat} {ms xs : List Int} (h : Sl w1 W gM gT ms xs) (hk : Kept S W W') (hS : ∀ y, S y → w1.heap.size ≤ y ∧ y ≠ gM ∧ y ≠ gT) : Sl w1 W' gM gT ms xs :=
  ⟨h.mo.kept hk (fun s => (hS gM s).2.1 rfl), h.tx.kept hk (fun s => (hS gT s).2.2 rfl), below_kept h.bel hk h.bel.size (fun j hj s => by have := (hS j s).1; omega)⟩
theorem Sl.dn {w1 W : World} {gM gT : Nat} {ms xs : List Int} (h : Sl w1 W gM gT ms xs) (q : Nat) : Sl w1 (W.drewN q) gM gT ms xs := h.later (below_dn (Below.refl _ _) q)
end Go.Proofs.Ytcimiajkbgabiaa

namespace Go.Proofs.Ytcimiajkbgabiaa
open Go.ChangeShapes Go.WideShapes Go.ChangeAt Go.RowKit
set_option linter.unusedVariables false
set_option linter.unusedSimpArgs false

theorem lOwn : ownKnob Try.prog.godebug = none := by kernel_rfl
theorem lLaidOut : laidOutB Try.prog = true := by kernel_rfl
theorem lBytesOf : Try.prog.bytesOf 5 = 1 := by kernel_rfl
theorem lCellsByte : Try.prog.cellsOf 5 = 1 := by kernel_rfl
theorem lCellsKey : Try.prog.cellsOf 27 = 32 := by kernel_rfl
theorem lCellsNonce : Try.prog.cellsOf 42 = 12 := by kernel_rfl
theorem lCellsCase : Try.prog.cellsOf 44 = 46 := by kernel_rfl
theorem lCellsL : Try.prog.cellsOf 22 = 1 := by kernel_rfl
def lUnByte : Value → Int
  | .int _ z => z
  | _ => 0
/-- An array of bytes, opened. -/
theorem lBytes_arr {H : Type} {enc : TypeId × Value → H} {W : World} {base : Nat} {sp : Nat → Bool} {held : Bool} {fuel n : Nat} {t : TypeId} {cs : List Value} {x : DataW H × List MemPlace} (ht : Try.prog.underlying t = some (.array n 5)) (hn : Try.prog.cellsOf t = n)
    (h : DataW.trod enc Try.prog W base sp held fuel t cs = some x) : ∃ zs : List Int, cs = u8s zs ∧ zs.length = n ∧ Bytes zs := by
  obtain ⟨xs, m, _, _, hlen, hxl, hf⟩ := DataW.trod_array ht h
  have hc : cs.length = n := hlen.trans hn
  have key : ∀ i, (hi : i < cs.length) → ∃ z, cs[i] = .int .u8 z ∧ 0 ≤ z ∧ z < 256 := by
    intro i hi
    have h1 := hf i (by omega)
    rw [lCellsByte, Nat.mul_one, List.getElem?_eq_getElem (by omega)] at h1
    obtain ⟨z, hz, _, hw⟩ := DataW.trod_int Try.underlying5 h1
    refine ⟨z, ?_, byte_of_wf hw⟩
    rw [List.drop_eq_getElem_cons hi, List.take_succ_cons, List.take_zero] at hz
    exact (List.cons.inj hz).1
  refine ⟨cs.map lUnByte, ?_, by simpa using hc, ?_⟩
  · apply List.ext_getElem
    · simp [u8s]
    · intro i h1 h2
      obtain ⟨z, hz, _⟩ := key i h1
      simp [u8s, hz, lUnByte]
  · intro z hz
    obtain ⟨v, hv, rfl⟩ := List.mem_map.1 hz
    obtain ⟨i, hi, rfl⟩ := List.mem_iff_getElem.1 hv
    obtain ⟨z, hz, hb⟩ := key i hi
    rw [hz]; exact hb
/-- A list in a field. -/
theorem lList_in {H : Type} {enc : TypeId × Value → H} {W : World} {fuel : Nat} {v : Value} {y : DataW H × List MemPlace} (h : DataW.trod enc Try.prog W 0 (fun _ => true) true fuel 22 [v] = some y)
    (hs : ∀ elems spare, y.1 = .slice elems spare → (elems.length + spare.length) * Try.prog.bytesOf 5 ≤ reachBytes) : ∃ ao n c zs, v = .slice ao n c ∧ Seen W ao n zs ∧ n ≤ c := by
  rcases open_ints Try.underlying22 Try.underlying5 (by kernel_rfl) h with ⟨hcs, _⟩ | ⟨x, l, c, zs, hcs, _, hl, hm, hz, hx, hcell, hwz⟩
  · simp at hcs
    subst hcs
    exact ⟨none, 0, 0, [], rfl, Seen.empty _ _, Nat.le_refl _⟩
  · simp at hcs
    subst hcs
    have hz' : zs.length = c := by simpa using hz
    have h1 := hs _ _ (by rw [hx])
    rw [lBytesOf] at h1
    simp only [lits, List.length_map, List.length_take, List.length_drop, reachBytes] at h1
    exact ⟨some x, l, c, _, rfl, Seen.of_ints (by omega) hl hz' hcell hwz, hl⟩
theorem lSized_in {H : Type} {y0 y1 y2 y3 : DataW H} (h : (DataW.weightsEach Try.prog [44] [.agg [y0, y1, y2, y3]]).all (· ≤ reachBytes) = true) :
    (∀ elems spare, y2 = .slice elems spare → (elems.length + spare.length) * Try.prog.bytesOf 5 ≤ reachBytes) ∧ (∀ elems spare, y3 = .slice elems spare → (elems.length + spare.length) * Try.prog.bytesOf 5 ≤ reachBytes) := by
  constructor
  · rintro elems spare rfl
    simp only [DataW.weightsEach, DataW.weights, Try.underlying44, Try.underlying22, List.all_append, Bool.and_eq_true, List.map_cons, List.map_nil, List.all_cons, decide_eq_true_eq] at h
    simp_all
  · rintro elems spare rfl
    simp only [DataW.weightsEach, DataW.weights, Try.underlying44, Try.underlying22, List.all_append, Bool.and_eq_true, List.map_cons, List.map_nil, List.all_cons, decide_eq_true_eq] at h
    simp_all
theorem lOne_cell (cs : List Value) (i : Nat) (hi : i < cs.length) : (cs.drop i).take 1 = [cs[i]] := by
  rw [List.drop_eq_getElem_cons hi, List.take_succ_cons, List.take_zero]
theorem lSized_head {H : Type} {t : TypeId} {ts : List TypeId} {d : DataW H} {ds : List (DataW H)} (h : (DataW.weightsEach Try.prog (t :: ts) (d :: ds)).all (· ≤ reachBytes) = true) : (DataW.weightsEach Try.prog [t] [d]).all (· ≤ reachBytes) = true := by
  simp only [DataW.weightsEach, List.all_append, Bool.and_eq_true, List.append_nil] at h ⊢
  first | exact h.1 | exact ⟨h.1, rfl⟩ | simp_all
theorem case_in {H : Type} {enc : TypeId × Value → H} {W : World} {fuel : Nat} {cs : List Value} {x : DataW H × List MemPlace} (h : DataW.trod enc Try.prog W 0 (fun _ => true) true fuel 44 cs = some x)
    (hsz : (DataW.weightsEach Try.prog [44] [x.1]).all (· ≤ reachBytes) = true) :
    ∃ (key nonce : List Int) (ao : Option Addr) (n c : Nat) (ms : List Int) (bo : Option Addr) (m d : Nat) (zs : List Int), cs = caseC key nonce ao n c bo m d ∧ CsIn W key nonce ao n c ms bo m d zs := by
  obtain ⟨xs, n, _, hx, hlen, hxl, hf⟩ := DataW.trod_struct Try.underlying44 h
  rw [lCellsCase] at hlen
  match xs, hxl with
  | [y0, y1, y2, y3], _ =>
    have f0 : DataW.trod enc Try.prog W 0 (fun _ => true) true n 27 (cs.take 32) = some y0 := by simpa [lCellsKey] using hf 0 _ rfl
    have f1 : DataW.trod enc Try.prog W 0 (fun _ => true) true n 42 ((cs.drop 32).take 12) = some y1 := by simpa [lCellsKey, lCellsNonce] using hf 1 _ rfl
    have f2 : DataW.trod enc Try.prog W 0 (fun _ => true) true n 22 ((cs.drop 44).take 1) = some y2 := by simpa [lCellsKey, lCellsNonce, lCellsL] using hf 2 _ rfl
    have f3 : DataW.trod enc Try.prog W 0 (fun _ => true) true n 22 ((cs.drop 45).take 1) = some y3 := by simpa [lCellsKey, lCellsNonce, lCellsL] using hf 3 _ rfl
    obtain ⟨key, e0, l0, b0⟩ := lBytes_arr Try.underlying27 lCellsKey f0
    obtain ⟨nonce, e1, l1, b1⟩ := lBytes_arr Try.underlying42 lCellsNonce f1
    rw [lOne_cell cs 44 (by omega)] at f2
    rw [lOne_cell cs 45 (by omega)] at f3
    have hz : (DataW.weightsEach Try.prog [44] [.agg [y0.1, y1.1, y2.1, y3.1]]).all (· ≤ reachBytes) = true := by
      have e : x.1 = .agg [y0.1, y1.1, y2.1, y3.1] := by rw [hx]; simp
      rw [← e]; exact hsz
    obtain ⟨ao, n', c, ms, em, hm, hc⟩ := lList_in f2 (lSized_in hz).1
    obtain ⟨bo, m, d, zs, ez, hzs, hd⟩ := lList_in f3 (lSized_in hz).2
    refine ⟨key, nonce, ao, n', c, ms, bo, m, d, zs, ?_, ⟨l0, l1, b0, b1, hm, hzs, hc, hd⟩⟩
    rw [caseC, ← e0, ← e1, ← em, ← ez]
    have d1 : cs.drop 44 = [cs[44], cs[45]] := by
      rw [List.drop_eq_getElem_cons (by omega), List.drop_eq_getElem_cons (by omega), List.drop_eq_nil_of_le (by omega)]
    have d2 : cs.drop 32 = (cs.drop 32).take 12 ++ cs.drop 44 := by
      have := (List.take_append_drop 12 (cs.drop 32)).symm
      rwa [List.drop_drop] at this
    rw [← d1, ← d2, List.take_append_drop]
theorem zeroCase (w : World) : CsIn w (List.replicate 32 0) (List.replicate 12 0) none 0 0 [] none 0 0 [] := ⟨rfl, rfl, rep0_bytes _, rep0_bytes _, Seen.empty _ _, Seen.empty _ _, Nat.le_refl _, Nat.le_refl _⟩
end Go.Proofs.Ytcimiajkbgabiaa
