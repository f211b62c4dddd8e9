/- DeriveSums: the document's Join; lists in one memory, turned byte by byte. -/
import Derived.Test.YtiimjhahblmggaaDoorRRows1
import Derived.Test.YtiimjhahblmggaaDoorVApp
import Derived.Test.YtiimjhahblmggaaDoorVSlice
import Derived.Test.YtiimjhahblmggaaDoorVPlain
namespace Go.Proofs.YtiimjhahblmggaaDoor
open Go.RowKit
set_option linter.unusedVariables false
set_option linter.unusedSimpArgs false

/-- Lists that may be appended, one behind the other. -/
structure SeenJ (w : World) (ao : Option Addr) (n : Nat) (pss : List (List Int)) : Prop where
  len : pss.length = n
  top : n ≤ 1048576
  all : pss.flatten.length ≤ 1048576
  cells : ∀ i, i < n → ∃ b o so c, ao = some ⟨b, o, none⟩ ∧ b < w.heap.size ∧ w.cell? ⟨b, o + i, none⟩ = some (.slice so (pss.getD i []).length c) ∧ Seen w so (pss.getD i []).length (pss.getD i []) ∧ (so = none → c = 0)
theorem SeenJ.later {w w' : World} {ao : Option Addr} {n : Nat} {pss : List (List Int)} (h : SeenJ w ao n pss) (hb : Below w.heap.size w w') : SeenJ w' ao n pss :=
  ⟨h.len, h.top, h.all, fun i hi => by
    obtain ⟨b, o, so, c, e, hlt, hc, hs, hl⟩ := h.cells i hi
    exact ⟨b, o, so, c, e, Nat.lt_of_lt_of_le hlt hb.size, (hb.cell (p := ⟨b, o + i, none⟩) hlt).trans hc, hs.later hb (Nat.le_refl _), hl⟩⟩
theorem SeenJ.l {w : World} {ao : Option Addr} {n : Nat} {pss : List (List Int)} (h : SeenJ w ao n pss) : SeenL w ao n pss :=
  ⟨h.len, h.top, fun i hi => by
    obtain ⟨b, o, so, c, e, hlt, hc, hs, hl⟩ := h.cells i hi
    exact ⟨b, o, so, c, e, hlt, hc, hs⟩⟩
set_option maxRecDepth 20000 in
set_option maxHeartbeats 1000000 in
theorem rjoin_any (ao : Option Addr) (n c : Nat) (pss : List (List Int)) (w : World) (hx : SeenJ w ao n pss) :
    Calls Tryd.prog 10 #[.slice ao n c] w fun e w' => ∃ v, e = .returned v ∧ w'.ownsRow w.heap.size 5 1 v pss.flatten.length (pss.flatten.map (Value.int .u8)) ∧ Below w.heap.size w w' := by
  have HX : Hid (SeenJ w ao n pss) := hx
  have hn := hx.top
  clear hx
  go_enter Tryd.func10, Tryd.ntmps10
  go_wp2
  go_loopw [3, 4] (fun v i wr => ∃ k : Nat, k ≤ n ∧ i = .int .i64 k ∧ wr.ownsRow w.heap.size 5 1 v (pss.take k).flatten.length ((pss.take k).flatten.map (Value.int .u8)) ∧ Below w.heap.size w wr) (fun _ i _ => n - (intOf i).toNat)
  case atStart => exact ⟨0, Nat.zero_le _, rfl, World.ownsRow_nil _ _ _ _, Below.refl _ _⟩
  case round =>
    obtain ⟨k, hk, rfl, hown, hbel⟩ := hrel
    by_cases hlt : k < n
    · obtain ⟨b, o, so, cs, rfl, hb, hc, hs, hl⟩ := HX.out.cells k hlt
      have E1 := flat_succ pss k (by have := HX.out.len; omega)
      have M1 := flat_le pss (k + 1)
      rw [E1, List.length_append] at M1
      have A1 := HX.out.all
      obtain ⟨p, hp⟩ : ∃ p, pss.getD k [] = p := ⟨_, rfl⟩
      obtain ⟨m, hm⟩ : ∃ m, (pss.take k).flatten = m := ⟨_, rfl⟩
      rw [hp] at hc hs E1 M1
      rw [hm] at E1 M1 hown
      have HE : Hid ((pss.take (k + 1)).flatten = m ++ p ∧ m.length + p.length ≤ 1048576) := ⟨E1, by omega⟩
      have c1 := (hbel.cell (p := ⟨b, o + k, none⟩) hb).trans hc
      have HS : Hid (Seen wr so p.length p) := hs.later hbel (Nat.le_refl _)
      have HB : Hid (Below w.heap.size w wr) := hbel
      have i1 : (0 : Int) ≤ (k : Int) := by omega
      have i2 : (k : Int) < (n : Int) := by omega
      have zb := hbel.size
      clear E1 M1 A1 hc hs hbel hp hm
      go_wp2_with (at_builtin; refine wpList_append_seen rfl _ _ rfl w.heap.size _ _ _ rfl hown so p.length cs p rfl HS.out hl (by have := HE.out.2; omega) zb ?_)
      intro v' w1 ho hg
      have R : Hid (w1.ownsRow w.heap.size 5 1 v' (pss.take (k + 1)).flatten.length ((pss.take (k + 1)).flatten.map (Value.int .u8)) ∧ Below w.heap.size w w1) := ⟨by rw [HE.out.1, List.length_append, List.map_append]; exact ho, below_grown HB.out hown hg⟩
      clear ho hg hown
      go_wp2
      go_roundw
      case rel => exact ⟨k + 1, by omega, by go_num, R.out.1, R.out.2⟩
      case measure => simp [intOf] <;> omega
    · obtain rfl : k = n := by omega
      have HO : Hid (wr.ownsRow w.heap.size 5 1 u3 (pss.take k).flatten.length ((pss.take k).flatten.map (Value.int .u8))) := hown
      have HB : Hid (Below w.heap.size w wr) := hbel
      clear hown hbel
      go_wp2
      go_ret
      refine ⟨_, rfl, ?_, HB.out⟩
      have h := HO.out
      rwa [List.take_of_length_le (by have := HX.out.len; omega)] at h
/-- A byte of a row stored last. -/
theorem last_byteR {o : Oper} {a : Act} {w : World} {K : Act → World → Prop} {Q : Exit → Act → World → Prop} (x y : Operand) (ho : o.op = .store 5 x y) (hdst : o.dst = none) (b off : Nat) (hx : a.eval x = .pointer (some ⟨b, off, none⟩)) (l : List Int) (z : Int) (hy : a.eval y = .int .u8 z) (hb : RowAt w b l) (hl : off < l.length)
    (h : RowAt (w.setCell ⟨b, off, none⟩ (.int .u8 z)) b (l.set off z) → K a (w.setCell ⟨b, off, none⟩ (.int .u8 z))) : o.wp Tryd.prog a w K Q := by
  have hc := hb.cell off hl
  have hf := hb.frozen off
  have h2 := h (hb.set off hl z)
  unfold Oper.wp execOp
  simp only [ho, hx, hy]
  go_simp
  exact h2
/-- Lists one behind the other, with marks. -/
def flatA (l : List (List Int)) : List Int := l.flatMap (· ++ marks)
theorem flatA_app (a b : List (List Int)) : flatA (a ++ b) = flatA a ++ flatA b := by simp [flatA]
theorem flatA_cons (a : List Int) (b : List (List Int)) : flatA (a :: b) = (a ++ marks) ++ flatA b := by simp [flatA]
theorem flat_all (l : List (List Int)) : flat l l.length = flatA l := by simp [flat, flatA]
theorem flatA_len_map (l : List (List Int)) : (flatA (l.map (turn 33))).length = (flatA l).length := by
  induction l with
  | nil => rfl
  | cons a l ih => rw [List.map_cons, flatA_cons, flatA_cons, List.length_append, List.length_append, ih, List.length_append, List.length_append, turn_length]
def mixX (z : List Int) (k : Nat) : List Int := (turn 33 z).take k ++ z.drop k
theorem mixX_length (z : List Int) (k : Nat) (hk : k ≤ z.length) : (mixX z k).length = z.length := by simp [mixX, turn_length]; omega
theorem mixX_zero (z : List Int) : mixX z 0 = z := by simp [mixX]
theorem mixX_all (z : List Int) : mixX z z.length = turn 33 z := by simp [mixX, turn_length, List.take_of_length_le]
/-- The first i lists turned, and the first j bytes of the next one. -/
def zT (pss : List (List Int)) (i j : Nat) : List (List Int) := (pss.take i).map (turn 33) ++ (mixX (pss.getD i []) j :: pss.drop (i + 1))
def zO (pss : List (List Int)) (i : Nat) : List (List Int) := (pss.take i).map (turn 33) ++ pss.drop i
theorem drop_getD (pss : List (List Int)) (i : Nat) (hi : i < pss.length) : pss.drop i = pss.getD i [] :: pss.drop (i + 1) := by
  rw [List.drop_eq_getElem_cons hi]
  simp [List.getD, hi]
theorem zT_zero (pss : List (List Int)) (i : Nat) (hi : i < pss.length) : zT pss i 0 = zO pss i := by
  unfold zT zO
  rw [mixX_zero, drop_getD pss i hi]
theorem zT_all (pss : List (List Int)) (i : Nat) (hi : i < pss.length) : zT pss i (pss.getD i []).length = zO pss (i + 1) := by
  unfold zT zO
  rw [mixX_all, List.take_succ_eq_append_getElem hi, List.map_append, List.append_assoc]
  simp [List.getD, hi]
theorem zO_zero (pss : List (List Int)) : zO pss 0 = pss := by simp [zO]
theorem zO_all (pss : List (List Int)) : zO pss pss.length = pss.map (turn 33) := by simp [zO]
theorem offs_take (pss : List (List Int)) (i : Nat) : offs pss i = (flatA ((pss.take i).map (turn 33))).length := by
  rw [flatA_len_map]; rfl
theorem zT_flat (pss : List (List Int)) (i j : Nat) : flatA (zT pss i j) = flatA ((pss.take i).map (turn 33)) ++ ((mixX (pss.getD i []) j ++ marks) ++ flatA (pss.drop (i + 1))) := by
  unfold zT
  rw [flatA_app, flatA_cons]
theorem zT_at (pss : List (List Int)) (i j : Nat) (hj : j < (pss.getD i []).length) : (flatA (zT pss i j)).getD (offs pss i + j) 0 = (pss.getD i []).getD j 0 := by
  rw [zT_flat, offs_take]
  generalize flatA ((pss.take i).map (turn 33)) = P
  have e : (P ++ ((mixX (pss.getD i []) j ++ marks) ++ flatA (pss.drop (i + 1)))).getD (P.length + j) 0 = ((mixX (pss.getD i []) j ++ marks) ++ flatA (pss.drop (i + 1))).getD j 0 := by simp [List.getD, List.getElem?_append_right]
  rw [e, List.append_assoc, getD_front _ _ _ (by rw [mixX_length _ _ (by omega)]; exact hj)]
  exact half_at _ _ _ j (turn_length _ _) rfl hj
theorem zT_set (pss : List (List Int)) (i j : Nat) (hj : j < (pss.getD i []).length) : (flatA (zT pss i j)).set (offs pss i + j) (bits .xor .u8 ((pss.getD i []).getD j 0) 33) = flatA (zT pss i (j + 1)) := by
  rw [zT_flat, zT_flat, offs_take]
  generalize flatA ((pss.take i).map (turn 33)) = P
  generalize flatA (pss.drop (i + 1)) = F
  obtain ⟨z, hz⟩ : ∃ z, pss.getD i [] = z := ⟨_, rfl⟩
  rw [hz] at hj ⊢
  have hset : (mixX z j).set j (bits .xor .u8 (z.getD j 0) 33) = mixX z (j + 1) := by
    have e : bits .xor .u8 (z.getD j 0) 33 = (turn 33 z).getD j 0 := by simp [turn, List.getD, hj]
    rw [e]
    exact half_set _ _ z.length j (turn_length _ _) rfl hj
  rw [List.set_append_right _ _ (by omega), Nat.add_sub_cancel_left, List.append_assoc, List.set_append_left _ _ (by rw [mixX_length _ _ (by omega)]; exact hj), hset]
  simp only [List.append_assoc]
theorem zT_length (pss : List (List Int)) (i j : Nat) (hi : i < pss.length) (hj : j ≤ (pss.getD i []).length) : (flatA (zT pss i j)).length = (flatA pss).length := by
  rw [zT_flat, List.length_append, flatA_len_map, List.length_append, List.length_append, mixX_length _ _ hj]
  conv => rhs; rw [← List.take_append_drop i pss, flatA_app, drop_getD pss i hi, flatA_cons, List.length_append, List.length_append, List.length_append]
/-- Lists of the same lengths are cut alike. -/
theorem offs_map (pss : List (List Int)) (k : Nat) : offs (pss.map (turn 33)) k = offs pss k := by
  show (flatA ((pss.map (turn 33)).take k)).length = (flatA (pss.take k)).length
  rw [← List.map_take, flatA_len_map]
theorem getD_map (pss : List (List Int)) (i : Nat) : (pss.map (turn 33)).getD i [] = turn 33 (pss.getD i []) := by
  simp only [List.getD_eq_getElem?_getD, List.getElem?_map]
  cases pss[i]? <;> rfl
theorem cuts_map (g cf : Nat) (pss : List (List Int)) (k : Nat) : cuts g cf (pss.map (turn 33)) k = cuts g cf pss k := by
  unfold cuts
  apply List.map_congr_left
  intro j _
  show Value.slice (some ⟨g, offs (pss.map (turn 33)) j, none⟩) ((pss.map (turn 33)).getD j []).length _ = _
  rw [offs_map, getD_map, turn_length]
theorem flatten_map (pss : List (List Int)) : (pss.map (turn 33)).flatten.length = pss.flatten.length := by
  induction pss with
  | nil => rfl
  | cons a l ih => rw [List.map_cons, List.flatten_cons, List.flatten_cons, List.length_append, List.length_append, ih, turn_length]
theorem offs_bound (pss : List (List Int)) : (flatA pss).length = pss.flatten.length + 64 * pss.length := by
  induction pss with
  | nil => rfl
  | cons a l ih => rw [flatA_cons, List.length_append, List.length_append, marks_length, ih, List.flatten_cons, List.length_append, List.length_cons]; omega
/-- What is cut, as parts. -/
theorem cut_parts {w : World} {base g cf n lc : Nat} {lo : Option Addr} {zss : List (List Int)} (hn : zss.length = n) (ho : w.ownsRow base 22 1 (.slice lo n lc) n (cuts g cf zss n)) (hr : 0 < n → RowAt w g (flatA zss)) (hcf : (flatA zss).length ≤ cf) (hb : ∀ i, i < n → Bytes (zss.getD i []) ∧ (zss.getD i []).length ≤ 140737488355328) : SeenP w lo n zss :=
  ⟨hn, fun i hi => by
    rcases ho.2 with ⟨_, h0⟩ | ⟨O, cap, cur, e, hO, hh, _⟩
    · omega
    · cases e
      have hr' := hr (by omega)
      have hfl : flat zss n = flatA zss := by rw [← hn]; exact flat_all zss
      have h1 := offs_le zss (i + 1) n (by omega) (by omega)
      rw [offs_succ zss i (by omega)] at h1
      have hon : offs zss n = (flatA zss).length := by show (flat zss n).length = _; rw [hfl]
      refine ⟨O, 0, some ⟨g, offs zss i, none⟩, cf - offs zss i, rfl, lt_of_block hh, ?_, ⟨rfl, (hb i hi).2, (hb i hi).1, fun h0 => ⟨g, offs zss i, rfl, hr'.lt, fun t ht => ?_⟩⟩, by show lenAt zss i ≤ _; omega⟩
      · rw [Nat.zero_add, ho.cellAt i (by omega)]
        simp [cuts, hi, lenAt]
      · rw [hr'.cell (offs zss i + t) (by have : t < lenAt zss i := ht; omega)]
        have := flat_getD zss n (by omega) i t hi ht
        rw [hfl] at this
        rw [this]⟩
theorem full_of {W : World} {base n : Nat} {v : Value} {pss : List (List Int)} (hn : pss.length = n) (hb : ∀ i, i < n → Bytes (pss.getD i [])) (ht : (flatA pss).length ≤ 140737488355328) (h : W.ownsRow base 5 1 v (offs pss n) ((flat pss n).map (Value.int .u8))) :
    ∃ ff cf gf, v = .slice ff (offs pss n) cf ∧ (0 < n → ff = some ⟨gf, 0, none⟩ ∧ RowAt W gf (flatA pss) ∧ base ≤ gf ∧ gf < W.heap.size) ∧ offs pss n ≤ cf ∧ cf ≤ maxLen ∧ Seen W ff (offs pss n) (flatA pss) := by
  have hfl : flat pss n = flatA pss := by rw [← hn]; exact flat_all pss
  have hon : offs pss n = (flatA pss).length := by show (flat pss n).length = _; rw [hfl]
  have hB : Bytes (flatA pss) := by rw [← hfl]; exact flat_bytes pss n (by omega) hb
  have h64 := offs_bound pss
  rcases own_len (by rfl) h with ⟨rfl, h0⟩ | ⟨g, cap, rfl, hr, hg, hc, hm⟩
  · have hz : flatA pss = [] := List.eq_nil_of_length_eq_zero (by rw [← hon]; exact h0)
    rw [hz, h0]
    exact ⟨none, 0, 0, rfl, fun h => by omega, Nat.le_refl _, Nat.zero_le _, Seen.empty _ _⟩
  · rw [hfl] at hr
    refine ⟨_, cap, g, rfl, fun _ => ⟨rfl, hr, hg, hr.lt⟩, hc, hm, ?_⟩
    have := Seen.of_row (n := offs pss n) hr (by omega) (by omega) hB
    rwa [List.take_of_length_le (by omega)] at this
theorem xor_one (y : Int) (h : 0 ≤ y ∧ y < 256) : bits .xor .u8 y 1 ≠ y := by
  have key : ∀ n : Fin 256, bits .xor .u8 (n.val : Int) 1 ≠ (n.val : Int) := by decide +kernel
  have := key ⟨y.toNat, by omega⟩
  rwa [show ((y.toNat : Nat) : Int) = y by omega] at this
theorem SeenP.l {w : World} {ao : Option Addr} {n : Nat} {pss : List (List Int)} (h : SeenP w ao n pss) (ht : n ≤ 1048576) : SeenL w ao n pss :=
  ⟨h.len, ht, fun i hi => by
    obtain ⟨b, o, so, c, e, hlt, hc, hs, hl⟩ := h.cells i hi
    exact ⟨b, o, so, c, e, hlt, hc, hs⟩⟩
theorem own_join {w : World} {base n : Nat} {v : Value} {zss : List (List Int)} {hd : List Value} (hn : zss.length = n) (ht : n ≤ 1048576) (ha : zss.flatten.length ≤ 1048576) (h : OwnL base w v n zss hd) (hb : ∀ i, i < n → Bytes (zss.getD i []) ∧ (zss.getD i []).length ≤ 140737488355328) : ∃ ao c, v = .slice ao n c ∧ SeenJ w ao n zss := by
  rcases h.outer.2 with ⟨rfl, h0⟩ | ⟨O, cap, cur, rfl, hO, hh, _⟩
  · subst h0
    exact ⟨none, 0, rfl, hn, ht, ha, fun i hi => by omega⟩
  · refine ⟨_, cap, rfl, hn, ht, ha, fun i hi => ?_⟩
    obtain ⟨so, c, e, hq, hr⟩ := h.inner i hi
    refine ⟨O, 0, so, c, rfl, lt_of_block hh, ?_, ?_, hq⟩
    · rw [Nat.zero_add, h.outer.cellAt i (by omega)]
      exact e
    · rcases Nat.eq_zero_or_pos (zss.getD i []).length with h0 | h0
      · have hz : zss.getD i [] = [] := List.eq_nil_of_length_eq_zero h0
        rw [hz]
        exact Seen.empty _ _
      · obtain ⟨g, rfl, _, hg⟩ := hr h0
        have := Seen.of_row (n := (zss.getD i []).length) hg (Nat.le_refl _) (hb i hi).2 (hb i hi).1
        rwa [List.take_length] at this
end Go.Proofs.YtiimjhahblmggaaDoor
