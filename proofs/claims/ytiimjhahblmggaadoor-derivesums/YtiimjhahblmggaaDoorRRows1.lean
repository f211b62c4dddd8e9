/- The statements' helpers Rows and Cut (trystref01). -/
import Derived.Test.YtiimjhahblmggaaDoorRNest
namespace Go.Proofs.YtiimjhahblmggaaDoor
open Go.RowKit
set_option linter.unusedVariables false
set_option linter.unusedSimpArgs false

theorem bytes_marks {xs : List Int} (h : Bytes xs) : Bytes (xs ++ marks) := by
  intro z hz
  rcases List.mem_append.1 hz with hz | hz
  · exact h z hz
  · exact marks_bytes z hz
def flat (zss : List (List Int)) (k : Nat) : List Int := (zss.take k).flatMap (· ++ marks)
def offs (zss : List (List Int)) (k : Nat) : Nat := (flat zss k).length
theorem flat_zero (zss : List (List Int)) : flat zss 0 = [] := by simp [flat]
theorem offs_zero (zss : List (List Int)) : offs zss 0 = 0 := by simp [offs, flat]
theorem mflat_succ (zss : List (List Int)) (k : Nat) (hk : k < zss.length) : flat zss (k + 1) = flat zss k ++ (zss.getD k [] ++ marks) := by
  unfold flat
  rw [List.take_succ_eq_append_getElem hk, List.flatMap_append]
  simp [List.getD, hk]
theorem offs_succ (zss : List (List Int)) (k : Nat) (hk : k < zss.length) : offs zss (k + 1) = offs zss k + (lenAt zss k + 64) := by
  unfold offs
  rw [mflat_succ zss k hk, List.length_append, List.length_append, marks_length]
theorem offs_le (zss : List (List Int)) (j k : Nat) (hjk : j ≤ k) (hk : k ≤ zss.length) : offs zss j ≤ offs zss k := by
  induction k with
  | zero => have : j = 0 := by omega
            subst this; exact Nat.le_refl _
  | succ k ih =>
    by_cases h : j = k + 1
    · subst h; exact Nat.le_refl _
    · have := ih (by omega) (by omega)
      rw [offs_succ zss k (by omega)]; omega
theorem flat_getD (zss : List (List Int)) (n : Nat) (hn : n ≤ zss.length) (j t : Nat) (hj : j < n) (ht : t < lenAt zss j) : (flat zss n).getD (offs zss j + t) 0 = (zss.getD j []).getD t 0 := by
  induction n with
  | zero => omega
  | succ n ih =>
    rw [mflat_succ zss n (by omega)]
    by_cases h : j < n
    · have h1 := offs_le zss (j + 1) n (by omega) (by omega)
      rw [offs_succ zss j (by omega)] at h1
      have h2 : offs zss j + t < (flat zss n).length := by show _ < offs zss n; omega
      rw [← ih (by omega) h]
      simp [List.getD, List.getElem?_append_left h2]
    · have e : j = n := by omega
      subst e
      have h2 : (flat zss j).length ≤ offs zss j + t := by show offs zss j ≤ _; omega
      have h3 : offs zss j + t - (flat zss j).length = t := by show offs zss j + t - offs zss j = t; omega
      have ht' : t < (zss.getD j []).length := ht
      simp only [List.getD_eq_getElem?_getD]
      rw [List.getElem?_append_right h2, h3, List.getElem?_append_left (by simpa using ht')]
theorem flat_bytes (zss : List (List Int)) (k : Nat) (hk : k ≤ zss.length) (hb : ∀ i, i < k → Bytes (zss.getD i [])) : Bytes (flat zss k) := by
  induction k with
  | zero => rw [flat_zero]; intro z hz; cases hz
  | succ k ih =>
    rw [mflat_succ zss k (by omega)]
    intro z hz
    rcases List.mem_append.1 hz with h | h
    · exact ih (by omega) (fun i hi => hb i (by omega)) z h
    · exact bytes_marks (hb k (by omega)) z h

theorem news_row {w : World} {g : Nat} {zs : List Int} (h : RowAt w g zs) : ∀ j u, (zs.map (Value.int .u8))[j]? = some u → w.cell? ((⟨g, 0, none⟩ : Addr).add j) = some u := by
  intro j u hj
  have hlt : j < zs.length := by
    rcases Nat.lt_or_ge j zs.length with h' | h'
    · exact h'
    · rw [List.getElem?_eq_none (by simpa using h')] at hj; cases hj
  have e : (⟨g, 0, none⟩ : Addr).add j = ⟨g, j, none⟩ := by
    unfold Addr.add; split
    · subst j; rfl
    · simp
  rw [e, h.cell j hlt, ← hj]
  simp [List.getD, hlt]
theorem one_cells (zs : List Int) : ∀ u ∈ zs.map (Value.int .u8), u.oneCell' = true := by
  intro u hu
  obtain ⟨z, _, rfl⟩ := List.mem_map.1 hu
  rfl

set_option maxRecDepth 20000 in
set_option maxHeartbeats 1000000 in
theorem rrows_any (ao : Option Addr) (n c : Nat) (zss : List (List Int)) (w : World) (hx : SeenL w ao n zss) (ht : offs zss n ≤ 140737488355328) :
    Calls Tryd.prog 8 #[.slice ao n c] w fun e w' => ∃ v, e = .returned v ∧ w'.ownsRow w.heap.size 5 1 v (offs zss n) ((flat zss n).map (Value.int .u8)) ∧ Below w.heap.size w w' := by
  have t1 := hx.top
  have HN : Hid (zss.length = n) := hx.len
  obtain ⟨i0, hi, hz0, hz1, hz2⟩ := info_parts info_byte
  go_enter Tryd.func8, Tryd.ntmps8
  go_wp2
  go_loopw [3, 4] (fun v i wr => ∃ k : Nat, k ≤ n ∧ i = .int .i64 k ∧ wr.ownsRow w.heap.size 5 1 v (offs zss k) ((flat zss k).map (Value.int .u8)) ∧ Below w.heap.size w wr) (fun _ i _ => n - (intOf i).toNat)
  case atStart => exact ⟨0, Nat.zero_le _, rfl, by rw [offs_zero, flat_zero]; exact World.ownsRow_nil _ _ _ _, Below.refl _ _⟩
  case round =>
    obtain ⟨k, hk, rfl, hown, hbel⟩ := hrel
    by_cases hlt : k < n
    · obtain ⟨b, o, so, cs, rfl, hb, hc, hs⟩ := hx.cells k hlt
      have c1 := (hbel.cell (p := ⟨b, o + k, none⟩) hb).trans hc
      have hsz := hbel.size
      have i1 : (0 : Int) ≤ (k : Int) := by omega
      have i2 : (k : Int) < (n : Int) := by omega
      have s1 := hs.later hbel (Nat.le_refl _)
      have h1 := offs_le zss (k + 1) n (by omega) (by rw [HN.out]; exact Nat.le_refl _)
      rw [offs_succ zss k (by rw [HN.out]; exact hlt)] at h1
      have HB : Hid _ := hbel
      obtain ⟨L, hL⟩ : ∃ L, lenAt zss k = L := ⟨_, rfl⟩
      rw [hL] at c1 s1 h1
      have HL : Hid (lenAt zss k = L) := hL
      clear hc hs hL hbel
      go_wp2_with fail
      refine (lent_any so L cs (zss.getD k []) wr s1 (by omega)).mono ?_
      rintro e w1 ⟨g, cap, rfl, hr, hge, hcap, hmx, bu⟩
      have ho1 := ownsRow_below hown bu
      have zb := bu.size
      have HLN : Hid (((zss.getD k [] ++ marks).map (Value.int .u8)).length = (L + 64) * 1) := by show _ = _; have : (zss.getD k []).length = L := HL.out; rw [List.length_map, List.length_append, marks_length, this, Nat.mul_one]
      have HNR : Hid _ := news_row hr
      clear s1 c1
      go_wp2_with (at_builtin; refine wpList_append_own _ rfl _ _ 22 rfl w.heap.size 5 i0 (.int .u8 0) 1 1 Tryd.underlying22 hi hz0 hz1 hz2 rfl (by decide) _ _ _ rfl ho1 ⟨g, 0, none⟩ (L + 64) cap ((zss.getD k [] ++ marks).map (Value.int .u8)) rfl HLN.out HNR.out (one_cells _) ?c3 ?c4 ?c5 ?_)
      case c3 => unfold maxLen; omega
      case c4 => omega
      case c5 => omega
      · intro v' w2 hown' hgrow _
        have R1 : w2.ownsRow w.heap.size 5 1 v' (offs zss (k + 1)) ((flat zss (k + 1)).map (Value.int .u8)) := by
          rw [offs_succ zss k (by rw [HN.out]; exact hlt), HL.out, mflat_succ zss k (by rw [HN.out]; exact hlt), List.map_append]
          simpa using hown'
        have R2 : Below w.heap.size w w2 := (HB.out.trans (bu.mono hsz)).grown hgrow (by omega) (fun j hj => (hown.lt j hj).1)
        clear hown' hgrow ho1 bu hown hr
        go_wp2
        go_roundw
        case rel => exact ⟨k + 1, by omega, by go_num, R1, R2⟩
        case measure => simp [intOf]; omega
    · have e : k = n := by omega
      subst e
      have HO : Hid _ := hown
      have HB : Hid _ := hbel
      clear hown hbel hx
      go_wp2
      go_ret
      exact ⟨_, rfl, HO.out, HB.out⟩

theorem one_header (a : Option Addr) (l c : Nat) : ∀ u ∈ [Value.slice a l c], u.oneCell' = true := by
  intro u hu; simp at hu; subst hu; rfl
/-- The headers that Cut makes. -/
def cuts (g cf : Nat) (zss : List (List Int)) (k : Nat) : List Value := (List.range k).map fun j => .slice (some ⟨g, offs zss j, none⟩) (lenAt zss j) (cf - offs zss j)
theorem cuts_succ (g cf : Nat) (zss : List (List Int)) (k : Nat) : cuts g cf zss (k + 1) = cuts g cf zss k ++ [.slice (some ⟨g, offs zss k, none⟩) (lenAt zss k) (cf - offs zss k)] := by
  unfold cuts; rw [List.range_succ, List.map_append]; rfl

set_option maxRecDepth 20000 in
set_option maxHeartbeats 1000000 in
theorem cut_any (fo : Option Addr) (g cf : Nat) (ao : Option Addr) (n c : Nat) (zss : List (List Int)) (w : World) (hx : SeenL w ao n zss) (ht : offs zss n ≤ 140737488355328) (hf : 0 < n → fo = some ⟨g, 0, none⟩) (hcf : offs zss n ≤ cf) (hcm : cf ≤ maxLen) :
    Calls Tryd.prog 9 #[.slice fo (offs zss n) cf, .slice ao n c] w fun e w' => ∃ v, e = .returned v ∧ w'.ownsRow w.heap.size 22 1 v n (cuts g cf zss n) ∧ Below w.heap.size w w' := by
  have t1 := hx.top
  have HN : Hid (zss.length = n) := hx.len
  unfold maxLen at hcm
  obtain ⟨i0, hi, hz0, hz1, hz2⟩ := info_parts info_bytes
  obtain ⟨N, hNN⟩ : ∃ N, offs zss n = N := ⟨_, rfl⟩
  have HO : Hid (offs zss n = N) := hNN
  rw [hNN] at ht hcf ⊢
  clear hNN
  go_enter Tryd.func9, Tryd.ntmps9
  go_wp2
  go_loopw [5, 6, 7] (fun v a i wr => ∃ k : Nat, k ≤ n ∧ i = .int .i64 k ∧ a = .int .i64 (offs zss k) ∧ wr.ownsRow w.heap.size 22 1 v k (cuts g cf zss k) ∧ Below w.heap.size w wr) (fun _ _ i _ => n - (intOf i).toNat)
  case atStart => exact ⟨0, Nat.zero_le _, rfl, by rw [offs_zero]; rfl, World.ownsRow_nil _ _ _ _, Below.refl _ _⟩
  case round =>
    obtain ⟨k, hk, rfl, rfl, hown, hbel⟩ := hrel
    by_cases hlt : k < n
    · have e := hf (by omega)
      subst e
      obtain ⟨b, o, so, cs, rfl, hb, hc, hs⟩ := hx.cells k hlt
      have c1 := (hbel.cell (p := ⟨b, o + k, none⟩) hb).trans hc
      have hsz := hbel.size
      have i1 : (0 : Int) ≤ (k : Int) := by omega
      have i2 : (k : Int) < (n : Int) := by omega
      have h1 := offs_le zss (k + 1) n (by omega) (by rw [HN.out]; exact Nat.le_refl _)
      rw [HO.out] at h1
      have h2 := offs_succ zss k (by rw [HN.out]; exact hlt)
      rw [h2] at h1
      have HB : Hid _ := hbel
      obtain ⟨L, hL⟩ : ∃ L, lenAt zss k = L := ⟨_, rfl⟩
      obtain ⟨K, hK⟩ : ∃ K, offs zss k = K := ⟨_, rfl⟩
      rw [hL] at c1 h1 h2
      rw [hK] at h1 h2 ⊢
      have HL : Hid (lenAt zss k = L ∧ offs zss k = K ∧ offs zss (k + 1) = K + (L + 64)) := ⟨hL, hK, h2⟩
      have j1 : (0 : Int) ≤ (K : Int) := by omega
      have j2 : (K : Int) ≤ (K : Int) + (L : Int) := by omega
      have j3 : (K : Int) + (L : Int) ≤ (cf : Int) := by omega
      clear hc hs hL hK hbel h2
      go_wp2_with (at_builtin; refine wpList_append_own _ rfl _ _ 23 rfl w.heap.size 22 i0 (.slice none 0 0) 1 24 Tryd.underlying23 hi hz0 hz1 hz2 rfl (by decide) _ _ _ rfl (hown.alloc _) ⟨wr.heap.size, 0, none⟩ 1 1 [.slice (some ⟨g, K, none⟩) L (cf - K)] rfl rfl (one_new _ _ _) (one_header _ _ _) ?c3 ?c4 ?c5 ?_)
      case c3 => unfold maxLen; omega
      case c4 => omega
      case c5 => first | omega | (simp; omega)
      · intro v' w2 hown' hgrow _
        have R1 : w2.ownsRow w.heap.size 22 1 v' (k + 1) (cuts g cf zss (k + 1)) := by
          rw [cuts_succ, HL.out.1, HL.out.2.1]; exact hown'
        have R2 : Below w.heap.size w w2 := (HB.out.alloc hsz _).grown hgrow (by simp; omega) (fun j hj => (hown.lt j hj).1)
        have c2 := (R2.cell (p := ⟨b, o + k, none⟩) hb).trans ((HB.out.cell (p := ⟨b, o + k, none⟩) hb).symm.trans c1)
        clear hown' hgrow hown c1
        go_wp2
        go_roundw
        case rel => exact ⟨k + 1, by omega, by go_num, by rw [HL.out.2.2]; go_num, R1, R2⟩
        case measure => simp [intOf]; omega
    · have e : k = n := by omega
      subst e
      have HO : Hid _ := hown
      have HB : Hid _ := hbel
      clear hown hbel hx
      go_wp2
      go_ret
      exact ⟨_, rfl, HO.out, HB.out⟩

/-- What Cut has made, seen. -/
theorem cut_seen {w : World} {base g cf O n cap : Nat} {zss : List (List Int)} (hn : zss.length = n) (ht : n ≤ 1048576) (ho : w.ownsRow base 22 1 (.slice (some ⟨O, 0, none⟩) n cap) n (cuts g cf zss n)) (hO : O < w.heap.size)
    (hr : RowAt w g (flat zss n)) (hb : ∀ i, i < n → Bytes (zss.getD i []) ∧ lenAt zss i ≤ 140737488355328) : SeenL w (some ⟨O, 0, none⟩) n zss :=
  ⟨hn, ht, fun i hi => by
    refine ⟨O, 0, some ⟨g, offs zss i, none⟩, cf - offs zss i, rfl, hO, ?_, rfl, (hb i hi).2, (hb i hi).1, fun h0 => ⟨g, offs zss i, rfl, hr.lt, fun t ht => ?_⟩⟩
    · rw [Nat.zero_add, ho.cellAt i (by omega)]
      simp [cuts, hi]
    · have h1 := offs_le zss (i + 1) n (by omega) (by omega)
      rw [offs_succ zss i (by omega)] at h1
      rw [hr.cell (offs zss i + t) (by show _ < offs zss n; omega), flat_getD zss n (by omega) i t hi ht]⟩
end Go.Proofs.YtiimjhahblmggaaDoor
