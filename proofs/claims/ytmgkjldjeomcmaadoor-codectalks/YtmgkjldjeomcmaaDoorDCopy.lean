/- The statements' helpers for layer digest: CopyBytes, Join, Two, CopyRows. -/
import Derived.Test.YtmgkjldjeomcmaaDoorTSeenP
namespace Go.Proofs.YtmgkjldjeomcmaaDoor
open Go.RowKit
set_option linter.unusedVariables false
set_option linter.unusedSimpArgs false

theorem one_new (w : World) (x : Value) (t : TypeId) : ∀ j u, [x][j]? = some u → (w.alloc (.cells #[x] t)).cell? ((⟨w.heap.size, 0, none⟩ : Addr).add j) = some u := by
  intro j u hj
  rw [add_mid, Nat.zero_add]
  have h : (w.alloc (.cells #[x] t)).heap[w.heap.size]? = some (.cells [x].toArray t (0, 0)) := heap_alloc_new w _
  rw [cell_of_row _ _ j _ t (0, 0) h]
  simpa using hj
/-- A value that owns bytes, read as data. -/
theorem own_data {w : World} {base : Nat} {v : Value} {zs : List Int} (hb : Bytes zs) (ht : zs.length ≤ 140737488355328) (h : w.ownsRow base 5 1 v zs.length (zs.map (Value.int .u8))) :
    ∃ vo cap, v = .slice vo zs.length cap ∧ Seen w vo zs.length zs ∧ zs.length ≤ cap ∧ (vo = none → cap = 0) ∧ (∀ b o, vo = some ⟨b, o, none⟩ → base ≤ b ∧ b < w.heap.size ∧ o = 0 ∧ RowAt w b zs) ∧ cap ≤ maxLen := by
  rcases own_cases h with ⟨rfl, h0⟩ | ⟨g, cap, rfl, hr, hg, hc, hm⟩
  · subst h0
    exact ⟨none, 0, rfl, Seen.empty _ _, Nat.le_refl _, fun _ => rfl, (fun b o h => by cases h), by decide⟩
  · refine ⟨_, cap, rfl, ?_, hc, (fun h => by cases h), fun b o h => ?_, hm⟩
    · have := Seen.of_row (n := zs.length) hr (Nat.le_refl _) ht hb
      rwa [List.take_length] at this
    · simp only [Option.some.injEq, Addr.mk.injEq, and_true] at h
      obtain ⟨rfl, rfl⟩ := h
      exact ⟨hg, hr.lt, rfl, hr⟩
set_option maxHeartbeats 1000000 in
set_option maxRecDepth 20000 in
theorem copyB_any (ao : Option Addr) (n c : Nat) (zs : List Int) (w : World) (hx : Seen w ao n zs) :
    Calls Tryd.prog 44 #[.slice ao n c] w fun e w' => ∃ v, e = .returned v ∧ w'.ownsRow w.heap.size 5 1 v n (zs.map (Value.int .u8)) ∧ Below w.heap.size w w' := by
  have t1 := hx.top
  have HL : Hid (zs.length = n) := hx.len
  obtain ⟨i0, hi, hz0, hz1, hz2⟩ := info_parts info_byte
  obtain ⟨w0, hmk, ho1, hg0⟩ := run_make_own (P := Tryd.prog) w w.heap.size 24 5 i0 (.int .u8 0) 1 Tryd.underlying24 hi hz0 hz1 .i64 .i64 n (by rw [hz2]; omega) (by unfold maxLen; omega) (Nat.le_refl _)
  have hb1 : Below w.heap.size w w0 := (Below.refl _ _).grown hg0 (Nat.le_refl _) (fun j hj => by cases hj)
  go_enter Tryd.func44, Tryd.ntmps44
  go_wp2
  go_loopw [3, 4] (fun v i wr => ∃ k : Nat, k ≤ n ∧ i = .int .i64 k ∧ wr.ownsRow w.heap.size 5 1 v k ((zs.map (Value.int .u8)).take k) ∧ Below w.heap.size w wr) (fun _ i _ => n - (intOf i).toNat)
  case atStart => exact ⟨0, Nat.zero_le _, rfl, ho1, hb1⟩
  case round =>
    clear ho1 hb1 hg0
    obtain ⟨k, hk, rfl, hown, hbel⟩ := hrel
    by_cases hlt : k < n
    · obtain ⟨b, o, rfl, hb, hc⟩ := hx.cells (by omega)
      have c1 := (hbel.cell (p := ⟨b, o + k, none⟩) hb).trans (hc k hlt)
      obtain ⟨Z, hZ⟩ : ∃ Z, zs.getD k 0 = Z := ⟨_, rfl⟩
      rw [hZ] at c1
      have HZ : Hid (zs.getD k 0 = Z) := hZ
      have hsz := hbel.size
      have i1 : (0 : Int) ≤ (k : Int) := by omega
      have i2 : (k : Int) < (n : Int) := by omega
      clear hZ hc hx
      go_wp2_with (at_builtin; refine wpList_append_own _ rfl _ _ 24 rfl w.heap.size 5 i0 (.int .u8 0) 1 1 Tryd.underlying24 hi hz0 hz1 hz2 rfl (by decide) _ _ _ rfl (hown.alloc _) ⟨wr.heap.size, 0, none⟩ 1 1 [.int .u8 Z] rfl rfl ?c1 ?c2 ?c3 ?c4 ?c5 ?_)
      case c1 => exact one_new _ _ _
      case c2 => intro u hu; simp at hu; subst hu; rfl
      case c3 => unfold maxLen; omega
      case c4 => omega
      case c5 => simp; omega
      · intro v' w1 hown' hgrow _
        have R := step_own hbel hown (by have := HL.out; omega) HZ.out hown' hgrow
        clear hown' hgrow hown hbel c1
        go_wp2
        go_roundw
        case rel => exact ⟨k + 1, by omega, by go_num, R.1, R.2⟩
        case measure => simp [intOf] <;> omega
    · obtain rfl : k = n := by omega
      have HO : Hid (wr.ownsRow w.heap.size 5 1 u3 k ((zs.map (Value.int .u8)).take k)) := hown
      have HB : Hid (Below w.heap.size w wr) := hbel
      clear hown hbel hx
      go_wp2
      go_ret
      refine ⟨_, rfl, ?_, HB.out⟩
      have h := HO.out
      rwa [List.take_of_length_le (by have := HL.out; simp; omega)] at h
/-- A byte more. -/
theorem own_more {w wr w1 : World} {v v' : Value} {zs : List Int} {z : Int}
    (hb : Below w.heap.size w wr) (hown : wr.ownsRow w.heap.size 5 1 v zs.length (zs.map (Value.int .u8)))
    (hown' : w1.ownsRow w.heap.size 5 1 v' (zs.length + 1) (zs.map (Value.int .u8) ++ [.int .u8 z])) (hg : (wr.alloc (.cells #[.int .u8 z] 5)).grownBy w1 v.ownBlock) :
    w1.ownsRow w.heap.size 5 1 v' (zs ++ [z]).length ((zs ++ [z]).map (Value.int .u8)) ∧ Below w.heap.size w w1 := by
  constructor
  · rw [List.map_append, List.length_append]; exact hown'
  · exact (hb.alloc hb.size _).grown hg (by have := hb.size; simp; omega) (fun j hj => (hown.lt j hj).1)
theorem seenP_bytes {w : World} {ao : Option Addr} {n : Nat} {pss : List (List Int)} (hx : SeenP w ao n pss) : ∀ k, k ≤ n → Bytes (pss.take k).flatten := by
  intro k
  induction k with
  | zero => intro _ z hz; simp at hz
  | succ k ih =>
    intro hk
    rw [flat_succ pss k (by rw [hx.len]; omega)]
    obtain ⟨b, o, so, c, _, _, _, hs, _⟩ := hx.cells k (by omega)
    exact bytes_app (ih (by omega)) hs.bytes
set_option maxHeartbeats 1000000 in
set_option maxRecDepth 20000 in
theorem join_any (ao : Option Addr) (n c : Nat) (pss : List (List Int)) (w : World) (hx : SeenP w ao n pss) (hn : n ≤ 140737488355328) (hm : pss.flatten.length ≤ 35184372088832) :
    Calls Tryd.prog 51 #[.slice ao n c] w fun e w' => ∃ v, e = .returned v ∧ w'.ownsRow w.heap.size 5 1 v pss.flatten.length (pss.flatten.map (Value.int .u8)) ∧ Below w.heap.size w w' := by
  have HX : Hid (SeenP w ao n pss) := hx
  have HN : Hid (pss.length = n ∧ pss.flatten.length ≤ 35184372088832) := ⟨hx.len, hm⟩
  obtain ⟨i0, hi, hz0, hz1, hz2⟩ := info_parts info_byte
  clear hx hm
  go_enter Tryd.func51, Tryd.ntmps51
  go_wp2
  go_loopw [3, 4] (fun v i wr => ∃ k : Nat, k ≤ n ∧ i = .int .i64 k ∧ wr.ownsRow w.heap.size 5 1 v (pss.take k).flatten.length ((pss.take k).flatten.map (Value.int .u8)) ∧ Below w.heap.size w wr) (fun _ i _ => n - (intOf i).toNat)
  case atStart => exact ⟨0, Nat.zero_le _, rfl, World.ownsRow_nil _ _ _ _, Below.refl _ _⟩
  case round =>
    obtain ⟨k, hk, rfl, hown, hbel⟩ := hrel
    by_cases hlt : k < n
    · obtain ⟨b, o, so, cs, rfl, hb, hc, hs, hl⟩ := HX.out.cells k hlt
      have E1 := flat_succ pss k (by have := HN.out.1; omega)
      have M1 : (pss.take k).flatten.length + (pss.getD k []).length ≤ 35184372088832 := by
        have h2 := flat_le pss (k + 1)
        rw [E1, List.length_append] at h2
        have := HN.out.2
        omega
      obtain ⟨p, hp⟩ : ∃ p, pss.getD k [] = p := ⟨_, rfl⟩
      obtain ⟨m, hm⟩ : ∃ m, (pss.take k).flatten = m := ⟨_, rfl⟩
      rw [hp] at hc hs hl E1 M1
      rw [hm] at E1 M1 hown
      have HE : Hid ((pss.take (k + 1)).flatten = m ++ p ∧ m.length + p.length ≤ 35184372088832) := ⟨E1, M1⟩
      have HS : Hid (Seen w so p.length p) := hs
      have HC : Hid (w.cell? ⟨b, o + k, none⟩ = some (.slice so p.length cs) ∧ b < w.heap.size) := ⟨hc, hb⟩
      have HO : Hid (wr.ownsRow w.heap.size 5 1 u3 m.length (m.map (Value.int .u8)) ∧ Below w.heap.size w wr) := ⟨hown, hbel⟩
      have i1 : (0 : Int) ≤ (k : Int) := by omega
      have i2 : (k : Int) < (n : Int) := by omega
      have hpl : p.length ≤ 35184372088832 := by omega
      clear E1 M1 hc hs hl hown hbel hp hm
      obtain ⟨w3, rfl⟩ : ∃ w3, w3 = wr := ⟨_, rfl⟩
      go_wp2
      go_loopw [3, 5] (fun v i wr => ∃ j : Nat, j ≤ p.length ∧ i = .int .i64 j ∧ wr.ownsRow w.heap.size 5 1 v (m ++ p.take j).length ((m ++ p.take j).map (Value.int .u8)) ∧ Below w.heap.size w wr) (fun _ i _ => p.length - (intOf i).toNat)
      case atStart => exact ⟨0, Nat.zero_le _, rfl, by simpa using HO.out.1, HO.out.2⟩
      case round =>
        obtain ⟨j, hj, rfl, hown, hbel⟩ := hrel
        have c1 := (hbel.cell (p := ⟨b, o + k, none⟩) HC.out.2).trans HC.out.1
        by_cases hlt2 : j < p.length
        · obtain ⟨b2, o2, rfl, hb2, hc2⟩ := HS.out.cells (by omega)
          have c2 := (hbel.cell (p := ⟨b2, o2 + j, none⟩) hb2).trans (hc2 j hlt2)
          obtain ⟨Z, hZ⟩ : ∃ Z, p.getD j 0 = Z := ⟨_, rfl⟩
          rw [hZ] at c2
          have HZ : Hid (m ++ p.take (j + 1) = (m ++ p.take j) ++ [Z]) := by
            show _ = _
            rw [List.take_succ_eq_append_getElem hlt2, ← hZ, List.append_assoc]
            simp [List.getD, hlt2]
          have hql : (m ++ p.take j).length ≤ 35184372088832 := by have := HE.out.2; simp; omega
          have hsz := hbel.size
          have j1 : (0 : Int) ≤ (j : Int) := by omega
          have j2 : (j : Int) < (p.length : Int) := by omega
          obtain ⟨q, hq⟩ : ∃ q, m ++ p.take j = q := ⟨_, rfl⟩
          rw [hq] at hown HZ hql
          clear hZ hc2 hq
          go_wp2_with (at_builtin; refine wpList_append_own _ rfl _ _ 24 rfl w.heap.size 5 i0 (.int .u8 0) 1 1 Tryd.underlying24 hi hz0 hz1 hz2 rfl (by decide) _ _ _ rfl (hown.alloc _) ⟨wr.heap.size, 0, none⟩ 1 1 [.int .u8 Z] rfl rfl ?c1 ?c2 ?c3 ?c4 ?c5 ?_)
          case c1 => exact one_new _ _ _
          case c2 => intro u hu; simp at hu; subst hu; rfl
          case c3 => unfold maxLen; omega
          case c4 => omega
          case c5 => simp; omega
          · intro v' w1 hown' hgrow _
            have R := own_more hbel hown hown' hgrow
            clear hown' hgrow hown hbel c1 c2
            go_wp2
            go_roundw
            case rel => exact ⟨j + 1, by omega, by go_num, by rw [HZ.out]; exact R.1, R.2⟩
            case measure => simp [intOf] <;> omega
        · obtain rfl : j = p.length := by omega
          rw [List.take_length] at hown
          have HQ : Hid (wr.ownsRow w.heap.size 5 1 u3 (pss.take (k + 1)).flatten.length ((pss.take (k + 1)).flatten.map (Value.int .u8)) ∧ Below w.heap.size w wr) := by
            rw [HE.out.1]
            exact ⟨hown, hbel⟩
          clear hown hbel
          go_wp2
          exact ⟨⟨k + 1, by omega, by go_num, HQ.out.1, HQ.out.2⟩, by simp [intOf]; omega⟩
    · obtain rfl : k = n := by omega
      rw [List.take_of_length_le (by have := HN.out.1; omega)] at hown
      have HO : Hid (wr.ownsRow w.heap.size 5 1 u3 pss.flatten.length (pss.flatten.map (Value.int .u8)) ∧ Below w.heap.size w wr) := ⟨hown, hbel⟩
      clear hown hbel
      go_wp2
      go_ret
      exact ⟨_, rfl, HO.out⟩
/-- One list, two lists in a new row of headers. -/
theorem seenP1 (W : World) (s1 : Option Addr) (n1 c1 : Nat) (z1 : List Int) (h1 : Seen W s1 n1 z1) (l1 : n1 ≤ c1) :
    SeenP (W.alloc (.cells #[.slice s1 n1 c1] 24)) (some ⟨W.heap.size, 0, none⟩) 1 [z1] := by
  obtain rfl := h1.len
  have hb : Below W.heap.size W (W.alloc (.cells #[.slice s1 z1.length c1] 24)) := (Below.refl _ _).alloc (Nat.le_refl _) _
  have hh : (W.alloc (.cells #[.slice s1 z1.length c1] 24)).heap[W.heap.size]? = some (.cells [.slice s1 z1.length c1].toArray 24 (0, 0)) := heap_alloc_new W _
  refine ⟨rfl, fun i hi => ?_⟩
  obtain rfl : i = 0 := by omega
  exact ⟨_, 0, s1, c1, rfl, by simp, by rw [cell_of_row _ _ _ _ _ _ hh]; rfl, h1.later hb (Nat.le_refl _), l1⟩
theorem seenP2 (W : World) (s1 s2 : Option Addr) (n1 n2 c1 c2 : Nat) (z1 z2 : List Int) (h1 : Seen W s1 n1 z1) (h2 : Seen W s2 n2 z2) (l1 : n1 ≤ c1) (l2 : n2 ≤ c2) :
    SeenP (W.alloc (.cells #[.slice s1 n1 c1, .slice s2 n2 c2] 24)) (some ⟨W.heap.size, 0, none⟩) 2 [z1, z2] := by
  obtain rfl := h1.len
  obtain rfl := h2.len
  have hb : Below W.heap.size W (W.alloc (.cells #[.slice s1 z1.length c1, .slice s2 z2.length c2] 24)) := (Below.refl _ _).alloc (Nat.le_refl _) _
  have hh : (W.alloc (.cells #[.slice s1 z1.length c1, .slice s2 z2.length c2] 24)).heap[W.heap.size]? = some (.cells [.slice s1 z1.length c1, .slice s2 z2.length c2].toArray 24 (0, 0)) := heap_alloc_new W _
  refine ⟨rfl, fun i hi => ?_⟩
  rcases (by omega : i = 0 ∨ i = 1) with rfl | rfl
  · exact ⟨_, 0, s1, c1, rfl, by simp, by rw [cell_of_row _ _ _ _ _ _ hh]; rfl, h1.later hb (Nat.le_refl _), l1⟩
  · exact ⟨_, 0, s2, c2, rfl, by simp, by rw [cell_of_row _ _ _ _ _ _ hh]; rfl, h2.later hb (Nat.le_refl _), l2⟩
set_option maxRecDepth 20000 in
theorem two_any (ao bo : Option Addr) (n m c d : Nat) (zs ys : List Int) (w : World) (hx : Seen w ao n zs) (hy : Seen w bo m ys) (hc : n ≤ c) (hd : m ≤ d) (hm : n + m ≤ 35184372088832) :
    Calls Tryd.prog 59 #[.slice ao n c, .slice bo m d] w fun e w' => ∃ v, e = .returned v ∧ w'.ownsRow w.heap.size 5 1 v (zs ++ ys).length ((zs ++ ys).map (Value.int .u8)) ∧ Below w.heap.size w w' := by
  have HS : Hid (SeenP (w.alloc (.cells #[.slice ao n c, .slice bo m d] 24)) (some ⟨w.heap.size, 0, none⟩) 2 [zs, ys]) := seenP2 w ao bo n m c d zs ys hx hy hc hd
  have HE : Hid (([zs, ys] : List (List Int)).flatten = zs ++ ys ∧ (zs ++ ys).length ≤ 35184372088832) := ⟨by simp, by rw [List.length_append, hx.len, hy.len]; exact hm⟩
  have HB : Hid (Below w.heap.size w (w.alloc (.cells #[.slice ao n c, .slice bo m d] 24))) := (Below.refl _ _).alloc (Nat.le_refl _) _
  clear hx hy
  go_enter Tryd.func59, Tryd.ntmps59
  go_wp2_with fail
  refine (join_any _ 2 2 [zs, ys] _ HS.out (by decide) (by rw [HE.out.1]; exact HE.out.2)).mono ?_
  rintro e w1 ⟨v, rfl, o1, l1⟩
  rw [HE.out.1] at o1
  have o2 := ownsRow_base o1 HB.out.size
  have HO : Hid _ := o2
  have HL : Hid (Below w.heap.size w w1) := below_chain HB.out l1 HB.out.size
  clear o1 o2 l1
  go_wp2
  go_ret
  exact ⟨_, rfl, HO.out, HL.out⟩
end Go.Proofs.YtmgkjldjeomcmaaDoor
