/- Lists of lists in new memory; the document's Little and Join, up to the greatest lengths. -/
import Derived.Test.YtabdjoljdefjdaaRcMake
namespace Go.Proofs.Ytabdjoljdefjdaa
open Go.RowKit
set_option linter.unusedVariables false
set_option linter.unusedSimpArgs false

def isP (n : Nat) (pss : List (List Int)) (v : Value) (w : World) : Prop := ∃ b c, v = .slice (some ⟨b, 0, none⟩) n c ∧ SeenP w (some ⟨b, 0, none⟩) n pss
theorem isP_later (n : Nat) (pss : List (List Int)) : ∀ v w w', Below w.heap.size w w' → isP n pss v w → isP n pss v w' := fun _ _ _ hb ⟨b, c, h1, h2⟩ => ⟨b, c, h1, h2.later hb (Nat.le_refl _)⟩
theorem Does.run {base : Nat} {E : Exp} {ρ : Operand → Value} {o : Oper} {w w' : World} (v : Value) (h : (execOp ρ o).run Try.prog w = .ok (.value v) w') (hE : E.ok base v w') (hb : Below w.heap.size w w') : Does base E ρ o w := by
  unfold Does; rw [h]; exact ⟨hE, hb⟩
def hdr (x : Option Addr × Nat × Nat × List Int) : Value := .slice x.1 x.2.1 x.2.2.1
theorem seenPn (W : World) (l : List (Option Addr × Nat × Nat × List Int)) (h : ∀ x ∈ l, Seen W x.1 x.2.1 x.2.2.2 ∧ x.2.1 ≤ x.2.2.1) :
    SeenP (W.alloc (.cells (l.map hdr).toArray 27)) (some ⟨W.heap.size, 0, none⟩) l.length (l.map (·.2.2.2)) := by
  have hb : Below W.heap.size W (W.alloc (.cells (l.map hdr).toArray 27)) := (Below.refl _ _).alloc (Nat.le_refl _) _
  have hh : (W.alloc (.cells (l.map hdr).toArray 27)).heap[W.heap.size]? = some (.cells (l.map hdr).toArray 27 (0, 0)) := heap_alloc_new W _
  refine ⟨by simp, fun i hi => ?_⟩
  have hx := h l[i] (List.getElem_mem hi)
  have e : (l.map (·.2.2.2)).getD i [] = l[i].2.2.2 := by simp [List.getD, hi]
  have el : l[i].2.2.2.length = l[i].2.1 := hx.1.len
  rw [e, el]
  refine ⟨_, 0, l[i].1, l[i].2.2.1, rfl, by simp, ?_, hx.1.later hb (Nat.le_refl _), hx.2⟩
  rw [cell_of_row _ _ _ _ _ _ hh]
  simp [hi, hdr]
theorem bs5 (s1 s2 s3 s4 s5 : Option Addr) (n1 n2 n3 n4 n5 c1 c2 c3 c4 c5 : Nat) (w : World) : (Instr.buildSlice 32 5 #[(0, .slice s1 n1 c1), (1, .slice s2 n2 c2), (2, .slice s3 n3 c3), (3, .slice s4 n4 c4), (4, .slice s5 n5 c5)]).run Try.prog w = .ok (.slice (some ⟨w.heap.size, 0, none⟩) 5 5) (w.alloc (.cells #[.slice s1 n1 c1, .slice s2 n2 c2, .slice s3 n3 c3, .slice s4 n4 c4, .slice s5 n5 c5] 27)) := by kernel_rfl
theorem Does.rows5 {base : Nat} {ρ : Operand → Value} {o : Oper} {w : World} (parts : Array (Nat × Operand)) (ho : o.op = .buildSlice 32 5 parts) (s1 s2 s3 s4 s5 : Option Addr) (n1 n2 n3 n4 n5 c1 c2 c3 c4 c5 : Nat) (z1 z2 z3 z4 z5 : List Int) (hp : (parts.map fun (i, x) => (i, ρ x)) = #[(0, .slice s1 n1 c1), (1, .slice s2 n2 c2), (2, .slice s3 n3 c3), (3, .slice s4 n4 c4), (4, .slice s5 n5 c5)])
    (h1 : Seen w s1 n1 z1 ∧ n1 ≤ c1) (h2 : Seen w s2 n2 z2 ∧ n2 ≤ c2) (h3 : Seen w s3 n3 z3 ∧ n3 ≤ c3) (h4 : Seen w s4 n4 z4 ∧ n4 ≤ c4) (h5 : Seen w s5 n5 z5 ∧ n5 ≤ c5) : Does base (.any (isP 5 [z1, z2, z3, z4, z5]) (isP_later _ _)) ρ o w := by
  refine Does.run (.slice (some ⟨w.heap.size, 0, none⟩) 5 5) (w' := w.alloc (.cells #[.slice s1 n1 c1, .slice s2 n2 c2, .slice s3 n3 c3, .slice s4 n4 c4, .slice s5 n5 c5] 27)) ?_ ⟨_, _, rfl, ?_⟩ ((Below.refl _ _).alloc (Nat.le_refl _) _)
  · unfold execOp
    simp only [ho, hp, Sem.run_bind, bs5, Sem.run_pure, Result.andThen_ok]
  · exact seenPn w [(s1, n1, c1, z1), (s2, n2, c2, z2), (s3, n3, c3, z3), (s4, n4, c4, z4), (s5, n5, c5, z5)] (fun x hx => by
      simp only [List.mem_cons, List.not_mem_nil, or_false] at hx
      rcases hx with rfl | rfl | rfl | rfl | rfl
      · exact h1
      · exact h2
      · exact h3
      · exact h4
      · exact h5)
def isS (zs : List Int) (v : Value) (w : World) : Prop := ∃ vo n c, v = .slice vo n c ∧ Seen w vo n zs ∧ n ≤ c
theorem isS_later (zs : List Int) : ∀ v w w', Below w.heap.size w w' → isS zs v w → isS zs v w' := fun _ _ _ hb ⟨b, o, c, h1, h2, h3⟩ => ⟨b, o, c, h1, h2.later hb (Nat.le_refl _), h3⟩
set_option maxRecDepth 20000 in
set_option maxHeartbeats 1000000 in
theorem rlit_any (x : Int) (hx : 0 ≤ x ∧ x < 18446744073709551616) (m : Nat) (hm : m ≤ 8) (w : World) :
    Calls Try.prog 36 #[.int .u64 x, .int .i64 m] w fun e w' => ∃ v, e = .returned v ∧ w'.ownsRow w.heap.size 5 1 v m ((leB m x).map (Value.int .u8)) ∧ Below w.heap.size w w' := by
  obtain ⟨i0, hi, hz0, hz1, hz2⟩ := info_parts info_byte
  have HL : Hid ((leB m x).length = m ∧ ∀ k, k < m → (leB m x).getD k 0 = x / 2 ^ (8 * k) % 256) := ⟨leB_length _ _, fun k hk => by rw [leB_at _ _ _ hk, byteAt_eq]⟩
  generalize leB m x = zs at *
  go_enter Try.func36, Try.ntmps36
  go_wp2_with fail
  go_loopw [5, 6] (fun v i wr => ∃ k : Nat, k ≤ m ∧ i = .int .i64 k ∧ wr.ownsRow w.heap.size 5 1 v k ((zs.map (Value.int .u8)).take k) ∧ Below w.heap.size w wr) (fun _ i _ => m - (intOf i).toNat)
  case atStart => exact ⟨0, Nat.zero_le _, rfl, World.ownsRow_nil _ _ _ _, Below.refl _ _⟩
  case round =>
    obtain ⟨k, hk, rfl, hown, hbel⟩ := hrel
    have hsz := hbel.size
    by_cases hlt : k < m
    · have HZ : Hid (zs.getD k 0 = x / 2 ^ (8 * k) % 256) := HL.out.2 k hlt
      have i1 : (k : Int) < (m : Int) := by omega
      have i2 : (0 : Int) ≤ (k : Int) := by omega
      go_wp2_with (at_builtin; refine wpList_append_own _ rfl _ _ 27 rfl w.heap.size 5 i0 (.int .u8 0) 1 1 Try.underlying27 hi hz0 hz1 hz2 rfl (by decide) _ _ _ rfl (hown.alloc _) ⟨wr.heap.size, 0, none⟩ 1 1 [.int .u8 (x / 2 ^ (8 * k) % 256)] rfl rfl ?c1 ?c2 ?c3 ?c4 ?c5 ?_)
      try case c1 => exact one_new _ _ _
      case c2 => first | rfl | (intro u hu; simp at hu; subst hu; rfl)
      case c3 => unfold maxLen; omega
      case c4 => omega
      case c5 => first | omega | (simp; omega)
      · intro v' w1 hown' hgrow _
        have R := step_own hbel hown (by rw [HL.out.1]; exact hlt) HZ.out hown' hgrow
        clear hown' hgrow hown hbel
        go_wp2_with fail
        exact ⟨⟨k + 1, by omega, by go_num, R.1, R.2⟩, by simp [intOf]; omega⟩
    · obtain rfl : m = k := by omega
      have HO : Hid (wr.ownsRow w.heap.size 5 1 u5 m (zs.map (Value.int .u8)) ∧ Below w.heap.size w wr) := ⟨by have h := hown; rwa [List.take_of_length_le (by simp [HL.out.1])] at h, hbel⟩
      clear hown hbel
      go_wp2_with fail
      go_ret
      exact ⟨_, rfl, HO.out⟩
set_option maxHeartbeats 1000000 in
set_option maxRecDepth 20000 in
theorem joinB_any (ao : Option Addr) (n c : Nat) (pss : List (List Int)) (w : World) (hx : SeenP w ao n pss) (hn : n ≤ 140737488355328) (hm : pss.flatten.length ≤ 140737488355200) :
    Calls Try.prog 35 #[.slice ao n c] w fun e w' => ∃ v, e = .returned v ∧ w'.ownsRow w.heap.size 5 1 v pss.flatten.length (pss.flatten.map (Value.int .u8)) ∧ Below w.heap.size w w' := by
  have HX : Hid (SeenP w ao n pss) := hx
  have HN : Hid (pss.length = n ∧ pss.flatten.length ≤ 140737488355200) := ⟨hx.len, hm⟩
  obtain ⟨i0, hi, hz0, hz1, hz2⟩ := info_parts info_byte
  clear hx hm
  go_enter Try.func35, Try.ntmps35
  go_wp2
  go_loopw [3, 4] (fun v i wr => ∃ k : Nat, k ≤ n ∧ i = .int .i64 k ∧ wr.ownsRow w.heap.size 5 1 v (pss.take k).flatten.length ((pss.take k).flatten.map (Value.int .u8)) ∧ Below w.heap.size w wr) (fun _ i _ => n - (intOf i).toNat)
  case atStart => exact ⟨0, Nat.zero_le _, rfl, World.ownsRow_nil _ _ _ _, Below.refl _ _⟩
  case round =>
    obtain ⟨k, hk, rfl, hown, hbel⟩ := hrel
    by_cases hlt : k < n
    · obtain ⟨b, o, so, cs, rfl, hb, hc, hs, hl⟩ := HX.out.cells k hlt
      have E1 := flat_succ pss k (by have := HN.out.1; omega)
      have M1 : (pss.take k).flatten.length + (pss.getD k []).length ≤ 140737488355200 := by
        have h2 := flat_le pss (k + 1)
        rw [E1, List.length_append] at h2
        have := HN.out.2
        omega
      obtain ⟨p, hp⟩ : ∃ p, pss.getD k [] = p := ⟨_, rfl⟩
      obtain ⟨m, hm⟩ : ∃ m, (pss.take k).flatten = m := ⟨_, rfl⟩
      rw [hp] at hc hs hl E1 M1
      rw [hm] at E1 M1 hown
      have HE : Hid ((pss.take (k + 1)).flatten = m ++ p ∧ m.length + p.length ≤ 140737488355200) := ⟨E1, M1⟩
      have HS : Hid (Seen w so p.length p) := hs
      have HC : Hid (w.cell? ⟨b, o + k, none⟩ = some (.slice so p.length cs) ∧ b < w.heap.size) := ⟨hc, hb⟩
      have HO : Hid (wr.ownsRow w.heap.size 5 1 u3 m.length (m.map (Value.int .u8)) ∧ Below w.heap.size w wr) := ⟨hown, hbel⟩
      have i1 : (0 : Int) ≤ (k : Int) := by omega
      have i2 : (k : Int) < (n : Int) := by omega
      have hpl : p.length ≤ 140737488355200 := by omega
      clear E1 M1 hc hs hl hown hbel hp hm
      obtain ⟨w3, rfl⟩ : ∃ w3, w3 = wr := ⟨_, rfl⟩
      go_wp2
      go_loopw [3, 5] (fun v i wr => ∃ j : Nat, j ≤ p.length ∧ i = .int .i64 j ∧ wr.ownsRow w.heap.size 5 1 v (m ++ p.take j).length ((m ++ p.take j).map (Value.int .u8)) ∧ Below w.heap.size w wr) (fun _ i _ => p.length - (intOf i).toNat)
      case atStart => exact ⟨0, Nat.zero_le _, rfl, by simpa using HO.out.1, HO.out.2⟩
      case round =>
        obtain ⟨j, hj, rfl, hown, hbel⟩ := hrel
        have c1 := (hbel.cell (p := ⟨b, o + k, none⟩) HC.out.2).trans HC.out.1
        by_cases hlt2 : j < p.length
        · obtain ⟨b2, o2, rfl, hb2, hc2⟩ := HS.out.cells (by omega)
          have c2 := (hbel.cell (p := ⟨b2, o2 + j, none⟩) hb2).trans (hc2 j hlt2)
          obtain ⟨Z, hZ⟩ : ∃ Z, p.getD j 0 = Z := ⟨_, rfl⟩
          rw [hZ] at c2
          have HZ : Hid (m ++ p.take (j + 1) = (m ++ p.take j) ++ [Z]) := by
            show _ = _
            rw [List.take_succ_eq_append_getElem hlt2, ← hZ, List.append_assoc]
            simp [List.getD, hlt2]
          have hql : (m ++ p.take j).length ≤ 140737488355200 := by have := HE.out.2; simp; omega
          have hsz := hbel.size
          have j1 : (0 : Int) ≤ (j : Int) := by omega
          have j2 : (j : Int) < (p.length : Int) := by omega
          obtain ⟨q, hq⟩ : ∃ q, m ++ p.take j = q := ⟨_, rfl⟩
          rw [hq] at hown HZ hql
          clear hZ hc2 hq
          go_wp2_with (at_builtin; refine wpList_append_own _ rfl _ _ 27 rfl w.heap.size 5 i0 (.int .u8 0) 1 1 Try.underlying27 hi hz0 hz1 hz2 rfl (by decide) _ _ _ rfl (hown.alloc _) ⟨wr.heap.size, 0, none⟩ 1 1 [.int .u8 Z] rfl rfl ?c1 ?c2 ?c3 ?c4 ?c5 ?_)
          case c1 => exact one_new _ _ _
          case c2 => intro u hu; simp at hu; subst hu; rfl
          case c3 => unfold maxLen; omega
          case c4 => omega
          case c5 => simp; omega
          · intro v' w1 hown' hgrow _
            have R := own_more hbel hown hown' hgrow
            clear hown' hgrow hown hbel c1 c2
            go_wp2
            go_roundw
            case rel => exact ⟨j + 1, by omega, by go_num, by rw [HZ.out]; exact R.1, R.2⟩
            case measure => simp [intOf] <;> omega
        · obtain rfl : j = p.length := by omega
          rw [List.take_length] at hown
          have HQ : Hid (wr.ownsRow w.heap.size 5 1 u3 (pss.take (k + 1)).flatten.length ((pss.take (k + 1)).flatten.map (Value.int .u8)) ∧ Below w.heap.size w wr) := by
            rw [HE.out.1]
            exact ⟨hown, hbel⟩
          clear hown hbel
          go_wp2
          exact ⟨⟨k + 1, by omega, by go_num, HQ.out.1, HQ.out.2⟩, by simp [intOf]; omega⟩
    · obtain rfl : k = n := by omega
      rw [List.take_of_length_le (by have := HN.out.1; omega)] at hown
      have HO : Hid (wr.ownsRow w.heap.size 5 1 u3 pss.flatten.length (pss.flatten.map (Value.int .u8)) ∧ Below w.heap.size w wr) := ⟨hown, hbel⟩
      clear hown hbel
      go_wp2
      go_ret
      exact ⟨_, rfl, HO.out⟩
end Go.Proofs.Ytabdjoljdefjdaa
