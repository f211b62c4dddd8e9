/- Layer host: New, Log, Lies. -/
import Derived.Test.YtobcolpdkcppoaaHNew
namespace Go.Proofs.Ytobcolpdkcppoaa
open Go.RowKit
set_option linter.unusedVariables false
set_option linter.unusedSimpArgs false

def newS (pages size : Nat) (fs : List Fl) : HSt := ⟨size, pages, (depL fs).toNat, 0, 0, [], false, comeL fs, fun _ => []⟩
def fitsP (pages size : Int) : Prop := 0 ≤ pages ∧ pages ≤ 65536 ∧ 1 ≤ size ∧ size ≤ 4124
theorem mk_rows (n : Nat) (hn : n ≤ 1048576) (w : World) : (Instr.makeSlice 89 (.int .i64 (n : Int)) (.int .i64 (n : Int))).run Try.prog w = .ok (.slice (some ⟨w.heap.size, 0, none⟩) n n) (w.alloc (.cells (madeCells #[.slice none 0 0] n) 67)) :=
  run_make_row' 89 67 (.slice none 0 0) 24 Try.underlying89 info_rows rfl .i64 .i64 n (by omega) (by omega) w
theorem build_host (sz d : Int) (a : Option Addr) (n c gm : Nat) (w : World) : (Instr.build 91 #[(0, .int .i64 sz), (1, .slice a n c), (2, .int .i64 d), (4, .map (some gm))]).run Try.prog w = .ok (.agg #[.int .i64 sz, .slice a n c, .int .i64 d, .int .u64 0, .map (some gm), .int .i64 0, .slice none 0 0, .bool false]) w := by kernel_rfl
set_option maxRecDepth 20000 in
set_option maxHeartbeats 2000000 in
theorem new_bad (pages size : Int) (v : Value) (fs : List Fl) (M : Nat → Prop) (w : World) (x : FlS w M v fs) (hb : ¬ (fitsP pages size ∧ known fs = true)) :
    Calls Try.prog 11 #[.int .i64 pages, .int .i64 size, v] w fun e w' => e = .returned (.tuple #[.pointer none, .int .i64 2]) ∧ Below w.heap.size w w' := by
  have CK := allKnown_any v fs M w x
  clear x
  rcases (show pages < 0 ∨ (0 ≤ pages ∧ 65536 < pages) ∨ (0 ≤ pages ∧ pages ≤ 65536 ∧ size < 1) ∨ (0 ≤ pages ∧ pages ≤ 65536 ∧ 1 ≤ size ∧ 4124 < size) ∨ ((0 ≤ pages ∧ pages ≤ 65536 ∧ 1 ≤ size ∧ size ≤ 4124) ∧ known fs = false) from by
    cases hk : known fs <;> simp only [fitsP, hk, and_true, and_false, not_false_eq_true] at hb <;> simp <;> omega) with h | ⟨h, h1⟩ | ⟨h, h1, h2⟩ | ⟨h, h1, h2, h3⟩ | ⟨⟨h, h1, h2, h3⟩, hk⟩
  · clear CK hb
    go_enter Try.func11, Try.ntmps11
    go_wp2_with fail
    go_ret2
    exact ⟨rfl, Below.refl _ _⟩
  · clear CK hb
    go_enter Try.func11, Try.ntmps11
    go_wp2_with fail
    go_ret2
    exact ⟨rfl, Below.refl _ _⟩
  · clear CK hb
    go_enter Try.func11, Try.ntmps11
    go_wp2_with fail
    go_ret2
    exact ⟨rfl, Below.refl _ _⟩
  · clear CK hb
    go_enter Try.func11, Try.ntmps11
    go_wp2_with fail
    go_ret2
    exact ⟨rfl, Below.refl _ _⟩
  · rw [hk] at CK
    clear hk hb
    go_enter Try.func11, Try.ntmps11
    go_wp2_with (go_at_call 44; refine CK.mono ?_; rintro e w1 ⟨rfl, l1⟩)
    go_ret2
    exact ⟨rfl, l1⟩
set_option maxRecDepth 20000 in
set_option maxHeartbeats 2000000 in
theorem new_good (pages size : Nat) (v : Value) (fs : List Fl) (M : Nat → Prop) (w : World) (x : FlS w M v fs) (hM : ∀ k, M k → k < w.heap.size) (hlen : fs.length * 48 ≤ 140737488355328) (hp : pages ≤ 65536) (hs : 1 ≤ size ∧ size ≤ 4124) (hk : known fs = true) :
    Calls Try.prog 11 #[.int .i64 pages, .int .i64 size, v] w fun e w' => ∃ h, e = .returned (.tuple #[.pointer (some ⟨h, 0, none⟩), .int .i64 0]) ∧ HostAt w' (fun k => w.heap.size ≤ k ∧ k < w'.heap.size) h (newS pages size fs) ∧ Below w.heap.size w w' := by
  have CK := allKnown_any v fs M w x
  rw [hk] at CK
  have CB : Hid (∀ w1, Below w.heap.size w w1 → Calls Try.prog 45 #[v] w1 fun e w' => ∃ gm n D, e = .returned (.tuple #[.map (some gm), .int .i64 (depL fs)]) ∧ Groups w' gm n D (comeL fs) (w1.heap.size + 1) ∧ gm = w1.heap.size ∧ Below w1.heap.size w1 w') := fun w1 l1 =>
    byOp_any v fs M w1 (x.frame (Same.below l1 hM)) hlen
  have mk := mk_rows pages (by omega)
  have hdb := depL_bd fs x.good
  obtain ⟨dp, hdp⟩ : ∃ q, depL fs = q := ⟨_, rfl⟩
  rw [hdp] at CB hdb
  have X : Hid (FlS w M v fs ∧ depL fs = dp ∧ pages ≤ 65536 ∧ (1 ≤ size ∧ size ≤ 4124)) := ⟨x, hdp, hp, hs⟩
  have i1 : (0 : Int) ≤ (pages : Int) := by omega
  have i2 : (pages : Int) ≤ 65536 := by omega
  have i3 : (1 : Int) ≤ (size : Int) := by omega
  have i4 : (size : Int) ≤ 4124 := by omega
  have FIN : Hid (∀ w1 w2 w3 w4 gm n D, Below w.heap.size w w1 → Groups w2 gm n D (comeL fs) (w1.heap.size + 1) → gm = w1.heap.size → Below w1.heap.size w1 w2 → w3 = w2.alloc (.cells (madeCells #[.slice none 0 0] pages) 67) → Blk w4 w3.heap.size 91 [.int .i64 size, .slice (some ⟨w2.heap.size, 0, none⟩) pages pages, .int .i64 dp, .int .u64 0, .map (some gm), .int .i64 0, .slice none 0 0, .bool false] → Below w3.heap.size w3 w4 → w4.heap.size = w3.heap.size + 1 → HostAt w4 (fun k => w.heap.size ≤ k ∧ k < w4.heap.size) w3.heap.size (newS pages size fs) ∧ Below w.heap.size w w4) := fun w1 w2 w3 w4 gm n D l1 G2 hgm l2 hw3 b4 l4 s4 => by
    have l3 : Below w2.heap.size w2 w3 := by rw [hw3]; exact (Below.refl _ _).alloc (Nat.le_refl _) _
    have s3 : w3.heap.size = w2.heap.size + 1 := by rw [hw3]; simp
    have b3 : Blk w3 w2.heap.size 67 (List.replicate pages (.slice none 0 0)) := by rw [hw3]; exact made_blk _ _ _ _
    have l24 : Below w2.heap.size w2 w4 := below_chain l3 l4 (by omega)
    have G4 := G2.later l24
    have := l1.size; have := l2.size
    have hgl := G2.map.lt
    have rep : ∀ p, (List.replicate pages (Value.slice none 0 0)).getD p (.slice none 0 0) = .slice none 0 0 := fun p => by
      by_cases h : p < pages <;> simp [List.getD, List.getElem?_replicate, h]
    refine ⟨⟨w2.heap.size, gm, .slice none 0 0, List.replicate pages (.slice none 0 0), n, D, ⟨⟨X.out.2.2.2, X.out.2.2.1, ?_, ?_, Nat.zero_le _, Nat.le_refl _, fun p => Nat.le_refl _, fun p z hz => (by cases hz)⟩, ?_, b3.later l4 (by omega), by simp [newS], ⟨by omega, by omega⟩, ⟨by omega, by omega⟩, ⟨by omega, by omega⟩, G4.map, fun k => ?_, ⟨fun t ht => (by cases ht), World.ownsRow_nil _ _ _ _, fun g hg => (by cases hg)⟩, fun p hp => ?_, fun p q hpq hq g hg => ?_, fun k hk => hk.2⟩⟩, below_chain (below_chain l1 l2 l1.size) l24 (by omega)⟩
    · show (depL fs).toNat ≤ 9223372036854775807
      rw [X.out.2.1]; omega
    · exact ⟨Int.le_refl _, show (0 : Int) < 18446744073709551616 by decide⟩
    · have e : hostC (newS pages size fs) w2.heap.size gm (.slice none 0 0) = [.int .i64 size, .slice (some ⟨w2.heap.size, 0, none⟩) pages pages, .int .i64 dp, .int .u64 0, .map (some gm), .int .i64 0, .slice none 0 0, .bool false] := by
        have : (((depL fs).toNat : Nat) : Int) = dp := by rw [X.out.2.1]; omega
        simp only [hostC, newS, this]
        rfl
      rw [e]; exact b4
    · exact G4.seen _ (fun g h1 h2 => ⟨by omega, h2⟩) k (comeL_good X.out.1.good k) (Nat.le_trans (comeL_length fs k) X.out.1.top)
    · rw [rep]; exact .inl ⟨rfl, rfl⟩
    · rw [rep] at hg; cases hg
  clear x hk hp hs hlen hM hdp
  go_enter Try.func11, Try.ntmps11
  go_wp2_with (first | (go_at_call 44; refine CK.mono ?_; rintro e w1 ⟨rfl, l1⟩) | (go_at_call 45; refine (CB.out w1 l1).mono ?_; rintro e w2 ⟨gm, n, D, rfl, G2, hgm, l2⟩; have HH : Hid (Groups w2 gm n D (comeL fs) (w1.heap.size + 1) ∧ gm = w1.heap.size ∧ Below w1.heap.size w1 w2 ∧ Below w.heap.size w w1) := ⟨G2, hgm, l2, l1⟩; clear G2 hgm l2 l1) | ((with_reducible show wpList _ _ _ (({ dst := some 39, op := _, type := _, pos := _, after := _, guard := _ } : Oper) :: _) _ _); refine wpList_build rfl 91 _ rfl #[(0, .int .i64 size), (1, .slice (some ⟨w2.heap.size, 0, none⟩) pages pages), (2, .int .i64 dp), (4, .map (some gm))] (by simp [Act.eval]) _ (build_host _ _ _ _ _ _ _) ?_) | (refine wpList_box_new rfl 91 _ rfl [.int .i64 size, .slice (some ⟨w2.heap.size, 0, none⟩) pages pages, .int .i64 dp, .int .u64 0, .map (some gm), .int .i64 0, .slice none 0 0, .bool false] rfl ?_; intro w4 b4 s4 l4; have q4 := FIN.out w1 w2 _ w4 gm n D HH.out.2.2.2 HH.out.1 HH.out.2.1 HH.out.2.2.1 rfl b4 l4 s4; have Q4 : Hid (HostAt w4 (fun k => w.heap.size ≤ k ∧ k < w4.heap.size) (w2.alloc (.cells (madeCells #[.slice none 0 0] pages) 67)).heap.size (newS pages size fs) ∧ Below w.heap.size w w4) := q4; clear q4 b4 s4 l4))
  go_ret2
  exact ⟨_, rfl, by simpa using Q4.out.1, Q4.out.2⟩
theorem own_made_t (w : World) : (w.alloc (.cells #[] 49)).ownsRow w.heap.size 49 15 (.slice (some ⟨w.heap.size, 0, none⟩) 0 0) 0 [] :=
  World.ownsRow_made w _ 0 (Nat.le_refl _) (Nat.zero_le _) rfl
set_option maxRecDepth 20000 in
set_option maxHeartbeats 1000000 in
theorem cloneT_any (v : Value) (l : List Tc) (M : Nat → Prop) (w : World) (x : LogS w M v l) (hl : l.length ≤ 3000000000000) : Calls Try.prog 46 #[v] w fun e w' => ∃ v', e = .returned v' ∧ w'.ownsRow w.heap.size 49 15 v' l.length (l.flatMap tcC) ∧ Below w.heap.size w w' := by
  obtain ⟨i0, hi, hz0, hz1, hz2⟩ := info_parts info_tc
  have ho := x.own
  rcases x.own.2 with ⟨rfl, h0⟩ | ⟨g, cap, cur, rfl, _, hh, hc, hm, hs, ht⟩
  · obtain rfl : l = [] := List.length_eq_zero_iff.1 h0
    have hq : ∀ wx, (binOp .eql 41 (.slice none 0 0) (.slice none 0 0)).run Try.prog wx = .ok (.bool true) wx := fun wx => Lib.run_eql_slice_nil wx 41 49 none 0 0 0 0 Try.underlying41
    clear ho x
    go_enter Try.func46, Try.ntmps46
    go_wp2
    go_ret
    exact ⟨_, rfl, World.ownsRow_nil _ _ _ _, Below.refl _ _⟩
  · have hb1 : Below w.heap.size w (w.alloc (.cells #[] 49)) := (Below.refl _ _).alloc (Nat.le_refl _) _
    have ho1 := own_made_t w
    have gl : g < w.heap.size := lt_of_block hh
    have HNW : Hid (∀ j u, (l.flatMap tcC)[j]? = some u → (w.alloc (.cells #[] 49)).cell? ((⟨g, 0, none⟩ : Addr).add j) = some u) := fun j u hu => by
      have := ho.cells (g := g) rfl j u hu
      rw [add_mid] at this ⊢
      exact (hb1.cell (p := ⟨g, 0 + j, none⟩) gl).trans this
    have HL : Hid ((l.flatMap tcC).length = l.length * 15) := ho.1
    have H1 : Hid (∀ u ∈ l.flatMap tcC, u.oneCell' = true) := fun u hu => by
      obtain ⟨t, _, h2⟩ := List.mem_flatMap.1 hu
      exact tcC_one t u h2
    have hq : ∀ wx, (binOp .eql 41 (.slice (some ⟨g, 0, none⟩) l.length cap) (.slice none 0 0)).run Try.prog wx = .ok (.bool false) wx := fun wx => Lib.run_eql_slice_nil wx 41 49 (some ⟨g, 0, none⟩) l.length cap 0 0 Try.underlying41
    obtain ⟨n, hn⟩ : ∃ n, l.length = n := ⟨_, rfl⟩
    rw [hn] at hq HL hl ⊢
    clear ho x hh hc hm hs ht hn
    go_enter Try.func46, Try.ntmps46
    go_wp2_with (at_builtin; refine wpList_append_own _ rfl _ _ 41 rfl w.heap.size 49 i0 (.agg (tcC default).toArray) 15 40 Try.underlying41 hi hz0 hz1 hz2 rfl (by decide) _ 0 [] rfl ho1 ⟨g, 0, none⟩ n cap (l.flatMap tcC) rfl HL.out HNW.out H1.out ?c3 ?c4 hb1.size ?_)
    case c3 => unfold maxLen; omega
    case c4 => omega
    · intro v' w1 hown hgrow _
      have R : Hid (Below w.heap.size w w1) := hb1.grown hgrow hb1.size (fun j hj => (ho1.lt j hj).1)
      try simp only [Nat.zero_add, List.nil_append] at hown
      have HO : Hid (w1.ownsRow w.heap.size 49 15 v' n (l.flatMap tcC)) := hown
      clear hown hgrow ho1
      go_wp2
      go_ret
      exact ⟨_, rfl, HO.out, R.out⟩
theorem log_any (h : Nat) (s : HSt) (M : Nat → Prop) (w : World) (x : HostAt w M h s) : Calls Try.prog 17 #[.pointer (some ⟨h, 0, none⟩)] w fun e w' => ∃ v', e = .returned v' ∧ w'.ownsRow w.heap.size 49 15 v' s.log.length (s.log.flatMap tcC) ∧ Below w.heap.size w w' := by
  obtain ⟨gl, gm, lg, rws, n, D, x⟩ := x
  have c6 : w.cell? ⟨h, 6, none⟩ = some lg := x.blk.cell 6
  have C := cloneT_any lg s.log M w x.log (by have := x.good.log; have := x.good.ops; omega)
  obtain ⟨a, m, c, rfl⟩ := own_slice x.log.own
  clear x
  go_enter Try.func17, Try.ntmps17
  go_wp2_with (go_at_call 46; refine C.mono ?_; rintro e w1 ⟨v', rfl, o1, l1⟩)
  go_ret
  exact ⟨_, rfl, o1, l1⟩
theorem lies_bad (h : Nat) (s : HSt) (p : Int) (M : Nat → Prop) (w : World) (x : HostAt w M h s) (hb : hasP s p = false) : Calls Try.prog 26 #[.pointer (some ⟨h, 0, none⟩), .int .i64 p] w fun e w' => e = .returned (.slice none 0 0) ∧ w = w' := by
  have C := checkH_any h s p M w x
  rw [hb] at C
  clear x hb
  go_enter Try.func26, Try.ntmps26
  go_wp2_with (go_at_call 47; refine C.mono ?_; rintro e _ ⟨rfl, rfl⟩)
  go_ret
  exact ⟨rfl, rfl⟩
theorem lies_good (h : Nat) (s : HSt) (p : Nat) (hp : p < s.pages) (M : Nat → Prop) (w : World) (x : HostAt w M h s) : Calls Try.prog 26 #[.pointer (some ⟨h, 0, none⟩), .int .i64 p] w fun e w' => ∃ v, e = .returned v ∧ NewB w w' v (agoL s p 0) ∧ Below w.heap.size w w' := by
  have hpt : hasP s p = true := by simp [hasP]; omega
  have C := checkH_any h s p M w x
  rw [hpt] at C
  have CA := ago_any h s p 0 hp (by decide) M w x
  clear x hpt
  go_enter Try.func26, Try.ntmps26
  go_wp2_with (first | (go_at_call 47; refine C.mono ?_; rintro e _ ⟨rfl, rfl⟩) | (go_at_call 48; refine CA.mono ?_; rintro e w1 ⟨v, rfl, n1, l1⟩))
  go_ret
  exact ⟨_, rfl, n1, l1⟩
end Go.Proofs.Ytobcolpdkcppoaa
