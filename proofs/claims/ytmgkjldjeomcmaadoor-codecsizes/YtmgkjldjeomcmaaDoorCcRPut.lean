/- Layer codec: the document's PutConfig. -/
import Derived.Test.YtmgkjldjeomcmaaDoorCcRSiz
import Derived.Test.YtmgkjldjeomcmaaDoorCcPut
namespace Go.Proofs.YtmgkjldjeomcmaaDoor
open Go.RowKit
set_option linter.unusedVariables false
set_option linter.unusedSimpArgs false


theorem info_row8 : (Tryd.prog.info? 24).map (fun i => (i.zero, i.size, i.bytes)) = some (some (.slice none 0 0), 1, 24) := by kernel_rfl
theorem one_new8 (w : World) (x : Value) : ∀ j u, [x][j]? = some u → (w.alloc (.cells #[x] 24)).cell? ((⟨w.heap.size, 0, none⟩ : Addr).add j) = some u := by
  intro j u hj
  have hlt : j = 0 := by
    rcases Nat.eq_zero_or_pos j with h | h
    · exact h
    · rw [List.getElem?_eq_none (by simp; omega)] at hj; cases hj
  subst hlt
  simp at hj
  subst hj
  rw [add_at, Nat.zero_add, cell_of_row _ _ 0 _ 24 (0, 0) (heap_alloc_new w _)]
  rfl
theorem own_some8 {w : World} {base : Nat} {v : Value} {n : Nat} {zs : List Int} (h : w.ownsRow base 5 1 v n (zs.map (Value.int .u8))) (hl : zs.length = n) (hb : Bytes zs) (ht : n ≤ 140737488355328) (h0 : 0 < n) : ∃ b c, v = .slice (some ⟨b, 0, none⟩) n c ∧ Seen w (some ⟨b, 0, none⟩) n zs ∧ n ≤ c ∧ base ≤ b := by
  rcases h.2 with ⟨rfl, h1⟩ | ⟨g, cap, cur, rfl, hg, hh, hc, _⟩
  · omega
  · refine ⟨g, cap, rfl, ⟨hl, ht, hb, fun _ => ⟨g, 0, rfl, lt_of_block hh, fun i hi => ?_⟩⟩, hc, hg⟩
    rw [Nat.zero_add, h.cellAt i (by omega)]
    simp [List.getD, hl ▸ hi]
/-- A list of lists that grows: m rows R, in memory that is new from B on. -/
structure LgA (w : World) (B m : Nat) (R : Nat → List Int) (v : Value) (vals : List Value) : Prop where
  len : vals.length = m
  own : w.ownsRow B 24 1 v m vals
  at_ : ∀ i, i < m → ∃ b n c, vals[i]? = some (.slice (some ⟨b, 0, none⟩) n c) ∧ Seen w (some ⟨b, 0, none⟩) n (R i) ∧ n ≤ c ∧ 0 < n ∧ v.ownBlock ≠ some b
theorem LgA.nil (w : World) (B : Nat) (R : Nat → List Int) : LgA w B 0 R (.slice none 0 0) [] := ⟨rfl, World.ownsRow_nil _ _ _ _, fun i hi => by omega⟩
theorem LgA.later {w w' : World} {B m : Nat} {R : Nat → List Int} {v : Value} {vals : List Value} (x : LgA w B m R v vals) (hb : Below w.heap.size w w') : LgA w' B m R v vals :=
  ⟨x.len, own_block x.own (fun j hj => hb.block j (x.own.lt j hj).2), fun i hi => by
    obtain ⟨b, n, c, h1, h2, h3, h4, h5⟩ := x.at_ i hi
    exact ⟨b, n, c, h1, h2.later hb (Nat.le_refl _), h3, h4, h5⟩⟩
theorem seen_block {w w' : World} {b n : Nat} {zs : List Int} (h : Seen w (some ⟨b, 0, none⟩) n zs) (h0 : 0 < n) (hs : w.heap.size ≤ w'.heap.size) (e : b < w.heap.size → w'.heap[b]? = w.heap[b]?) : Seen w' (some ⟨b, 0, none⟩) n zs :=
  ⟨h.len, h.top, h.bytes, fun hn => by
    obtain ⟨b', o, e1, hb, hc⟩ := h.cells hn
    cases e1
    exact ⟨b, 0, rfl, Nat.lt_of_lt_of_le hb hs, fun i hi => (World.cell?_of_block (a := ⟨b, 0 + i, none⟩) (e hb)).trans (hc i hi)⟩⟩
theorem seen_lt {w : World} {b n : Nat} {zs : List Int} (h : Seen w (some ⟨b, 0, none⟩) n zs) (h0 : 0 < n) : b < w.heap.size := by
  obtain ⟨b', o, e1, hb, _⟩ := h.cells h0
  cases e1
  exact hb
theorem LgA.push {w w3 : World} {B m : Nat} {R : Nat → List Int} {v v' : Value} {vals : List Value} {rb n c : Nat} (x : LgA w B m R v vals) (hs : Seen w (some ⟨rb, 0, none⟩) n (R m)) (hn : n ≤ c) (h0 : 0 < n) (hro : v.ownBlock ≠ some rb)
    (o : Obj) (h1 : w3.ownsRow B 24 1 v' (m + 1) (vals ++ [.slice (some ⟨rb, 0, none⟩) n c])) (hg : (w.alloc o).grownBy w3 v.ownBlock) (hat : v'.ownBlock = v.ownBlock ∨ v'.ownBlock = some (w.alloc o).heap.size) :
    LgA w3 B (m + 1) R v' (vals ++ [.slice (some ⟨rb, 0, none⟩) n c]) := by
  have hsz : w.heap.size ≤ w3.heap.size := by have := hg.size; simp at this; omega
  have keep : ∀ b, b < w.heap.size → v.ownBlock ≠ some b → w3.heap[b]? = w.heap[b]? := fun b h n => (hg.block b (by simp; omega) (fun e => n e.symm)).trans (Below.heap_alloc w o b h)
  have no : ∀ b, b < w.heap.size → v.ownBlock ≠ some b → v'.ownBlock ≠ some b := fun b h n e => by
    rcases hat with e2 | e2
    · exact n (e2 ▸ e)
    · rw [e2] at e; simp at e; omega
  refine ⟨by simp [x.len], h1, fun i hi => ?_⟩
  by_cases e : i < m
  · obtain ⟨b, n', c', k1, k2, k3, k4, k5⟩ := x.at_ i e
    exact ⟨b, n', c', by rw [List.getElem?_append_left (by rw [x.len]; exact e)]; exact k1, seen_block k2 k4 hsz (fun hb => keep b hb k5), k3, k4, no b (seen_lt k2 k4) k5⟩
  · obtain rfl : i = m := by omega
    exact ⟨rb, n, c, by rw [List.getElem?_append_right (by rw [x.len]; exact Nat.le_refl _), x.len, Nat.sub_self]; rfl, seen_block hs h0 hsz (fun hb => keep _ hb hro), hn, h0, no _ (seen_lt hs h0) hro⟩
theorem LgA.seenP {w : World} {B m : Nat} {R : Nat → List Int} {v : Value} {vals : List Value} (x : LgA w B m R v vals) : ∃ ao c, v = .slice ao m c ∧ SeenP w ao m ((List.range m).map R) := by
  rcases x.own.2 with ⟨rfl, h0⟩ | ⟨g, cap, cur, rfl, hg, hh, _⟩
  · subst h0
    exact ⟨none, 0, rfl, ⟨by simp, fun i hi => by omega⟩⟩
  · refine ⟨_, cap, rfl, ⟨by simp, fun i hi => ?_⟩⟩
    obtain ⟨b, n, c, h1, h2, h3, h4, h5⟩ := x.at_ i hi
    have e : ((List.range m).map R).getD i [] = R i := by simp [List.getD, hi]
    rw [e, h2.len]
    refine ⟨g, 0, some ⟨b, 0, none⟩, c, rfl, lt_of_block hh, ?_, h2, h3⟩
    rw [Nat.zero_add, x.own.cellAt i (by omega), h1]
theorem cs_fields (c : Cg) (k : Nat) (hk : k < 6) : ∃ X, c.cs[k]? = some (.int .i64 X) ∧ (c.ok = true → 0 ≤ X ∧ X < 4294967296) ∧ leB 4 X = [leB 4 c.bt, leB 4 c.ms, leB 4 c.bk, leB 4 c.tx, leB 4 c.wi, leB 4 c.wk].getD k [] := by
  have hle : 114 ≤ c.least := by unfold Cg.least; omega
  rcases k with _ | _ | _ | _ | _ | _ | k
  · exact ⟨c.bt, rfl, fun h => (by have := ok_fields h; omega), rfl⟩
  · exact ⟨c.ms, rfl, fun h => (by have := ok_fields h; omega), rfl⟩
  · exact ⟨c.bk, rfl, fun h => (by have := ok_fields h; omega), rfl⟩
  · exact ⟨c.tx, rfl, fun h => (by have := ok_fields h; omega), rfl⟩
  · exact ⟨c.wi, rfl, fun h => (by have := ok_fields h; omega), rfl⟩
  · exact ⟨c.wk, rfl, fun h => (by have := ok_fields h; omega), rfl⟩
  · omega
set_option maxRecDepth 20000 in
set_option maxHeartbeats 1000000 in
theorem rput_bad (c : Cg) (hok : c.ok = false) (w : World) : Calls Tryd.prog 9 #[c.v] w (BadR w 200) := by
  have HC : Hid (∀ W, Calls Tryd.prog 11 #[.agg c.cs.toArray] W fun e w' => e = .returned (.int .i64 200) ∧ Below W.heap.size W w') := fun W => no_err hok ▸ rcheck_any c W
  clear hok
  go_enter Tryd.func9, Tryd.ntmps9
  go_wp2_with (first | ((with_reducible show wpList _ _ _ (({ dst := some 1, op := _, type := _, pos := _, after := _, guard := _ } : Oper) :: _) _ _); refine wpList_box_new rfl 23 _ rfl c.cs rfl ?_; intro w1 b1 s1 l1; have z1 : Hid (w1.heap.size = w.heap.size + 1) := s1; clear s1) | ((with_reducible show wpList _ _ _ (({ dst := some 7, op := _, type := _, pos := _, after := _, guard := _ } : Oper) :: _) _ _); refine wpList_load_blk rfl 23 (.tmp 1) rfl _ rfl c.cs _ (b1) Tryd.underlying23 rfl (cg_size c) ?_))
  refine (HC.out _).mono ?_
  rintro e w3 ⟨rfl, l3⟩
  have HL : Hid (Below w.heap.size w w3) := below_chain l1 l3 (by have := z1.out; omega)
  clear l1 l3 b1
  go_wp2
  go_ret2
  exact ⟨rfl, HL.out⟩
set_option maxRecDepth 20000 in
set_option maxHeartbeats 2000000 in
theorem rput_ok (c : Cg) (hok : c.ok = true) (w : World) : Calls Tryd.prog 9 #[c.v] w (PutR w (cfgB c)) := by
  have HC : Hid (∀ W, Calls Tryd.prog 11 #[.agg c.cs.toArray] W fun e w' => e = .returned (.int .i64 0) ∧ Below W.heap.size W w') := fun W => ok_err hok ▸ rcheck_any c W
  have HK : Hid (c.ok = true) := hok
  obtain ⟨R, hR⟩ : ∃ R : Nat → List Int, (fun k => [leB 4 c.bt, leB 4 c.ms, leB 4 c.bk, leB 4 c.tx, leB 4 c.wi, leB 4 c.wk].getD k []) = R := ⟨_, rfl⟩
  have HR : Hid (∀ k X, c.cs[k]? = some (.int .i64 X) → leB 4 X = R k) := fun k X h => by
    rcases Nat.lt_or_ge k 6 with h6 | h6
    · obtain ⟨X', h1, _, h2⟩ := cs_fields c k h6
      rw [h1] at h
      obtain rfl : X' = X := by simpa using h
      rw [h2, ← hR]
    · rw [List.getElem?_eq_none (by simp [Cg.cs]; omega)] at h; cases h
  have HF : Hid (((List.range 6).map R).flatten = cfgB c) := by
    show _ = _
    rw [← hR]
    simp [List.range_succ, cfgB]
  clear hok hR
  unfold PutR
  rw [cfgB_length]
  go_enter Tryd.func9, Tryd.ntmps9
  go_wp2_with (first | ((with_reducible show wpList _ _ _ (({ dst := some 1, op := _, type := _, pos := _, after := _, guard := _ } : Oper) :: _) _ _); refine wpList_box_new rfl 23 _ rfl c.cs rfl ?_; intro w1 b1 s1 l1; have z1 : Hid (w1.heap.size = w.heap.size + 1) := s1; clear s1) | ((with_reducible show wpList _ _ _ (({ dst := some 7, op := _, type := _, pos := _, after := _, guard := _ } : Oper) :: _) _ _); refine wpList_load_blk rfl 23 (.tmp 1) rfl _ rfl c.cs _ (b1) Tryd.underlying23 rfl (cg_size c) ?_))
  refine (HC.out _).mono ?_
  rintro e w3 ⟨rfl, l3⟩
  have B3 : Blk w3 w.heap.size 23 c.cs := b1.later l3 (by have := z1.out; omega)
  have c0 : w3.cell? ⟨w.heap.size, 0, none⟩ = some (.int .i64 c.bt) := by rw [B3.cell]; rfl
  have c1 : w3.cell? ⟨w.heap.size, 1, none⟩ = some (.int .i64 c.ms) := by rw [B3.cell]; rfl
  have c2 : w3.cell? ⟨w.heap.size, 2, none⟩ = some (.int .i64 c.bk) := by rw [B3.cell]; rfl
  have c3 : w3.cell? ⟨w.heap.size, 3, none⟩ = some (.int .i64 c.tx) := by rw [B3.cell]; rfl
  have c4 : w3.cell? ⟨w.heap.size, 4, none⟩ = some (.int .i64 c.wi) := by rw [B3.cell]; rfl
  have c5 : w3.cell? ⟨w.heap.size, 5, none⟩ = some (.int .i64 c.wk) := by rw [B3.cell]; rfl
  have L3 : Below w.heap.size w w3 := below_chain l1 l3 (by have := z1.out; omega)
  have H4 : Hid (Below w.heap.size w (w3.alloc (.cells #[.int .i64 c.bt, .int .i64 c.ms, .int .i64 c.bk, .int .i64 c.tx, .int .i64 c.wi, .int .i64 c.wk] 3)) ∧ Blk (w3.alloc (.cells #[.int .i64 c.bt, .int .i64 c.ms, .int .i64 c.bk, .int .i64 c.tx, .int .i64 c.wi, .int .i64 c.wk] 3)) w3.heap.size 3 c.cs) := ⟨L3.alloc L3.size _, heap_alloc_new w3 _⟩
  clear b1 l1 l3 B3 L3 HC
  obtain ⟨i0, hi, hz0, hz1, hz2⟩ := info_parts info_row8
  go_wp2
  go_loopw [5, 6] (fun lv i wr => ∃ (k : Nat) (vals : List Value), k ≤ 6 ∧ i = .int .i64 k ∧ LgA wr w.heap.size k R lv vals ∧ Below w.heap.size w wr ∧ Blk wr w3.heap.size 3 c.cs) (fun _ i _ => 6 - (intOf i).toNat)
  case atStart => exact ⟨0, [], by decide, rfl, LgA.nil _ _ _, H4.out.1, H4.out.2⟩
  case round =>
    obtain ⟨k, vals, hk, rfl, hLg, hbel, hbi⟩ := hrel
    by_cases hlt : k < 6
    · obtain ⟨X, hX, hXb, hX4⟩ := cs_fields c k hlt
      have c1 : wr.cell? ⟨w3.heap.size, k, none⟩ = some (.int .i64 X) := by rw [hbi.cell]; exact hX
      have hb := hXb HK.out
      have hRk := HR.out k X hX
      have w1 : X % 18446744073709551616 = X := by omega
      have i1 : (0 : Int) ≤ (k : Int) := by omega
      have i2 : (k : Int) < 6 := by omega
      have HLt := rlit_any X (by omega) 4 (by decide) wr
      have X0 : Hid (LgA wr w.heap.size k R u5 vals ∧ Below w.heap.size w wr ∧ Blk wr w3.heap.size 3 c.cs ∧ leB 4 X = R k) := ⟨hLg, hbel, hbi, hRk⟩
      clear hX hXb hX4 hb hRk hLg hbel hbi
      go_wp2_with (first
        | (go_at_call 50; refine HLt.mono ?_; rintro e w4 ⟨v4, rfl, o4, l4⟩; obtain ⟨rb, rc, rfl, s4, hrc, hrb⟩ := own_some8 o4 (leB_length 4 X) (leB_bytes 4 X) (by decide) (by decide); have P4 : Hid (LgA w4 w.heap.size k R u5 vals ∧ Below w.heap.size w w4 ∧ Blk w4 w3.heap.size 3 c.cs ∧ Seen w4 (some ⟨rb, 0, none⟩) 4 (R k) ∧ 4 ≤ rc ∧ u5.ownBlock ≠ some rb ∧ w.heap.size ≤ w4.heap.size) := (by have q := X0.out.2.1.size; have q4 := l4.size; exact ⟨X0.out.1.later l4, below_chain X0.out.2.1 l4 q, X0.out.2.2.1.later l4 X0.out.2.2.1.lt, X0.out.2.2.2 ▸ s4, hrc, fun e => (by have := (X0.out.1.own.lt rb e).2; omega), by omega⟩); have O4 : Hid ((w4.alloc (.cells #[.slice (some ⟨rb, 0, none⟩) 4 rc] 24)).ownsRow w.heap.size 24 1 u5 k vals) := P4.out.1.own.alloc _; clear o4 l4 s4 hrc hrb HLt)
        | (at_builtin; refine wpList_append_own_at _ rfl _ _ 54 rfl w.heap.size 24 i0 (.slice none 0 0) 1 24 Tryd.underlying54 hi hz0 hz1 hz2 rfl (by decide) _ k vals rfl O4.out ⟨w4.heap.size, 0, none⟩ 1 1 [.slice (some ⟨rb, 0, none⟩) 4 rc] rfl rfl (one_new8 _ _) (by intro u hu; simp at hu; subst hu; rfl) (by unfold maxLen; omega) (by omega) (by have := P4.out.2.2.2.2.2.2; simp; omega) ?_))
      intro v' w5 h1 hg _ hat
      have P5 : Hid (LgA w5 w.heap.size (k + 1) R v' (vals ++ [.slice (some ⟨rb, 0, none⟩) 4 rc]) ∧ Below w.heap.size w w5 ∧ Blk w5 w3.heap.size 3 c.cs) := by
        have hp := P4.out
        have hl : Below w.heap.size w (w4.alloc (.cells #[.slice (some ⟨rb, 0, none⟩) 4 rc] 24)) := hp.2.1.alloc hp.2.2.2.2.2.2 _
        refine ⟨hp.1.push hp.2.2.2.1 hp.2.2.2.2.1 (by decide) hp.2.2.2.2.2.1 _ h1 hg (by rw [World.size_alloc]; exact hat), hl.grown hg (by have := hp.2.2.2.2.2.2; simp; omega) (fun j hj => (hp.1.own.lt j hj).1), ?_⟩
        have hne : u5.ownBlock ≠ some w3.heap.size := fun e => by
          rcases hp.1.own.2 with ⟨h2, _⟩ | ⟨g, cap, cur, h2, _, hh, _⟩
          · rw [h2] at e; cases e
          · rw [h2] at e
            simp [Value.ownBlock] at e
            subst e
            have hb := hp.2.2.1
            unfold Blk at hb
            rw [hb] at hh
            simp at hh
        have hb2 : Blk (w4.alloc (.cells #[.slice (some ⟨rb, 0, none⟩) 4 rc] 24)) w3.heap.size 3 c.cs := hp.2.2.1.later ((Below.refl _ _).alloc (Nat.le_refl _) _) hp.2.2.1.lt
        exact hb2.block (hg.block _ hb2.lt (fun e => hne e.symm))
      clear h1 hg hat O4 P4 X0
      go_wp2
      go_roundw
      case rel => exact ⟨k + 1, _, by omega, by go_num, P5.out⟩
      case measure => simp [intOf]; omega
    · obtain rfl : k = 6 := by omega
      obtain ⟨ao, ac, rfl, sp⟩ := hLg.seenP
      have S6 : Hid (SeenP wr ao 6 ((List.range 6).map R) ∧ Below w.heap.size w wr) := ⟨sp, hbel⟩
      have CJ := join_any ao 6 ac ((List.range 6).map R) wr sp (by decide) (by rw [HF.out, cfgB_length]; decide)
      rw [HF.out, cfgB_length] at CJ
      clear hLg hbel hbi sp
      go_wp2_with (go_at_call 51; refine CJ.mono ?_; rintro e w6 ⟨v6, rfl, o6, l6⟩)
      obtain ⟨vo, cv, rfl⟩ := own_form o6
      have HZ : Hid (w6.ownsRow w.heap.size 5 1 (.slice vo 24 cv) 24 ((cfgB c).map (Value.int .u8)) ∧ Below w.heap.size w w6) := ⟨ownsRow_base o6 S6.out.2.size, below_chain S6.out.2 l6 S6.out.2.size⟩
      clear o6 l6 CJ
      go_wp2
      go_ret2
      exact ⟨vo, cv, rfl, HZ.out⟩
end Go.Proofs.YtmgkjldjeomcmaaDoor
