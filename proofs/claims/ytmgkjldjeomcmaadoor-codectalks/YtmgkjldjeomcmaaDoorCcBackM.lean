/- CodecBack: what stands while it goes on; the calls in its form. -/
import Derived.Test.YtmgkjldjeomcmaaDoorCcPTalk
import Derived.Test.YtmgkjldjeomcmaaDoorCcIn
import Derived.Test.YtmgkjldjeomcmaaDoorCcCfgEq
import Derived.Test.YtmgkjldjeomcmaaDoorREqb
namespace Go.Proofs.YtmgkjldjeomcmaaDoor
open Go.RowKit
set_option linter.unusedVariables false
set_option linter.unusedSimpArgs false

theorem equalD8 (d : Nat) (zs : List Int) (hl : zs.length = 16) (w : World) : (Op.equalIn (d + 2) 35 (.agg (u8s zs).toArray) (.agg (u8s zs).toArray)).run Tryd.prog w = .ok true w := by
  have hsz : ∀ w, (sizeOf 5).run Tryd.prog w = .ok 1 w := fun w => by
    have h := infoByte8
    cases hq : Tryd.prog.info? 5 with
    | none => simp [hq] at h
    | some i => simp [hq] at h; simp [sizeOf, typeInfo, hq, h.2]
  have ht := Tryd.underlying35
  have he := Tryd.underlying5
  rw [Op.equalIn]
  simp only [Sem.run_bind, run_underlying ht, Result.andThen_ok, hsz, Std.Legacy.Range.forIn_eq_forIn_range', Std.Legacy.Range.size, Nat.sub_zero, Nat.add_sub_cancel, Nat.div_one]
  have hlr : ∀ i ∈ List.range' 0 16 1, i < 16 := fun i hi => by simpa using (List.mem_range'_1.1 hi).2
  generalize List.range' 0 16 1 = l at hlr ⊢
  induction l with
  | nil => simp
  | cons i l ih =>
    have hi : i < 16 := hlr i (by simp)
    have px : (Go.part 5 (u8s zs).toArray (i * 1)).run Tryd.prog w = .ok (.int .u8 (zs.getD i 0)) w := by
      simp [Go.part, isAgg, run_underlying he, u8s, List.getD, List.getElem?_eq_getElem (show i < zs.length by omega)]
    have pe : (Op.equalIn (d + 1) 5 (.int .u8 (zs.getD i 0)) (.int .u8 (zs.getD i 0))).run Tryd.prog w = .ok true w := by
      rw [run_equalIn_int w d 5 .u8 .u8 _ _ he]; simp
    simp only [List.forIn_cons, Sem.run_bind, px, pe, Result.andThen_ok]
    simp only [Bool.not_true, Bool.false_eq_true, if_false, Sem.run_pure, Result.andThen_ok]
    exact ih fun j hj => hlr j (by simp [hj])
theorem neq_drop (d : List Int) (hd : d.length = 16) (w : World) : (binOp .neq 35 (.agg (u8s d).toArray) (.agg (u8s d).toArray)).run Tryd.prog w = .ok (.bool false) w := by
  have h : (Op.equalIn 10000 35 (.agg (u8s d).toArray) (.agg (u8s d).toArray)).run Tryd.prog w = .ok true w := equalD8 9998 d hd w
  simp only [binOp]
  simp [Op.equal, Op.maxDepth, h]
/-- Many cells read, under a guard that is met. -/
theorem wpList_load_g {ops : Array Oper} {rest : List Oper} {o : Oper} {a : Act} {Q : Exit → Act → World → Prop} {w : World} (hw : Region.wanted o (yielded ops a.tmps) = true) (t : TypeId) (x : Operand) (ho : o.op = .load t x) (b off : Nat) (hx : a.eval x = .pointer (some ⟨b, off, none⟩))
    (vs : List Value) (d : TypeDesc) (hc : w.rangeAt b off vs) (hu : Tryd.prog.underlying t = some d) (hd : d.isRow = true) (hi : (Tryd.prog.info? t).map (·.size) = some vs.length)
    (h : wpList Tryd.prog ops Q rest (a.put o.dst (.agg vs.toArray)) w) : wpList Tryd.prog ops Q (o :: rest) a w :=
  wpList_step fun K hK => by rw [if_pos hw]; exact wp_load_mid t x ho b off hx vs d hc hu hd hi (hK _ _ h)
theorem num4_at (xs ys : List Int) (v : Int) (p : Nat) (hp : xs.length = p) (hv : 0 ≤ v ∧ v < 4294967296) : num4 (xs ++ (leB 4 v ++ ys)) p = v := by
  unfold num4
  rw [List.drop_left' hp, List.take_left' (leB_length 4 v), le_leB]
  have : (256 : Int) ^ 4 = 4294967296 := by decide
  rw [this]
  omega
theorem cg_round (c : Cg) (hok : c.ok = true) : cgOf (cfgB c) = c := by
  have hf := ok_fields hok
  have hle : 114 ≤ c.least := by unfold Cg.least; omega
  have e0 : num4 (cfgB c) 0 = c.bt := num4_at [] _ c.bt 0 rfl (by omega)
  have e1 : num4 (cfgB c) 4 = c.ms := num4_at (leB 4 c.bt) _ c.ms 4 (leB_length _ _) (by omega)
  have e2 : num4 (cfgB c) 8 = c.bk := by
    have := num4_at (leB 4 c.bt ++ leB 4 c.ms) (leB 4 c.tx ++ (leB 4 c.wi ++ leB 4 c.wk)) c.bk 8 (by simp [leB_length]) (by omega)
    rwa [List.append_assoc] at this
  have e3 : num4 (cfgB c) 12 = c.tx := by
    have := num4_at (leB 4 c.bt ++ (leB 4 c.ms ++ leB 4 c.bk)) (leB 4 c.wi ++ leB 4 c.wk) c.tx 12 (by simp [leB_length]) (by omega)
    rwa [List.append_assoc, List.append_assoc] at this
  have e4 : num4 (cfgB c) 16 = c.wi := by
    have := num4_at (leB 4 c.bt ++ (leB 4 c.ms ++ (leB 4 c.bk ++ leB 4 c.tx))) (leB 4 c.wk) c.wi 16 (by simp [leB_length]) (by omega)
    rwa [List.append_assoc, List.append_assoc, List.append_assoc] at this
  have e5 : num4 (cfgB c) 20 = c.wk := by
    have := num4_at (leB 4 c.bt ++ (leB 4 c.ms ++ (leB 4 c.bk ++ (leB 4 c.tx ++ leB 4 c.wi)))) [] c.wk 20 (by simp [leB_length]) (by omega)
    rwa [List.append_nil, List.append_assoc, List.append_assoc, List.append_assoc, List.append_assoc] at this
  unfold cgOf
  rw [e0, e1, e2, e3, e4, e5]
/-- What stands: the talk that came in, its config, new memory alone. -/
structure Bk (w W : World) (g : Nat) (t : Tk) : Prop where
  x : Blk W w.heap.size 37 t.cs
  c : Blk W g 23 t.cf.cs
  bel : Below w.heap.size w W
  lt : w.heap.size < g
theorem Bk.later {w W W' : World} {g : Nat} {t : Tk} (h : Bk w W g t) (l : Below W.heap.size W W') : Bk w W' g t :=
  ⟨h.x.later l h.x.lt, h.c.later l h.c.lt, below_chain h.bel l h.bel.size, h.lt⟩
theorem Bk.dn {w W : World} {g : Nat} {t : Tk} (h : Bk w W g t) (q : Nat) : Bk w (W.drewN q) g t := ⟨h.x.drewN q, h.c.drewN q, below_dn h.bel q, h.lt⟩
theorem Bk.kept {w W W' : World} {g k : Nat} {t : Tk} (h : Bk w W g t) (l : Kept (fun b => b = k) W W') (h1 : g < k) : Bk w W' g t :=
  ⟨h.x.kept l (by have := h.lt; omega), h.c.kept l (by omega), below_kept h.bel l h.bel.size (fun j hj => by have := h.lt; omega), h.lt⟩
theorem Bk.msg {w W : World} {g : Nat} {t : Tk} (h : Bk w W g t) : W.cell? ⟨g, 1, none⟩ = some (.int .i64 t.cf.ms) := by rw [h.c.cell]; rfl
theorem Bk.bks {w W : World} {g : Nat} {t : Tk} (h : Bk w W g t) : W.cell? ⟨g, 2, none⟩ = some (.int .i64 t.cf.bk) := by rw [h.c.cell]; rfl
theorem Bk.cfg {w W : World} {g : Nat} {t : Tk} (h : Bk w W g t) : W.rangeAt w.heap.size 0 t.cf.cs := Blk.range (xs := []) (ys := t.cf.cs) (zs := u8s t.d ++ [.bool t.b, .slice t.ao t.n t.c, .slice t.bo t.m t.e]) h.x
theorem Bk.drop {w W : World} {g : Nat} {t : Tk} (h : Bk w W g t) : W.rangeAt w.heap.size 6 (u8s t.d) := Blk.range (xs := t.cf.cs) (ys := u8s t.d) (zs := [.bool t.b, .slice t.ao t.n t.c, .slice t.bo t.m t.e]) h.x
theorem tk_tail (t : Tk) (hd : t.d.length = 16) (i : Nat) : t.cs[22 + i]? = [Value.bool t.b, .slice t.ao t.n t.c, .slice t.bo t.m t.e][i]? := by
  have e : t.cs = (t.cf.cs ++ u8s t.d) ++ [.bool t.b, .slice t.ao t.n t.c, .slice t.bo t.m t.e] := by unfold Tk.cs; rw [List.append_assoc]
  have hl : (t.cf.cs ++ u8s t.d).length = 22 := by rw [List.length_append, u8s_length, hd]; rfl
  rw [e, List.getElem?_append_right (by omega), hl]
  congr 1
  omega
theorem Bk.there {w W : World} {g : Nat} {t : Tk} (h : Bk w W g t) (hd : t.d.length = 16) : W.cell? ⟨w.heap.size, 22, none⟩ = some (.bool t.b) := by rw [h.x.cell]; exact tk_tail t hd 0
theorem Bk.text {w W : World} {g : Nat} {t : Tk} (h : Bk w W g t) (hd : t.d.length = 16) : W.cell? ⟨w.heap.size, 23, none⟩ = some (.slice t.ao t.n t.c) := by rw [h.x.cell]; exact tk_tail t hd 1
theorem Bk.more {w W : World} {g : Nat} {t : Tk} (h : Bk w W g t) (hd : t.d.length = 16) : W.cell? ⟨w.heap.size, 24, none⟩ = some (.slice t.bo t.m t.e) := by rw [h.x.cell]; exact tk_tail t hd 2

/-- An answer of so many bytes that are these. -/
def Ans (w : World) (k : Nat) (zs : List Int) (e : Ending) (w' : World) : Prop := ∃ vo cv, e = .returned (.tuple #[.slice vo k cv, .int .i64 0]) ∧ Seen w' vo k zs ∧ Below w.heap.size w w'
theorem ans_of_put {w : World} {zs : List Int} {k : Nat} (hk : zs.length = k) (hb : Bytes zs) (ht : k ≤ 140737488355328) {e : Ending} {w' : World} (h : PutR w zs e w') : Ans w k zs e w' := by
  subst hk
  obtain ⟨vo, cv, rfl, ho, hb2⟩ := h
  obtain ⟨ao, c, e, hs, _⟩ := own_seen8 ho rfl hb ht
  cases e
  exact ⟨vo, cv, rfl, hs, hb2⟩
theorem cfgB_byt (c : Cg) : Bytes (cfgB c) := by
  intro z hz
  simp only [cfgB, List.mem_append] at hz
  rcases hz with h | h | h | h | h | h <;> exact leB_bytes _ _ z h
theorem bytes_two8 {xs ys : List Int} (h1 : Bytes xs) (h2 : Bytes ys) : Bytes (xs ++ ys) := by
  intro z hz
  rcases List.mem_append.1 hz with h | h
  · exact h1 z h
  · exact h2 z h
theorem back_put (c : Cg) (hok : c.ok = true) (W : World) : Calls Tryd.prog 8 #[.agg c.cs.toArray] W (Ans W 24 (cfgB c)) :=
  (putConfig_ok c hok W).mono fun _ _ h => ans_of_put (cfgB_length c) (cfgB_byt c) (by decide) h
theorem back_parse (c : Cg) (hok : c.ok = true) (W : World) (vo : Option Addr) (cv : Nat) (hs : Seen W vo 24 (cfgB c)) : Calls Tryd.prog 46 #[.slice vo 24 cv] W fun e w' => e = .returned (.tuple #[.agg c.cs.toArray, .int .i64 0]) ∧ Below W.heap.size W w' := by
  have h := parseConfig_ok vo cv (cfgB c) W hs (by rw [cg_round c hok]; exact hok)
  rwa [cg_round c hok] at h
theorem back_req (c : Cg) (hok : c.ok = true) (m : Nat) (hm : (m : Int) = c.ms) (d us : List Int) (hd : d.length = 16) (hdb : Bytes d) (W : World) (g : Nat) (hs : Seen W (some ⟨g, 0, none⟩) m us) : Calls Tryd.prog 20 #[.agg c.cs.toArray, .agg (u8s d).toArray, .slice (some ⟨g, 0, none⟩) m m] W (Ans W (16 + m) (d ++ us)) :=
  (talkRequest_ok c d hd hdb _ m m us hm hok W hs (fun h => by cases h)).mono fun _ _ h => ans_of_put (by rw [List.length_append, hd, hs.len]) (bytes_two8 hdb hs.bytes) (by have := hs.top; have := ok_ms hok; omega) h
theorem back_ptalk (c : Cg) (hok : c.ok = true) (m : Nat) (hm : (m : Int) = c.ms) (d us : List Int) (hd : d.length = 16) (W : World) (vo : Option Addr) (cv : Nat) (hs : Seen W vo (16 + m) (d ++ us)) : Calls Tryd.prog 25 #[.agg c.cs.toArray, .slice vo (16 + m) cv] W fun e w' => ∃ uo, e = .returned (.tuple #[.agg (u8s d).toArray, .slice uo m m, .int .i64 0]) ∧ Seen w' uo m us ∧ Below W.heap.size W w' := by
  refine (parseTalk_ok c hok vo (16 + m) cv (d ++ us) (by omega) W hs).mono ?_
  rintro e w' ⟨uo, m', rfl, hm', h1, h2⟩
  obtain rfl : m' = m := by omega
  rw [List.take_left' hd]
  rw [List.drop_left' hd] at h1
  exact ⟨uo, rfl, h1, h2⟩
/-- What a reply holds. -/
def repB (b : Bool) (m : Nat) (us : List Int) : List Int := if b then [1] ++ us else List.replicate (1 + m) 0
theorem back_rep (c : Cg) (hok : c.ok = true) (m : Nat) (hm : (m : Int) = c.ms) (b : Bool) (us : List Int) (W : World) (g : Nat) (hs : Seen W (some ⟨g, 0, none⟩) m us) : Calls Tryd.prog 23 #[.agg c.cs.toArray, .bool b, .slice (some ⟨g, 0, none⟩) m m] W (Ans W (1 + m) (repB b m us)) := by
  have hms := ok_ms hok
  cases b with
  | true => exact (talkReply_yes c _ m m us hm hok W hs (fun h => by cases h)).mono fun _ _ h => ans_of_put (by simp [repB, hs.len]; omega) (bytes_two8 (fun z hz => by simp at hz; omega) hs.bytes) (by omega) h
  | false => exact (talkReply_not c _ m m us hm hok W hs (fun h => by cases h)).mono fun _ _ h => ans_of_put (by simp [repB]) (fun z hz => by rw [List.eq_of_mem_replicate hz]; omega) (by omega) h
theorem back_prep (c : Cg) (hok : c.ok = true) (m : Nat) (hm : (m : Int) = c.ms) (b : Bool) (us : List Int) (W : World) (vo : Option Addr) (cv : Nat) (hs : Seen W vo (1 + m) (repB b m us)) : Calls Tryd.prog 27 #[.agg c.cs.toArray, .slice vo (1 + m) cv] W fun e w' => ∃ uo, e = .returned (.tuple #[.bool b, .slice uo m m, .int .i64 0]) ∧ Seen w' uo m ((repB b m us).drop 1) ∧ Below W.heap.size W w' := by
  refine (parseReply_ok c hok b vo (1 + m) cv (repB b m us) (by omega) W hs ?_ ?_).mono ?_
  · cases b
    · simp [repB, Nat.add_comm 1 m, List.replicate_succ]
    · simp [repB]
  · cases b
    · simp [repB]
    · simp [repB]
  · rintro e w' ⟨uo, m', rfl, hm', h1, h2⟩
    obtain rfl : m' = m := by omega
    exact ⟨uo, rfl, h1, h2⟩
theorem back_dial (c : Cg) (hok : c.ok = true) (b : Int) (hin : inB b 0 (c.bk - 1) = true) (vs : List Int) (W : World) (g : Nat) (hs : Seen W (some ⟨g, 0, none⟩) 88 vs) : Calls Tryd.prog 29 #[.agg c.cs.toArray, .int .i64 b, .slice (some ⟨g, 0, none⟩) 88 88] W (Ans W 92 (leB 4 b ++ vs)) :=
  (dialRequest_ok c b _ 88 vs hin hok W hs (fun h => by cases h)).mono fun _ _ h => ans_of_put (by rw [List.length_append, leB_length, hs.len]) (bytes_two8 (leB_bytes _ _) hs.bytes) (by decide) h
theorem back_pdial (c : Cg) (hok : c.ok = true) (b : Int) (hin : inB b 0 (c.bk - 1) = true) (vs : List Int) (W : World) (vo : Option Addr) (cv : Nat) (hs : Seen W vo 92 (leB 4 b ++ vs)) : Calls Tryd.prog 31 #[.agg c.cs.toArray, .slice vo 92 cv] W fun e w' => ∃ uo, e = .returned (.tuple #[.int .i64 b, .slice uo 88 88, .int .i64 0]) ∧ Seen w' uo 88 vs ∧ Below W.heap.size W w' := by
  have hf := ok_fields hok
  have hb : 0 ≤ b ∧ b < 4294967296 := by simp [inB] at hin; omega
  have e : num4 (leB 4 b ++ vs) 0 = b := num4_at [] vs b 0 rfl hb
  have h := parseDial_ok c hok vo cv (leB 4 b ++ vs) W hs (by rw [e]; exact hin)
  rw [e, List.drop_left' (leB_length 4 b)] at h
  exact h
end Go.Proofs.YtmgkjldjeomcmaaDoor
