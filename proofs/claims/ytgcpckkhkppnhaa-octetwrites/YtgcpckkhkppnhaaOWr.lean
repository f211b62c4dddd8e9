/- Layer octet: the statements' wrote: one step of both writers. -/
import Derived.Test.YtgcpckkhkppnhaaORdB
import Derived.Test.YtgcpckkhkppnhaaOWrite
import Derived.Test.YtgcpckkhkppnhaaORWrite2
namespace Go.Proofs.Ytgcpckkhkppnhaa
open Go.RowKit
set_option linter.unusedVariables false
set_option linter.unusedSimpArgs false

def Ft (r : Nat) (v : Value) (q : Nat) (y : Value) (k : Nat) : Prop := WFoot r v k ∨ WFoot q y k
/-- Two writers with the same bytes, apart from one another. -/
structure TwW (w : World) (r : Nat) (v : Value) (q : Nat) (y : Value) (size : Nat) (zs : List Int) (e : Int) : Prop where
  one : Wr w r v size zs e
  two : Wr w q y size zs e
  ne : ∀ k, WFoot r v k → ¬ WFoot q y k
theorem Wr.foot_lt {w : World} {r : Nat} {v : Value} {size : Nat} {zs : List Int} {e : Int} (h : Wr w r v size zs e) (k : Nat) (hk : WFoot r v k) : k < w.heap.size := by
  rcases hk with rfl | hk
  · exact h.lt
  · exact (h.own.lt k hk).2
theorem TwW.lt {w : World} {r : Nat} {v : Value} {q : Nat} {y : Value} {size : Nat} {zs : List Int} {e : Int} (h : TwW w r v q y size zs e) (k : Nat) (hk : Ft r v q y k) : k < w.heap.size := hk.elim (h.one.foot_lt k) (h.two.foot_lt k)
theorem TwW.kept {S : Nat → Prop} {w w' : World} {r : Nat} {v : Value} {q : Nat} {y : Value} {size : Nat} {zs : List Int} {e : Int} (h : TwW w r v q y size zs e) (hk : Kept S w w') (hS : ∀ k, Ft r v q y k → ¬ S k) : TwW w' r v q y size zs e :=
  ⟨h.one.kept hk (hS r (.inl (.inl rfl))) (fun g hg => hS g (.inl (.inr hg))), h.two.kept hk (hS q (.inr (.inl rfl))) (fun g hg => hS g (.inr (.inr hg))), h.ne⟩
theorem TwW.later {w w' : World} {r : Nat} {v : Value} {q : Nat} {y : Value} {size : Nat} {zs : List Int} {e : Int} (h : TwW w r v q y size zs e) (l : Below w.heap.size w w') : TwW w' r v q y size zs e := ⟨h.one.later l (Nat.le_refl _), h.two.later l (Nat.le_refl _), h.ne⟩
theorem TwW.dn {w : World} {r : Nat} {v : Value} {q : Nat} {y : Value} {size : Nat} {zs : List Int} {e : Int} (h : TwW w r v q y size zs e) (k : Nat) : TwW (w.drewN k) r v q y size zs e := h.later (below_dn (Below.refl _ _) k)
def Wrote (r : Nat) (v : Value) (q : Nat) (y : Value) (size : Nat) (w : World) (en : Ending) (w' : World) : Prop :=
  en = .returned (.bool true) ∧ ∃ v' y' zs e, TwW w' r v' q y' size zs e ∧ Kept (Ft r v q y) w w' ∧ ∀ k, Ft r v' q y' k → Ft r v q y k ∨ w.heap.size ≤ k
theorem kept_new {S : Nat → Prop} {w wr : World} (h : Kept S w wr) {g : Nat} (hg : w.heap.size ≤ g) (k : Nat) (u : Value) : Kept S w (wr.setCell ⟨g, k, none⟩ u) :=
  ⟨h.os, h.tape, h.output, by simpa [World.setCell] using h.size, fun j hj hs => (Below.heap_setCell _ _ _ _ (by show j ≠ g; omega)).trans (h.block j hj hs)⟩
theorem seen_front {w : World} {g n : Nat} {zs ys : List Int} (h : RowAt w g (zs ++ ys)) (hl : zs.length = n) (hn : n ≤ 140737488355328) (hb : Bytes zs) : Seen w (some ⟨g, 0, none⟩) n zs := by
  have h1 := h.take n
  rw [List.take_left' hl] at h1
  have h2 := Seen.of_row (n := n) h1 (by omega) hn hb
  rwa [List.take_of_length_le (by omega)] at h2
/-- What is known of a step. -/
structure ItIn (w : World) (it : Item) (so : Option Addr) (cs : Nat) : Prop where
  seen : Seen w so it.data.length it.data
  nil : so = none → cs = 0
  word : Word it.v
  top : it.data.length ≤ 140737488351232
/-- Both writers went the same step. -/
theorem tww_step {w w1 w2 w3 : World} {r : Nat} {v v' : Value} {q : Nat} {y y' : Value} {size : Nat} {zs zs' : List Int} {e e' : Int} (x : TwW w r v q y size zs e) (l1 : Below w.heap.size w w1) (o : Wr w2 r v' size zs' e') (k : Kept (WFoot r v) w1 w2) (hv : ∀ g, v'.ownBlock = some g → v.ownBlock = some g ∨ w1.heap.size ≤ g)
    (l2 : Below w2.heap.size w2 w3) {w4 : World} (o2 : Wr w4 q y' size zs' e') (k2 : Kept (WFoot q y) w3 w4) (hy : ∀ g, y'.ownBlock = some g → y.ownBlock = some g ∨ w3.heap.size ≤ g) :
    TwW w4 r v' q y' size zs' e' ∧ Kept (Ft r v q y) w w4 ∧ ∀ k, Ft r v' q y' k → Ft r v q y k ∨ w.heap.size ≤ k := by
  have s1 := l1.size
  have s2 := k.size
  have s3 := l2.size
  have f1 : ∀ k, WFoot r v' k → WFoot r v k ∨ (w1.heap.size ≤ k ∧ k < w2.heap.size) := fun k hk => by
    have := o.foot_lt k hk
    rcases hk with h | h
    · exact .inl (.inl h)
    · rcases hv k h with h | h
      · exact .inl (.inr h)
      · exact .inr ⟨h, this⟩
  have f2 : ∀ k, WFoot q y' k → WFoot q y k ∨ w3.heap.size ≤ k := fun k hk => by
    rcases hk with h | h
    · exact .inl (.inl h)
    · rcases hy k h with h | h
      · exact .inl (.inr h)
      · exact .inr h
  have lq : ∀ k, WFoot q y k → k < w.heap.size := fun k hk => x.two.foot_lt k hk
  have n1 : ∀ k, WFoot r v' k → ¬ WFoot q y k := fun k hk hq => by
    rcases f1 k hk with h | h
    · exact x.ne k h hq
    · have := lq k hq; omega
  have o3 : Wr w4 r v' size zs' e' := (o.later l2 (Nat.le_refl _)).kept k2 (fun h => n1 r (.inl rfl) h) (fun g hg h => n1 g (.inr hg) h)
  refine ⟨⟨o3, o2, fun k hk hq => ?_⟩, ?_, fun k hk => ?_⟩
  · rcases f2 k hq with h | h
    · exact n1 k hk h
    · have := o.foot_lt k hk; omega
  · refine ((kept_of_below l1 (Nat.le_refl _)).trans ((k.mono (fun _ h => .inl h)).trans ?_))
    exact (kept_of_below l2 (Nat.le_refl _)).trans (k2.mono (fun _ h => .inr h))
  · rcases hk with hk | hk
    · rcases f1 k hk with h | h
      · exact .inl (.inl h)
      · exact .inr (by omega)
    · rcases f2 k hk with h | h
      · exact .inl (.inr h)
      · exact .inr (by omega)
set_option maxRecDepth 20000 in
set_option maxHeartbeats 1000000 in
theorem wrote_num (r : Nat) (v : Value) (q : Nat) (y : Value) (size : Nat) (zs : List Int) (e : Int) (it : Item) (so : Option Addr) (cs : Nat) (w : World) (x : TwW w r v q y size zs e) (hi : ItIn w it so cs) (hf : ∀ b o, 0 < it.data.length → so = some ⟨b, o, none⟩ → ¬ Ft r v q y b) (hd : 0 < wd it.d) :
    Calls Try.prog 16 #[.pointer (some ⟨r, 0, none⟩), .pointer (some ⟨q, 0, none⟩), .agg (stepC it so cs).toArray] w (Wrote r v q y size w) := by
  have X : Hid (TwW w r v q y size zs e ∧ ItIn w it so cs) := ⟨x, hi⟩
  have i1 : (0 : Int) < ((wd it.d : Nat) : Int) := by omega
  have w8 := wd_le it.d
  have HM : Hid (leB (wd it.d) (it.v % 256 ^ wd it.d) = leB (wd it.d) it.v ∧ Word (it.v % 256 ^ wd it.d)) := by
    have h1 := hi.word.1
    have h2 := hi.word.2
    have hh : wd it.d = 1 ∨ wd it.d = 2 ∨ wd it.d = 4 ∨ wd it.d = 8 := by rcases wd_cases it.d with h | h | h | h | h <;> omega
    refine ⟨leB_mod _ _, ?_⟩
    rcases hh with h | h | h | h <;> rw [h] <;> exact ⟨by omega, by omega⟩
  clear x hi hf
  go_enter Try.func16, Try.ntmps16
  go_wp2_with (first | (refine wpList_box_new rfl 35 _ rfl (stepC it so cs) rfl ?_; intro w1 b1 s1 l1; have cd := b1.cell 0; rw [show (stepC it so cs)[0]? = some (.int .i64 it.d) from rfl] at cd; have cv := b1.cell 2; rw [show (stepC it so cs)[2]? = some (.int .u64 it.v) from rfl] at cv; have ca := b1.cell 3; rw [show (stepC it so cs)[3]? = some (.slice so it.data.length cs) from rfl] at ca) | (go_at_call 20; refine (width_any it.d _).mono ?_; rintro e w' ⟨rfl, rfl⟩))
  have V1 : Hid (Blk w1 w.heap.size 35 (stepC it so cs) ∧ Below w.heap.size w w1) := ⟨b1, l1⟩
  clear b1 s1 l1 cd cv ca
  refine (slay_any r v size zs e it.d it.v X.out.2.word w1 (X.out.1.one.later V1.out.2 (Nat.le_refl _))).mono ?_
  rintro e2 w2 ⟨rfl, v', o2, k2, g2⟩
  have V2 : Hid (Wr w2 r v' size (wbL size zs e (leB (wd it.d) it.v)) (wbE size zs e (leB (wd it.d) it.v)) ∧ Kept (WFoot r v) w1 w2 ∧ (∀ g, v'.ownBlock = some g → v.ownBlock = some g ∨ w1.heap.size ≤ g) ∧ Blk w2 w.heap.size 35 (stepC it so cs) ∧ Wr w2 q y size zs e) := ⟨o2, k2, g2, V1.out.1.kept k2 (fun h => by have := X.out.1.one.foot_lt _ h; omega), (X.out.1.two.later V1.out.2 (Nat.le_refl _)).kept k2 (fun h => X.out.1.ne q h (.inl rfl)) (fun g hg h => X.out.1.ne g h (.inr hg))⟩
  have cv := V2.out.2.2.2.1.cell 2
  rw [show (stepC it so cs)[2]? = some (.int .u64 it.v) from rfl] at cv
  clear o2 k2 g2
  go_wp2_with fail
  refine (scut_any it.v X.out.2.word it.d hd w2).mono ?_
  rintro e3 w3 ⟨rfl, rfl⟩
  go_wp2_with fail
  refine (rbytes_any (it.v % 256 ^ wd it.d) HM.out.2 (wd it.d) w8 w2).mono ?_
  rintro e3 w3 ⟨b, rfl, o3, l3⟩
  rw [HM.out.1] at o3
  obtain ⟨bo, bc, rfl, sb, nb⟩ := own_seen (leB_length (wd it.d) it.v) (leB_bytes _ _) (by omega) o3
  obtain ⟨xb, xo, xe, _⟩ := sb.cells hd
  have V3 : Hid (Seen w3 bo (wd it.d) (leB (wd it.d) it.v) ∧ (bo = none → bc = 0) ∧ Below w2.heap.size w2 w3) := ⟨sb, (fun h => by rw [h] at xe; cases xe), l3⟩
  clear xe
  clear o3 l3 sb nb cv
  go_wp2_with fail
  refine (rwbytes_any q y size zs e bo (wd it.d) bc (leB (wd it.d) it.v) w3 (V2.out.2.2.2.2.later V3.out.2.2 (Nat.le_refl _)) V3.out.1 V3.out.2.1).mono ?_
  rintro e4 w4 ⟨rfl, y', o4, k4, g4⟩
  have R := tww_step X.out.1 V1.out.2 V2.out.1 V2.out.2.1 V2.out.2.2.1 V3.out.2.2 o4 k4 g4
  have HR : Hid (TwW w4 r v' q y' size (wbL size zs e (leB (wd it.d) it.v)) (wbE size zs e (leB (wd it.d) it.v)) ∧ Kept (Ft r v q y) w w4 ∧ ∀ k, Ft r v' q y' k → Ft r v q y k ∨ w.heap.size ≤ k) := R
  clear R o4 k4 g4
  go_wp2_with fail
  go_ret
  exact ⟨rfl, _, _, _, _, HR.out⟩
set_option maxRecDepth 20000 in
set_option maxHeartbeats 1000000 in
theorem wrote_bytes (r : Nat) (v : Value) (q : Nat) (y : Value) (size : Nat) (zs : List Int) (e : Int) (it : Item) (so : Option Addr) (cs : Nat) (w : World) (x : TwW w r v q y size zs e) (hi : ItIn w it so cs) (hf : ∀ b o, 0 < it.data.length → so = some ⟨b, o, none⟩ → ¬ Ft r v q y b) (hd : it.d = 5) :
    Calls Try.prog 16 #[.pointer (some ⟨r, 0, none⟩), .pointer (some ⟨q, 0, none⟩), .agg (stepC it so cs).toArray] w (Wrote r v q y size w) := by
  have X : Hid (TwW w r v q y size zs e ∧ ItIn w it so cs) := ⟨x, hi⟩
  have i1 : ¬ (0 : Int) < ((wd it.d : Nat) : Int) := by rw [wd_none (by omega)]; decide
  have q5 : (it.d == 5) = true := by simp [hd]
  obtain ⟨n, hn⟩ : ∃ n, it.data.length = n := ⟨_, rfl⟩
  have tn := hi.top
  rw [hn] at tn
  have HN : Hid (it.data.length = n ∧ Seen w so n it.data ∧ Bytes it.data ∧ (∀ b o, 0 < n → so = some ⟨b, o, none⟩ → ¬ Ft r v q y b)) := ⟨hn, by rw [← hn]; exact hi.seen, hi.seen.bytes, by rw [← hn]; exact hf⟩
  clear x hi hd hf
  go_enter Try.func16, Try.ntmps16
  go_wp2_with (first | (refine wpList_box_new rfl 35 _ rfl (stepC it so cs) rfl ?_; intro w1 b1 s1 l1; have cd := b1.cell 0; rw [show (stepC it so cs)[0]? = some (.int .i64 it.d) from rfl] at cd; have cv := b1.cell 2; rw [show (stepC it so cs)[2]? = some (.int .u64 it.v) from rfl] at cv; have ca := b1.cell 3; rw [show (stepC it so cs)[3]? = some (.slice so it.data.length cs) from rfl] at ca) | (go_at_call 20; refine (width_any it.d _).mono ?_; rintro e w' ⟨rfl, rfl⟩))
  have V1 : Hid (Blk w1 w.heap.size 35 (stepC it so cs) ∧ Below w.heap.size w w1) := ⟨b1, l1⟩
  clear b1 s1 l1 cd cv ca hn
  refine (lent_any so n cs it.data w1 (HN.out.2.1.later V1.out.2 (Nat.le_refl _)) X.out.2.nil (by omega)).mono ?_
  rintro e2 w2 ⟨g, cap, rfl, ro, ge, cp, mx, l2⟩
  have HC : Hid (n + 90 ≤ cap ∧ cap ≤ maxLen ∧ w1.heap.size ≤ g) := ⟨cp, mx, ge⟩
  have z1 := V1.out.2.size
  have V2 : Hid (RowAt w2 g (it.data ++ marks) ∧ Below w.heap.size w w2 ∧ Blk w2 w.heap.size 35 (stepC it so cs)) := ⟨ro, below_chain V1.out.2 l2 z1, V1.out.1.later l2 V1.out.1.lt⟩
  have lg := ro.lt
  clear ro ge l2
  go_wp2_with fail
  refine (wbytes_any r v size zs e (some ⟨g, 0, none⟩) n cap it.data w2 (X.out.1.one.later V2.out.2.1 (Nat.le_refl _)) (seen_front V2.out.1 HN.out.1 (by omega) HN.out.2.2.1) (fun h => by cases h)).mono ?_
  rintro e3 w3 ⟨rfl, v', o3, k3, g3⟩
  have V3 : Hid (Wr w3 r v' size (wbL size zs e it.data) (wbE size zs e it.data) ∧ Kept (WFoot r v) w2 w3 ∧ (∀ g, v'.ownBlock = some g → v.ownBlock = some g ∨ w2.heap.size ≤ g) ∧ Blk w3 w.heap.size 35 (stepC it so cs) ∧ Wr w3 q y size zs e ∧ RowAt w3 g (it.data ++ marks)) := ⟨o3, k3, g3, V2.out.2.2.kept k3 (fun h => by have := X.out.1.one.foot_lt _ h; omega), (X.out.1.two.later V2.out.2.1 (Nat.le_refl _)).kept k3 (fun h => X.out.1.ne q h (.inl rfl)) (fun g hg h => X.out.1.ne g h (.inr hg)), V2.out.1.block (k3.block g lg (fun h => by have := X.out.1.one.foot_lt _ h; have := HC.out.2.2; omega))⟩
  have S3 : Hid (Seen w3 so n it.data) := HN.out.2.1.kept ((kept_of_below (S := WFoot r v) V2.out.2.1 (Nat.le_refl _)).trans k3) (fun b o h0 e hS => HN.out.2.2.2 b o h0 e (.inl hS))
  have ca := V3.out.2.2.2.1.cell 3
  rw [show (stepC it so cs)[3]? = some (.slice so it.data.length cs) from rfl, HN.out.1] at ca
  have z3 := k3.size
  clear o3 k3 g3
  go_wp2_with fail
  refine (rwbytes_any q y size zs e so n cs it.data w3 V3.out.2.2.2.2.1 S3.out X.out.2.nil).mono ?_
  rintro e4 w4 ⟨rfl, y', o4, k4, g4⟩
  have R := tww_step X.out.1 V2.out.2.1 V3.out.1 V3.out.2.1 V3.out.2.2.1 (Below.refl _ w3) o4 k4 g4
  have HR : Hid (TwW w4 r v' q y' size (wbL size zs e it.data) (wbE size zs e it.data) ∧ Kept (Ft r v q y) w w4 ∧ (∀ k, Ft r v' q y' k → Ft r v q y k ∨ w.heap.size ≤ k) ∧ RowAt w4 g (it.data ++ marks) ∧ Blk w4 w.heap.size 35 (stepC it so cs)) := ⟨R.1, R.2.1, R.2.2, V3.out.2.2.2.2.2.block (k4.block g (by omega) (fun h => by have := X.out.1.two.foot_lt _ h; have := HC.out.2.2; omega)), V3.out.2.2.2.1.kept k4 (fun h => by have := X.out.1.two.foot_lt _ h; omega)⟩
  have S4 : Hid (Seen w4 so n it.data) := HN.out.2.1.kept HR.out.2.1 (fun b o h0 e hS => HN.out.2.2.2 b o h0 e hS)
  have NG : Hid (∀ k, Ft r v' q y' k → k ≠ g) := fun k hk e => by
    have gg := HC.out.2.2
    rcases hk with (h | h) | (h | h)
    · have := X.out.1.one.foot_lt k (.inl h); omega
    · rcases V3.out.2.2.1 k h with h | h
      · have := X.out.1.one.foot_lt k (.inr h); omega
      · omega
    · have := X.out.1.two.foot_lt k (.inl h); omega
    · rcases g4 k h with h | h
      · have := X.out.1.two.foot_lt k (.inr h); omega
      · omega
  clear ca R o4 k4 g4
  have ca := HR.out.2.2.2.2.cell 3
  rw [show (stepC it so cs)[3]? = some (.slice so it.data.length cs) from rfl, HN.out.1] at ca
  go_wp2_with fail
  refine (still_yes g n cap so cs it.data w4 HR.out.2.2.2.1 HC.out.1 HC.out.2.1 S4.out).mono ?_
  rintro e5 w5 ⟨rfl, a5, hw5⟩
  have H5 : Hid (TwW w5 r v' q y' size (wbL size zs e it.data) (wbE size zs e it.data) ∧ Kept (Ft r v q y) w w5 ∧ (∀ k, Ft r v' q y' k → Ft r v q y k ∨ w.heap.size ≤ k) ∧ RowAt w5 g (it.data ++ marks)) := by rw [hw5]; exact ⟨HR.out.1.dn a5, HR.out.2.1.trans (kept_of_below (below_dn (Below.refl w4.heap.size w4) a5) (Nat.le_refl _)), HR.out.2.2.1, HR.out.2.2.2.1.drewN a5⟩
  have LM : Hid ((it.data ++ marks).length = n + 90) := by show _ = _; rw [List.length_append, HN.out.1, marks_length]
  have le1 : n ≤ cap := by omega
  have gw : w.heap.size ≤ g := by have := HC.out.2.2; omega
  clear hw5 HR ca
  go_wp2_with fail
  go_loopw [9] (fun i wr => ∃ (k : Nat) (us : List Int), k ≤ n ∧ i = .int .i64 k ∧ us.length = n + 90 ∧ RowAt wr g us ∧ TwW wr r v' q y' size (wbL size zs e it.data) (wbE size zs e it.data) ∧ Kept (Ft r v q y) w wr) (fun i _ => n - (intOf i).toNat)
  case atStart => exact ⟨0, _, Nat.zero_le _, rfl, LM.out, H5.out.2.2.2, H5.out.1, H5.out.2.1⟩
  case round =>
    obtain ⟨k, us, hk, rfl, hul, hr, htw, hkp⟩ := hrel
    by_cases hlt : k < n
    · have c1 := hr.cell k (by omega)
      have f1 := hr.frozen k
      obtain ⟨Z, hZ⟩ : ∃ Z, us.getD k 0 = Z := ⟨_, rfl⟩
      rw [hZ] at c1
      obtain ⟨Y, hY⟩ : ∃ X, bits .xor .u8 Z 255 = X := ⟨_, rfl⟩
      have T1 : Hid (RowAt (wr.setCell ⟨g, k, none⟩ (.int .u8 Y)) g (us.set k Y) ∧ (us.set k Y).length = n + 90 ∧ TwW (wr.setCell ⟨g, k, none⟩ (.int .u8 Y)) r v' q y' size (wbL size zs e it.data) (wbE size zs e it.data) ∧ Kept (Ft r v q y) w (wr.setCell ⟨g, k, none⟩ (.int .u8 Y))) := ⟨hr.set k (by omega) Y, by rw [List.length_set]; exact hul, htw.kept ((Kept.refl (fun y => y = g) wr).setCell (p := ⟨g, k, none⟩) rfl _) NG.out, kept_new hkp gw k _⟩
      have j1 : (0 : Int) ≤ (k : Int) := by omega
      have j2 : (k : Int) < (n : Int) := by omega
      clear hZ hr htw hkp hul
      go_wp2_with fail
      go_roundw
      case rel => exact ⟨k + 1, _, by omega, by go_num, T1.out.2.1, T1.out.1, T1.out.2.2.1, T1.out.2.2.2⟩
      case measure => simp [intOf]; omega
    · have j2 : ¬ (k : Int) < (n : Int) := by omega
      have W6 : Hid (TwW wr r v' q y' size (wbL size zs e it.data) (wbE size zs e it.data) ∧ Kept (Ft r v q y) w wr) := ⟨htw, hkp⟩
      clear hr htw hkp hul
      go_wp2_with fail
      go_ret
      exact ⟨rfl, _, _, _, _, W6.out.1, W6.out.2, H5.out.2.2.1⟩
set_option maxRecDepth 20000 in
set_option maxHeartbeats 1000000 in
theorem wrote_left (r : Nat) (v : Value) (q : Nat) (y : Value) (size : Nat) (zs : List Int) (e : Int) (it : Item) (so : Option Addr) (cs : Nat) (w : World) (x : TwW w r v q y size zs e) (hi : ItIn w it so cs) (hf : ∀ b o, 0 < it.data.length → so = some ⟨b, o, none⟩ → ¬ Ft r v q y b) (hd : it.d = 6) :
    Calls Try.prog 16 #[.pointer (some ⟨r, 0, none⟩), .pointer (some ⟨q, 0, none⟩), .agg (stepC it so cs).toArray] w (Wrote r v q y size w) := by
  have X : Hid (TwW w r v q y size zs e ∧ ItIn w it so cs) := ⟨x, hi⟩
  have i1 : ¬ (0 : Int) < ((wd it.d : Nat) : Int) := by rw [wd_none (by omega)]; decide
  have q5 : (it.d == 5) = false := by simp; omega
  have q6 : (it.d == 6) = true := by simp [hd]
  clear x hi hf hd
  go_enter Try.func16, Try.ntmps16
  go_wp2_with (first | (refine wpList_box_new rfl 35 _ rfl (stepC it so cs) rfl ?_; intro w1 b1 s1 l1; have cd := b1.cell 0; rw [show (stepC it so cs)[0]? = some (.int .i64 it.d) from rfl] at cd; have cv := b1.cell 2; rw [show (stepC it so cs)[2]? = some (.int .u64 it.v) from rfl] at cv; have ca := b1.cell 3; rw [show (stepC it so cs)[3]? = some (.slice so it.data.length cs) from rfl] at ca) | (go_at_call 20; refine (width_any it.d _).mono ?_; rintro e w' ⟨rfl, rfl⟩))
  have V1 : Hid (TwW w1 r v q y size zs e ∧ Below w.heap.size w w1) := ⟨X.out.1.later l1, l1⟩
  clear b1 s1 l1 cd cv ca
  refine (wleft_any r v size zs e w1 V1.out.1.one).mono ?_
  rintro e2 w2 ⟨rfl, a, rfl⟩
  go_wp2_with fail
  refine (rwleft_any q y size zs e (w1.drewN a) (V1.out.1.dn a).two).mono ?_
  rintro e3 w3 ⟨rfl, b, rfl⟩
  go_wp2_with fail
  go_ret
  exact ⟨by simp, _, _, _, _, V1.out.1.dn (a + b), kept_of_below (below_dn V1.out.2 (a + b)) (Nat.le_refl _), fun k hk => .inl hk⟩
set_option maxRecDepth 20000 in
set_option maxHeartbeats 1000000 in
theorem wrote_none (r : Nat) (v : Value) (q : Nat) (y : Value) (size : Nat) (zs : List Int) (e : Int) (it : Item) (so : Option Addr) (cs : Nat) (w : World) (x : TwW w r v q y size zs e) (hi : ItIn w it so cs) (hf : ∀ b o, 0 < it.data.length → so = some ⟨b, o, none⟩ → ¬ Ft r v q y b) (hd : it.d ≠ 1 ∧ it.d ≠ 2 ∧ it.d ≠ 3 ∧ it.d ≠ 4 ∧ it.d ≠ 5 ∧ it.d ≠ 6 ∧ it.d ≠ 8) :
    Calls Try.prog 16 #[.pointer (some ⟨r, 0, none⟩), .pointer (some ⟨q, 0, none⟩), .agg (stepC it so cs).toArray] w (Wrote r v q y size w) := by
  have X : Hid (TwW w r v q y size zs e ∧ ItIn w it so cs) := ⟨x, hi⟩
  have i1 : ¬ (0 : Int) < ((wd it.d : Nat) : Int) := by rw [wd_none (by omega)]; decide
  have q5 : (it.d == 5) = false := by simp; omega
  have q6 : (it.d == 6) = false := by simp; omega
  have q8 : (it.d == 8) = false := by simp; omega
  clear x hi hf hd
  go_enter Try.func16, Try.ntmps16
  go_wp2_with (first | (refine wpList_box_new rfl 35 _ rfl (stepC it so cs) rfl ?_; intro w1 b1 s1 l1; have cd := b1.cell 0; rw [show (stepC it so cs)[0]? = some (.int .i64 it.d) from rfl] at cd; have cv := b1.cell 2; rw [show (stepC it so cs)[2]? = some (.int .u64 it.v) from rfl] at cv; have ca := b1.cell 3; rw [show (stepC it so cs)[3]? = some (.slice so it.data.length cs) from rfl] at ca) | (go_at_call 20; refine (width_any it.d _).mono ?_; rintro e w' ⟨rfl, rfl⟩))
  go_ret
  exact ⟨rfl, _, _, _, _, X.out.1.later l1, kept_of_below l1 (Nat.le_refl _), fun k hk => .inl hk⟩
set_option maxRecDepth 20000 in
set_option maxHeartbeats 1000000 in
theorem wrote_end (r : Nat) (v : Value) (q : Nat) (y : Value) (size : Nat) (zs : List Int) (e : Int) (it : Item) (so : Option Addr) (cs : Nat) (w : World) (x : TwW w r v q y size zs e) (hi : ItIn w it so cs) (hf : ∀ b o, 0 < it.data.length → so = some ⟨b, o, none⟩ → ¬ Ft r v q y b) (hd : it.d = 8) :
    Calls Try.prog 16 #[.pointer (some ⟨r, 0, none⟩), .pointer (some ⟨q, 0, none⟩), .agg (stepC it so cs).toArray] w (Wrote r v q y size w) := by
  have X : Hid (TwW w r v q y size zs e ∧ ItIn w it so cs) := ⟨x, hi⟩
  have i1 : ¬ (0 : Int) < ((wd it.d : Nat) : Int) := by rw [wd_none (by omega)]; decide
  have q5 : (it.d == 5) = false := by simp; omega
  have q6 : (it.d == 6) = false := by simp; omega
  have q8 : (it.d == 8) = true := by simp [hd]
  have hb : Bytes (dnL size zs e) := by unfold dnL; split; exact (fun z hz => by cases hz); exact x.one.hb
  have hle : (dnL size zs e).length ≤ 1048576 := by
    have h1 := x.one.hs
    have h2 := x.one.ht
    unfold dnL; split
    · exact Nat.zero_le _
    · omega
  obtain ⟨L, hL⟩ : ∃ L, dnL size zs e = L := ⟨_, rfl⟩
  obtain ⟨E', hE⟩ : ∃ L, dnE size zs e = L := ⟨_, rfl⟩
  obtain ⟨m, hm⟩ : ∃ m, L.length = m := ⟨_, rfl⟩
  rw [hL] at hb hle
  rw [hm] at hle
  have HL : Hid (dnL size zs e = L ∧ dnE size zs e = E' ∧ Bytes L ∧ L.length = m) := ⟨hL, hE, hb, hm⟩
  have eE : (E' != E') = false := by simp
  clear x hi hf hd hL hE hb hm
  go_enter Try.func16, Try.ntmps16
  go_wp2_with (first | (refine wpList_box_new rfl 35 _ rfl (stepC it so cs) rfl ?_; intro w1 b1 s1 l1; have cd := b1.cell 0; rw [show (stepC it so cs)[0]? = some (.int .i64 it.d) from rfl] at cd; have cv := b1.cell 2; rw [show (stepC it so cs)[2]? = some (.int .u64 it.v) from rfl] at cv; have ca := b1.cell 3; rw [show (stepC it so cs)[3]? = some (.slice so it.data.length cs) from rfl] at ca) | (go_at_call 20; refine (width_any it.d _).mono ?_; rintro e w' ⟨rfl, rfl⟩))
  have V1 : Hid (TwW w1 r v q y size zs e ∧ Below w.heap.size w w1) := ⟨X.out.1.later l1, l1⟩
  clear b1 s1 l1 cd cv ca
  refine (done_any r v size zs e w1 V1.out.1.one).mono ?_
  rintro e2 w2 ⟨u, rfl, o2, l2⟩
  rw [HL.out.1, HL.out.2.2.2] at o2
  rw [HL.out.2.1]
  obtain ⟨vo, cv, rfl, s2, _⟩ := own_seen HL.out.2.2.2 HL.out.2.2.1 (by omega) o2
  have V2 : Hid (TwW w2 r v q y size zs e ∧ Below w.heap.size w w2 ∧ w2.ownsRow w1.heap.size 5 1 (.slice vo m cv) m (L.map (Value.int .u8))) := ⟨V1.out.1.later l2, below_chain V1.out.2 l2 V1.out.2.size, o2⟩
  clear o2 l2 s2
  go_wp2_with fail
  refine (rdone_any q y size zs e w2 V2.out.1.two).mono ?_
  rintro e3 w3 ⟨u, rfl, o3, l3⟩
  rw [HL.out.1, HL.out.2.2.2] at o3
  rw [HL.out.2.1]
  obtain ⟨uo, uc, rfl, su, _⟩ := own_seen HL.out.2.2.2 HL.out.2.2.1 (by omega) o3
  have V3 : Hid (TwW w3 r v q y size zs e ∧ Below w.heap.size w w3 ∧ w3.ownsRow w1.heap.size 5 1 (.slice vo m cv) m (L.map (Value.int .u8)) ∧ Seen w3 uo m L) := ⟨V2.out.1.later l3, below_chain V2.out.2.1 l3 V2.out.2.1.size, ownsRow_below V2.out.2.2 l3, su⟩
  clear o3 l3 su V2
  obtain ⟨vs, vc, ve, hvs, _⟩ := own_seen HL.out.2.2.2 HL.out.2.2.1 (by omega) V3.out.2.2.1
  obtain ⟨e1, e2⟩ : vo = vs ∧ cv = vc := by simpa using ve
  subst e1 e2
  go_wp2_with fail
  refine (same_yes vo uo m m cv uc L w3 hvs V3.out.2.2.2).mono ?_
  rintro e4 w4 ⟨rfl, a, hw4⟩
  have V4 : Hid (TwW w4 r v q y size zs e ∧ Below w.heap.size w w4 ∧ w4.ownsRow w1.heap.size 5 1 (.slice vo m cv) m (L.map (Value.int .u8))) := by rw [hw4]; exact ⟨V3.out.1.dn a, below_dn V3.out.2.1 a, ownsRow_below V3.out.2.2.1 (below_dn (Below.refl w3.heap.size w3) a)⟩
  have HV : Hid (0 < m → ∃ g, vo = some ⟨g, 0, none⟩ ∧ w1.heap.size ≤ g) := fun h0 => by
    rcases own_len HL.out.2.2.2 V4.out.2.2 with ⟨e1, e2⟩ | ⟨g, cap, e1, r1, g1, _⟩
    · omega
    · obtain ⟨e3, _⟩ : vo = some ⟨g, 0, none⟩ ∧ cv = cap := by simpa using e1
      exact ⟨g, e3, g1⟩
  have lw := V1.out.2.size
  clear hw4 hvs V3
  go_wp2_with fail
  go_loopw [14] (fun i wr => ∃ (k : Nat) (us : List Int), k ≤ m ∧ i = .int .i64 k ∧ us.length = m ∧ wr.ownsRow w1.heap.size 5 1 (.slice vo m cv) m (us.map (Value.int .u8)) ∧ TwW wr r v q y size zs e ∧ Below w.heap.size w wr) (fun i _ => m - (intOf i).toNat)
  case atStart => exact ⟨0, L, Nat.zero_le _, rfl, HL.out.2.2.2, V4.out.2.2, V4.out.1, V4.out.2.1⟩
  case round =>
    obtain ⟨k, us, hk, rfl, hul, hown, htw, hbe⟩ := hrel
    by_cases hlt : k < m
    · obtain ⟨g, e5, g1⟩ := HV.out (by omega)
      have HO : Hid (vo = some ⟨g, 0, none⟩) := e5
      rw [e5] at hown ⊢
      obtain ⟨c4', f4'⟩ := own_at hown k hlt
      obtain ⟨Z, hZ⟩ : ∃ Z, us.getD k 0 = Z := ⟨_, rfl⟩
      rw [hZ] at c4'
      obtain ⟨Y, hY⟩ : ∃ X, bits .xor .u8 Z 255 = X := ⟨_, rfl⟩
      have T1 : Hid ((wr.setCell ⟨g, k, none⟩ (.int .u8 Y)).ownsRow w1.heap.size 5 1 (.slice vo m cv) m ((us.set k Y).map (Value.int .u8)) ∧ (us.set k Y).length = m ∧ TwW (wr.setCell ⟨g, k, none⟩ (.int .u8 Y)) r v q y size zs e ∧ Below w.heap.size w (wr.setCell ⟨g, k, none⟩ (.int .u8 Y))) := by
        have K1 := (Kept.refl (fun y => y = g) wr).setCell (p := ⟨g, k, none⟩) rfl (.int .u8 Y)
        exact ⟨by rw [HO.out]; exact own_set hown k hlt Y, by rw [List.length_set]; exact hul, htw.kept K1 (fun j hj e => by have := X.out.1.lt j hj; omega), below_kept hbe K1 hbe.size (fun j hj e => by omega)⟩
      have j1 : (0 : Int) ≤ (k : Int) := by omega
      have j2 : (k : Int) < (m : Int) := by omega
      clear hZ hul hown htw hbe
      go_wp2_with fail
      try rw [← HO.out]
      go_roundw
      case rel => exact ⟨k + 1, _, by omega, by go_num, T1.out.2.1, T1.out.1, T1.out.2.2.1, T1.out.2.2.2⟩
      case measure => simp [intOf]; omega
    · have j2 : ¬ (k : Int) < (m : Int) := by omega
      have W5 : Hid (TwW wr r v q y size zs e ∧ Below w.heap.size w wr) := ⟨htw, hbe⟩
      clear hown htw hbe hul
      go_wp2_with fail
      go_ret
      exact ⟨rfl, _, _, _, _, W5.out.1, kept_of_below W5.out.2 (Nat.le_refl _), fun k hk => .inl hk⟩
theorem wrote_any (r : Nat) (v : Value) (q : Nat) (y : Value) (size : Nat) (zs : List Int) (e : Int) (it : Item) (so : Option Addr) (cs : Nat) (w : World) (x : TwW w r v q y size zs e) (hi : ItIn w it so cs) (hf : ∀ b o, 0 < it.data.length → so = some ⟨b, o, none⟩ → ¬ Ft r v q y b) :
    Calls Try.prog 16 #[.pointer (some ⟨r, 0, none⟩), .pointer (some ⟨q, 0, none⟩), .agg (stepC it so cs).toArray] w (Wrote r v q y size w) := by
  by_cases h : 0 < wd it.d
  · exact wrote_num r v q y size zs e it so cs w x hi hf h
  · by_cases h5 : it.d = 5
    · exact wrote_bytes r v q y size zs e it so cs w x hi hf h5
    · by_cases h6 : it.d = 6
      · exact wrote_left r v q y size zs e it so cs w x hi hf h6
      · by_cases h8 : it.d = 8
        · exact wrote_end r v q y size zs e it so cs w x hi hf h8
        · refine wrote_none r v q y size zs e it so cs w x hi hf ?_
          rcases wd_cases it.d with g | g | g | g | g <;> omega
end Go.Proofs.Ytgcpckkhkppnhaa
